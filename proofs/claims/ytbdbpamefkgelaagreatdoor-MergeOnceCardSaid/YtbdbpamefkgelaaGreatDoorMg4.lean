/- Layer 18's law: MergeOnce. -/
import Derived.Test.YtbdbpamefkgelaaGreatDoorMgMg1
import Derived.Test.YtbdbpamefkgelaaGreatDoorMg3
namespace Go.Proofs.YtbdbpamefkgelaaGreatDoor
set_option maxRecDepth 100000
open Go.RowKit Fl
set_option linter.unusedVariables false

theorem alike_yes {ok ok2 : Nat → Prop} (u u2 : Value) (B D : VV) (i k n : Nat) (w : World) (hB : gV 39 B) (hD : gV 39 D) (hc : B.cls < 2) (hcd : D.cls = B.cls) (hbn : B.len = n) (hdn : D.len = n) (hi : i < n) (hk : k < n) (hkey : keyV B i = keyV D k) (hu : IsV w ok u B) (hu2 : IsV w ok2 u2 D) :
    Calls Tryz.prog 27 #[.agg #[u], .int .i64 (i : Int), .agg #[u2], .int .i64 (k : Int)] w fun e w' => e = .returned (.bool true) ∧ Below w.heap.size w w' := by
  have h := alike_calls 39 (vsame_calls 39) u u2 B D i k w hB.1 hD.1 hB.2.1 hD.2.1 hB.2.2.2 hD.2.2.2 (by omega) (by omega) hu hu2
  rw [key_alike (VV.nums_num hB.1 hB.2.1) (VV.nums_num hD.1 hD.2.1) hcd.symm hc hkey] at h
  exact h
/-- What is picked in order: it is of its class, of its length, good. -/
theorem once_facts {A : VV} (hg : gV 39 A) (hc : A.cls < 2) (ht : ∀ z ∈ A.text, -2147483648 ≤ z ∧ z ≤ 2147483647) (down : Bool) : gV 39 (A.sel (zL (mgL A 1 down))) ∧ (A.sel (zL (mgL A 1 down))).cls = A.cls ∧ (A.sel (zL (mgL A 1 down))).len = A.len ∧ (A.sel (zL (mgL A 1 down))).kind ≠ 0 ∧ (∀ z ∈ (A.sel (zL (mgL A 1 down))).text, -2147483648 ≤ z ∧ z ≤ 2147483647) := by
  have hl : (zL (mgL A 1 down)).length = A.len := by rw [zL_len, mgL_len, Nat.div_one]
  have hm : (zL (mgL A 1 down)).length ≤ 1048576 := by rw [hl]; exact VV.ok_len hg.1
  have hN := VV.nums_num hg.1 hg.2.1
  have h1 := gV_sel (d := 38) hg hm
  have h2 := VV.sel_cls A _ hN hm
  exact ⟨h1, h2, by rw [VV.sel_len A _ hN hm, hl], gV_kind h1, sel_text ht _ (fun h => by rw [h2]; exact h)⟩
theorem ordered_of {ok : Nat → Prop} (u : Value) (A B : VV) (down : Bool) (w : World) (h : IsV w ok u A) (hA : A.ok ∧ A.nm) (ht : ∀ z ∈ A.text, -2147483648 ≤ z ∧ z ≤ 2147483647) (hc : A.cls < 2) (hk : A.kind ≠ 0) (hT : TabAt w) (hB : A.sel (zL (mgL A 1 down)) = B) :
    Calls Tryz.prog 19 #[.agg #[u], .bool down] w fun e w' => ∃ u', e = .returned (.tuple #[.agg #[u'], .bool true]) ∧ IsV w' (fun _ => True) u' B ∧ Below w.heap.size w w' := by
  subst hB
  refine (mgordered_yes u A down w h hA ht hc hk hT).mono ?_
  rintro e w' ⟨u', h1, h2, h3⟩
  exact ⟨u', h1, IsV.any h2, h3⟩
set_option maxHeartbeats 16000000 in
theorem mergeOnce_walk (p : PA) (u : Value) (nd : Nat) (w : World) (hl : lo nd p) (hp : IsP w (fun _ => True) u p) (hch : chO p) (hT : TabAt w) :
    Calls Tryz.prog 6 #[u] w (Yes18 w) := by
  have HP := Lib.hid hp
  have HLO := Lib.hid hl
  have HCH := Lib.hid hch
  obtain ⟨so, sc, io, ic, rfl, hs, hit⟩ := hp.opened
  obtain ⟨W1, hW1⟩ : ∃ W1, W1 = w.alloc (.cells #[.slice so p.s.length sc, .slice io p.l.length ic, .int .i64 p.f] 32) := ⟨_, rfl⟩
  have HB := Lib.hid (show Below w.heap.size w W1 by rw [hW1]; exact below_new _ _)
  have HA := Lib.hid (show At3 W1 w.heap.size (.slice so p.s.length sc) (.slice io p.l.length ic) (.int .i64 p.f) by rw [hW1]; exact At3.new w _ _ _ _)
  have HI := Lib.hid (show IsP W1 (fun _ => True) _ p from HP.out.grow HB.out)
  have HT := Lib.hid (show TabAt W1 from fun j hj => keep_below HB.out _ _ (hT j hj))
  obtain ⟨cc, hcc⟩ : ∃ cc, chk 40 p = cc := ⟨_, rfl⟩
  have HCC := Lib.hid hcc
  obtain ⟨n, hn⟩ : ∃ n, p.l.length = n := ⟨_, rfl⟩
  obtain ⟨f, hf⟩ : ∃ f, p.f = f := ⟨_, rfl⟩
  have HN := Lib.hid hn
  have HF := Lib.hid hf
  have hfold := hW1.symm
  have hnm : n ≤ maxLen := by rw [← hn]; obtain ⟨a9, c9, e9, h8, h9⟩ := hit.len; omega
  clear hs hit hp hl hW1 hcc hT hch
  rw [hn, hf] at HA HI hfold ⊢
  clear hn hf HP
  have cHA0 := HA.out.2.1
  have cHA1 := HA.out.2.2.1
  have cHA2 := HA.out.2.2.2.1
  go_enter Tryz.func6, Tryz.ntmps6
  go_wp2_with fail
  clear hfold
  refine (pcount_calls nd _ p _ _ _ HLO.out HI.out).mono ?_
  rintro e W11 ⟨cn, rfl, hB⟩
  clear cHA0 cHA1 cHA2
  replace HA := Lib.hid (HA.out.below hB)
  replace HB := Lib.hid (HB.out.trans (hB.mono HB.out.size))
  replace HI := Lib.hid (HI.out.grow hB)
  replace HT := Lib.hid (fun j hj => keep_below hB _ _ (HT.out j hj))
  clear hB
  have cHA0 := HA.out.2.1
  have cHA1 := HA.out.2.2.1
  have cHA2 := HA.out.2.2.2.1
  by_cases hcn : cn ≤ 1000
  rotate_left
  · go_wp2_with fail
    refine (awake18_calls _ HT.out).mono ?_
    rintro e W12 ⟨rfl, hB⟩
    clear cHA0 cHA1 cHA2
    replace HA := Lib.hid (HA.out.below hB)
    replace HB := Lib.hid (HB.out.trans (hB.mono HB.out.size))
    replace HI := Lib.hid (HI.out.grow hB)
    replace HT := Lib.hid (fun j hj => keep_below hB _ _ (HT.out j hj))
    clear hB
    have cHA0 := HA.out.2.1
    have cHA1 := HA.out.2.2.1
    have cHA2 := HA.out.2.2.2.1
    go_wp2_with fail
    go_ret
    exact ⟨rfl, HB.out⟩
  by_cases hn3 : n ≤ 200
  rotate_left
  · go_wp2_with fail
    refine (awake18_calls _ HT.out).mono ?_
    rintro e W12 ⟨rfl, hB⟩
    clear cHA0 cHA1 cHA2
    replace HA := Lib.hid (HA.out.below hB)
    replace HB := Lib.hid (HB.out.trans (hB.mono HB.out.size))
    replace HI := Lib.hid (HI.out.grow hB)
    replace HT := Lib.hid (fun j hj => keep_below hB _ _ (HT.out j hj))
    clear hB
    have cHA0 := HA.out.2.1
    have cHA1 := HA.out.2.2.1
    have cHA2 := HA.out.2.2.2.1
    go_wp2_with fail
    go_ret
    exact ⟨rfl, HB.out⟩
  go_wp2_with fail
  refine (vCheck_calls _ p _ nd _ HLO.out HI.out).mono ?_
  rintro e W12 ⟨rfl, hB⟩
  clear cHA0 cHA1 cHA2
  replace HA := Lib.hid (HA.out.below hB)
  replace HB := Lib.hid (HB.out.trans (hB.mono HB.out.size))
  replace HI := Lib.hid (HI.out.grow hB)
  replace HT := Lib.hid (fun j hj => keep_below hB _ _ (HT.out j hj))
  rw [HCC.out]
  clear hB
  have cHA0 := HA.out.2.1
  have cHA1 := HA.out.2.2.1
  have cHA2 := HA.out.2.2.2.1
  by_cases hc0 : cc = 0
  rotate_left
  · have hce : (cc == 0) = false := by simpa using hc0
    have hce2 : (cc != 0) = true := by simpa using hc0
    clear hc0
    go_wp2_with fail
    refine (awake18_calls _ HT.out).mono ?_
    rintro e W13 ⟨rfl, hB⟩
    clear cHA0 cHA1 cHA2
    replace HA := Lib.hid (HA.out.below hB)
    replace HB := Lib.hid (HB.out.trans (hB.mono HB.out.size))
    replace HI := Lib.hid (HI.out.grow hB)
    replace HT := Lib.hid (fun j hj => keep_below hB _ _ (HT.out j hj))
    clear hB
    have cHA0 := HA.out.2.1
    have cHA1 := HA.out.2.2.1
    have cHA2 := HA.out.2.2.2.1
    go_wp2_with fail
    go_ret
    exact ⟨rfl, HB.out⟩
  have HC0 := Lib.hid (show chk 40 p = 0 from HCC.out.trans hc0)
  have HN3 := Lib.hid hn3
  have hce : (cc == 0) = true := by simpa using hc0
  have hce2 : (cc != 0) = false := by simpa using hc0
  clear hc0
  by_cases hf2 : f = 2
  · have hf3 : (f == 2) = true := by simpa using hf2
    have hf4 := HF.out
    clear hf4 hf2
    go_wp2_with fail
    refine (awake18_calls _ HT.out).mono ?_
    rintro e W13 ⟨rfl, hB⟩
    clear cHA0 cHA1 cHA2
    replace HA := Lib.hid (HA.out.below hB)
    replace HB := Lib.hid (HB.out.trans (hB.mono HB.out.size))
    replace HI := Lib.hid (HI.out.grow hB)
    replace HT := Lib.hid (fun j hj => keep_below hB _ _ (HT.out j hj))
    clear hB
    have cHA0 := HA.out.2.1
    have cHA1 := HA.out.2.2.1
    have cHA2 := HA.out.2.2.2.1
    go_wp2_with fail
    go_ret
    exact ⟨rfl, HB.out⟩
  have hfe : (f == 2) = false := by simpa using hf2
  obtain ⟨A, hA⟩ : ∃ A, (arrP 40 p).2 = A := ⟨_, rfl⟩
  obtain ⟨v1, v2, v3, v4, v5, v6⟩ := good_vec HC0.out
  have HTX := Lib.hid (text_arr18 HC0.out HCH.out)
  have HKN := Lib.hid (kind_none HC0.out)
  have HGV := Lib.hid (gA_gV (d := 39) (arrP_good 40 p HC0.out))
  have HTI0 := Lib.hid (its_arrP (d := 39) HC0.out)
  rw [hA] at v1 v2 v5 HTX HKN HGV HTI0
  rw [HF.out] at v1 v5
  rw [HN.out] at v2 v6
  have HOK := Lib.hid (show A.ok ∧ A.nm from ⟨HGV.out.1, HGV.out.2.1⟩)
  have HAA := Lib.hid hA
  have HAC := Lib.hid v1
  have HAN := Lib.hid v2
  have HKY := Lib.hid v5
  have HTL := Lib.hid v6
  have hfa := fld_arr16
  have hfp := fld_its18
  clear hA v1 v2 v3 v4 v5 v6
  have HC2 := Lib.hid (show A.cls < 2 by have := VV.cls_cases A; rw [HAC.out] at this ⊢; omega)
  obtain ⟨B, hBB⟩ : ∃ B, A.sel (zL (mgL A 1 false)) = B := ⟨_, rfl⟩
  have HBB := Lib.hid hBB
  have hfb := once_facts HGV.out HC2.out HTX.out false
  rw [hBB] at hfb
  have HFB := Lib.hid hfb
  have HBK := Lib.hid (show B.ok ∧ B.nm from ⟨hfb.1.1, hfb.1.2.1⟩)
  have HBC := Lib.hid (show B.cls < 2 by rw [hfb.2.1]; exact HC2.out)
  have HBN := Lib.hid (show B.len = n by rw [hfb.2.2.1]; exact HAN.out)
  obtain ⟨E, hEE⟩ : ∃ E, B.sel (zL (mgL B 1 false)) = E := ⟨_, rfl⟩
  have HEE := Lib.hid hEE
  have hfe2 := once_facts hfb.1 HBC.out hfb.2.2.2.2 false
  rw [hEE] at hfe2
  have HFE := Lib.hid hfe2
  have HEN := Lib.hid (show E.len = n by rw [hfe2.2.2.1]; exact HBN.out)
  obtain ⟨D, hDD⟩ : ∃ D, B.sel (zL (mgL B 1 true)) = D := ⟨_, rfl⟩
  have HDD := Lib.hid hDD
  have hfd := once_facts hfb.1 HBC.out hfb.2.2.2.2 true
  rw [hDD] at hfd
  have HFD := Lib.hid hfd
  have HDN := Lib.hid (show D.len = n by rw [hfd.2.2.1]; exact HBN.out)
  have HUP := Lib.hid (show ∀ i, i < n → keyV B i = keyV E i from fun i hi => by
    rw [← hEE]; exact (once_up HOK.out HC2.out hBB HBK.out hfb.2.2.1 HBC.out (by rw [HAN.out]; exact hi)).symm)
  have HDW := Lib.hid (show ∀ i, i < n → keyV B i = keyV D (n - 1 - i) from fun i hi => by
    rw [← hDD, ← HAN.out]; exact (once_dn HOK.out HC2.out hBB HBK.out hfb.2.2.1 HBC.out (by rw [HAN.out]; exact hi)).symm)
  clear hf2 hBB hfb hEE hfe2 hDD hfd
  go_wp2_with fail
  refine (lof_calls _ p _ nd _ HLO.out HI.out HT.out HC0.out).mono ?_
  rintro e W13 ⟨so3, sc3, uo, rfl, hOR, hB⟩
  clear cHA0 cHA1 cHA2
  replace HA := Lib.hid (HA.out.below hB)
  replace HB := Lib.hid (HB.out.trans (hB.mono HB.out.size))
  replace HI := Lib.hid (HI.out.grow hB)
  replace HT := Lib.hid (fun j hj => keep_below hB _ _ (HT.out j hj))
  have HUO := Lib.hid (show IsV W13 (fun _ => True) uo A by rw [← HAA.out]; exact IsV.any hOR.2)
  have hsv := HUO.out.store
  clear hOR
  clear hB
  have cHA0 := HA.out.2.1
  have cHA1 := HA.out.2.2.1
  have cHA2 := HA.out.2.2.2.1
  go_wp2_with fail
  refine (ordered_of _ A B false _ HUO.out HOK.out HTX.out HC2.out HKN.out HT.out HBB.out).mono ?_
  rintro e W14 ⟨ub, rfl, hub, hB⟩
  clear cHA0 cHA1 cHA2
  replace HA := Lib.hid (HA.out.below hB)
  replace HB := Lib.hid (HB.out.trans (hB.mono HB.out.size))
  replace HI := Lib.hid (HI.out.grow hB)
  replace HT := Lib.hid (fun j hj => keep_below hB _ _ (HT.out j hj))
  replace HUO := Lib.hid (HUO.out.grow hB)
  have HUb := Lib.hid hub
  have hsb := HUb.out.store
  clear hub
  clear hB
  obtain ⟨W15, hWn⟩ : ∃ xw9, W14.alloc (.cells #[ub] 36) = xw9 := ⟨_, rfl⟩
  have hB : Below W14.heap.size W14 W15 := by rw [← hWn]; exact below_new _ _
  have hNB : At1 W15 W14.heap.size (ub) := by rw [← hWn]; exact At1.new _ _ _
  replace HA := Lib.hid (HA.out.below hB)
  replace HB := Lib.hid (HB.out.trans (hB.mono HB.out.size))
  replace HI := Lib.hid (HI.out.grow hB)
  replace HT := Lib.hid (fun j hj => keep_below hB _ _ (HT.out j hj))
  replace HUO := Lib.hid (HUO.out.grow hB)
  replace HUb := Lib.hid (HUb.out.grow hB)
  have HVb := Lib.hid hNB
  clear hNB hB
  have cHA0 := HA.out.2.1
  have cHA1 := HA.out.2.2.1
  have cHA2 := HA.out.2.2.2.1
  have cHVb0 := HVb.out.2.1
  go_wp2_with fail
  clear hWn
  refine (ordered_of _ B E false _ HUb.out HBK.out HFB.out.2.2.2.2 HBC.out HFB.out.2.2.2.1 HT.out HEE.out).mono ?_
  rintro e W16 ⟨ue, rfl, hue, hB⟩
  clear cHA0 cHA1 cHA2 cHVb0
  replace HA := Lib.hid (HA.out.below hB)
  replace HB := Lib.hid (HB.out.trans (hB.mono HB.out.size))
  replace HI := Lib.hid (HI.out.grow hB)
  replace HT := Lib.hid (fun j hj => keep_below hB _ _ (HT.out j hj))
  replace HUO := Lib.hid (HUO.out.grow hB)
  replace HUb := Lib.hid (HUb.out.grow hB)
  replace HVb := Lib.hid (HVb.out.below hB)
  have HUe := Lib.hid hue
  have hse := HUe.out.store
  clear hue
  clear hB
  obtain ⟨W17, hWn⟩ : ∃ xw9, W16.alloc (.cells #[ue] 36) = xw9 := ⟨_, rfl⟩
  have hB : Below W16.heap.size W16 W17 := by rw [← hWn]; exact below_new _ _
  have hNB : At1 W17 W16.heap.size (ue) := by rw [← hWn]; exact At1.new _ _ _
  replace HA := Lib.hid (HA.out.below hB)
  replace HB := Lib.hid (HB.out.trans (hB.mono HB.out.size))
  replace HI := Lib.hid (HI.out.grow hB)
  replace HT := Lib.hid (fun j hj => keep_below hB _ _ (HT.out j hj))
  replace HUO := Lib.hid (HUO.out.grow hB)
  replace HUb := Lib.hid (HUb.out.grow hB)
  replace HVb := Lib.hid (HVb.out.below hB)
  replace HUe := Lib.hid (HUe.out.grow hB)
  have HVe := Lib.hid hNB
  clear hNB hB
  have cHA0 := HA.out.2.1
  have cHA1 := HA.out.2.2.1
  have cHA2 := HA.out.2.2.2.1
  have cHVb0 := HVb.out.2.1
  have cHVe0 := HVe.out.2.1
  go_wp2_with fail
  clear hWn
  refine (ordered_of _ B D true _ HUb.out HBK.out HFB.out.2.2.2.2 HBC.out HFB.out.2.2.2.1 HT.out HDD.out).mono ?_
  rintro e W18 ⟨ud, rfl, hud, hB⟩
  clear cHA0 cHA1 cHA2 cHVb0 cHVe0
  replace HA := Lib.hid (HA.out.below hB)
  replace HB := Lib.hid (HB.out.trans (hB.mono HB.out.size))
  replace HI := Lib.hid (HI.out.grow hB)
  replace HT := Lib.hid (fun j hj => keep_below hB _ _ (HT.out j hj))
  replace HUO := Lib.hid (HUO.out.grow hB)
  replace HUb := Lib.hid (HUb.out.grow hB)
  replace HVb := Lib.hid (HVb.out.below hB)
  replace HUe := Lib.hid (HUe.out.grow hB)
  replace HVe := Lib.hid (HVe.out.below hB)
  have HUd := Lib.hid hud
  have hsd := HUd.out.store
  clear hud
  clear hB
  obtain ⟨W19, hWn⟩ : ∃ xw9, W18.alloc (.cells #[ud] 36) = xw9 := ⟨_, rfl⟩
  have hB : Below W18.heap.size W18 W19 := by rw [← hWn]; exact below_new _ _
  have hNB : At1 W19 W18.heap.size (ud) := by rw [← hWn]; exact At1.new _ _ _
  replace HA := Lib.hid (HA.out.below hB)
  replace HB := Lib.hid (HB.out.trans (hB.mono HB.out.size))
  replace HI := Lib.hid (HI.out.grow hB)
  replace HT := Lib.hid (fun j hj => keep_below hB _ _ (HT.out j hj))
  replace HUO := Lib.hid (HUO.out.grow hB)
  replace HUb := Lib.hid (HUb.out.grow hB)
  replace HVb := Lib.hid (HVb.out.below hB)
  replace HUe := Lib.hid (HUe.out.grow hB)
  replace HVe := Lib.hid (HVe.out.below hB)
  replace HUd := Lib.hid (HUd.out.grow hB)
  have HVd := Lib.hid hNB
  clear hNB hB
  have cHA0 := HA.out.2.1
  have cHA1 := HA.out.2.2.1
  have cHA2 := HA.out.2.2.2.1
  have cHVb0 := HVb.out.2.1
  have cHVe0 := HVe.out.2.1
  have cHVd0 := HVd.out.2.1
  go_wp2_with fail
  clear hWn
  clear cHA0 cHA1 cHA2 cHVb0 cHVe0 cHVd0
  obtain ⟨W20, hWD⟩ : ∃ xw9, W19.drew = xw9 := ⟨_, rfl⟩
  have hB : Below W19.heap.size W19 W20 := by rw [← hWD]; exact Below.drewN' (Below.refl _ _) 1
  replace HA := Lib.hid (HA.out.below hB)
  replace HB := Lib.hid (HB.out.trans (hB.mono HB.out.size))
  replace HI := Lib.hid (HI.out.grow hB)
  replace HT := Lib.hid (fun j hj => keep_below hB _ _ (HT.out j hj))
  replace HUO := Lib.hid (HUO.out.grow hB)
  replace HUb := Lib.hid (HUb.out.grow hB)
  replace HVb := Lib.hid (HVb.out.below hB)
  replace HUe := Lib.hid (HUe.out.grow hB)
  replace HVe := Lib.hid (HVe.out.below hB)
  replace HUd := Lib.hid (HUd.out.grow hB)
  replace HVd := Lib.hid (HVd.out.below hB)
  clear hB
  refine wp_region_held_drew (S := fun w' => w'.cell? ⟨w.heap.size, 0, none⟩ = some (.slice so p.s.length sc) ∧ w'.cell? ⟨w.heap.size, 1, none⟩ = some (.slice io n ic) ∧ w'.cell? ⟨w.heap.size, 2, none⟩ = some (.int .i64 f) ∧ w'.cell? ⟨W14.heap.size, 0, none⟩ = some (ub) ∧ w'.cell? ⟨W16.heap.size, 0, none⟩ = some (ue) ∧ w'.cell? ⟨W18.heap.size, 0, none⟩ = some (ud)) (by kernel_rfl) (by rw [hWD]; exact ⟨HA.out.2.1, HA.out.2.2.1, HA.out.2.2.2.1, HVb.out.2.1, HVe.out.2.1, HVd.out.2.1⟩) (fun hHeld => ?_)
  rw [hWD] at hHeld ⊢
  clear hWD
  refine wpAnyH_take (i := 0) (v := ?_) rfl (by kernel_rfl) (by kernel_rfl) (by kernel_rfl) (fun _ _ _ h => h) (Or.inl ⟨by rfl, ?_⟩) (by assumption) ?_
  rotate_left
  · (intro w hSw; (try dsimp only at hSw); go_simp; try with_reducible rfl)
  simp only [Act.put, List.getElem_toArray, List.getElem_cons_zero, List.setIfInBounds_toArray, List.set_cons_zero, List.set_cons_succ]
  refine wpAnyH_take (i := 1) (v := ?_) rfl (by kernel_rfl) (by kernel_rfl) (by kernel_rfl) (fun _ _ _ h => h) (Or.inl ⟨by rfl, ?_⟩) (by assumption) ?_
  rotate_left
  · (intro w hSw; (try dsimp only at hSw); go_simp; try with_reducible rfl)
  simp only [Act.put, List.getElem_toArray, List.getElem_cons_succ, List.getElem_cons_zero, List.setIfInBounds_toArray, List.set_cons_zero, List.set_cons_succ]
  refine wpAnyH_take (i := 2) (v := ?_) rfl (by kernel_rfl) (by kernel_rfl) (by kernel_rfl) (fun _ _ _ h => h) (Or.inl ⟨by rfl, ?_⟩) (by assumption) ?_
  rotate_left
  · (intro w hSw; (try dsimp only at hSw); go_simp; try with_reducible rfl)
  simp only [Act.put, List.getElem_toArray, List.getElem_cons_succ, List.getElem_cons_zero, List.setIfInBounds_toArray, List.set_cons_zero, List.set_cons_succ]
  refine wpAnyH_take (i := 3) (v := ?_) rfl (by kernel_rfl) (by kernel_rfl) (by kernel_rfl) (fun _ _ _ h => h) (Or.inl ⟨by rfl, ?_⟩) (by assumption) ?_
  rotate_left
  · (intro w hSw; (try dsimp only at hSw); go_simp; try with_reducible rfl)
  simp only [Act.put, List.getElem_toArray, List.getElem_cons_succ, List.getElem_cons_zero, List.setIfInBounds_toArray, List.set_cons_zero, List.set_cons_succ]
  refine wpAnyH_take (i := 4) (v := ?_) rfl (by kernel_rfl) (by kernel_rfl) (by kernel_rfl) (fun _ _ _ h => h) (Or.inl ⟨by rfl, ?_⟩) (by assumption) ?_
  rotate_left
  · (intro w hSw; (try dsimp only at hSw); go_simp; try with_reducible rfl)
  simp only [Act.put, List.getElem_toArray, List.getElem_cons_succ, List.getElem_cons_zero, List.setIfInBounds_toArray, List.set_cons_zero, List.set_cons_succ]
  refine wpAnyH_take (i := 5) (v := ?_) rfl (by kernel_rfl) (by kernel_rfl) (by kernel_rfl) (fun _ _ _ h => h) (Or.inl ⟨by rfl, ?_⟩) (by assumption) ?_
  rotate_left
  · (intro w hSw; (try dsimp only at hSw); go_simp; try with_reducible rfl)
  simp only [Act.put, List.getElem_toArray, List.getElem_cons_succ, List.getElem_cons_zero, List.setIfInBounds_toArray, List.set_cons_zero, List.set_cons_succ]
  refine wpAnyH_take (i := 6) (v := ?_) rfl (by kernel_rfl) (by kernel_rfl) (by kernel_rfl) (fun _ _ _ h => h) (Or.inl ⟨by rfl, ?_⟩) (by assumption) ?_
  rotate_left
  · (intro w hSw; (try dsimp only at hSw); go_simp; try with_reducible rfl)
  simp only [Act.put, List.getElem_toArray, List.getElem_cons_succ, List.getElem_cons_zero, List.setIfInBounds_toArray, List.set_cons_zero, List.set_cons_succ]
  refine wpAnyH_take (i := 7) (v := ?_) rfl (by kernel_rfl) (by kernel_rfl) (by kernel_rfl) (fun _ _ _ h => h) (Or.inl ⟨by rfl, ?_⟩) (by assumption) ?_
  rotate_left
  · (intro w hSw; (try dsimp only at hSw); go_simp; try with_reducible rfl)
  simp only [Act.put, List.getElem_toArray, List.getElem_cons_succ, List.getElem_cons_zero, List.setIfInBounds_toArray, List.set_cons_zero, List.set_cons_succ]
  refine wpAnyH_take (i := 8) (v := ?_) rfl (by kernel_rfl) (by kernel_rfl) (by kernel_rfl) (fun _ _ _ h => h) (Or.inl ⟨by rfl, ?_⟩) (by assumption) ?_
  rotate_left
  · (intro w hSw; (try dsimp only at hSw); go_simp; try with_reducible rfl)
  simp only [Act.put, List.getElem_toArray, List.getElem_cons_succ, List.getElem_cons_zero, List.setIfInBounds_toArray, List.set_cons_zero, List.set_cons_succ]
  refine wpAnyH_take (i := 9) (v := ?_) rfl (by kernel_rfl) (by kernel_rfl) (by kernel_rfl) (fun _ _ _ h => h) (Or.inl ⟨by rfl, ?_⟩) (by assumption) ?_
  rotate_left
  · (intro w hSw; (try dsimp only at hSw); go_simp; try with_reducible rfl)
  simp only [Act.put, List.getElem_toArray, List.getElem_cons_succ, List.getElem_cons_zero, List.setIfInBounds_toArray, List.set_cons_zero, List.set_cons_succ]
  refine wpAnyH_take (i := 10) (v := ?_) rfl (by kernel_rfl) (by kernel_rfl) (by kernel_rfl) (fun _ _ _ h => h) (Or.inl ⟨by rfl, ?_⟩) (by assumption) ?_
  rotate_left
  · (intro w hSw; (try dsimp only at hSw); go_simp; try with_reducible rfl)
  simp only [Act.put, List.getElem_toArray, List.getElem_cons_succ, List.getElem_cons_zero, List.setIfInBounds_toArray, List.set_cons_zero, List.set_cons_succ]
  refine wpAnyH_take (i := 11) (v := ?_) rfl (by kernel_rfl) (by kernel_rfl) (by kernel_rfl) (fun _ _ _ h => h) (Or.inl ⟨by rfl, ?_⟩) (by assumption) ?_
  rotate_left
  · (intro w hSw; (try dsimp only at hSw); go_simp; try with_reducible rfl)
  simp only [Act.put, List.getElem_toArray, List.getElem_cons_succ, List.getElem_cons_zero, List.setIfInBounds_toArray, List.set_cons_zero, List.set_cons_succ]
  refine wpAnyH_take (i := 13) (v := ?_) rfl (by kernel_rfl) (by kernel_rfl) (by kernel_rfl) (fun _ _ _ h => h) (Or.inl ⟨by rfl, ?_⟩) (by assumption) ?_
  rotate_left
  · (intro w hSw; (try dsimp only at hSw); go_simp; try with_reducible rfl)
  simp only [Act.put, List.getElem_toArray, List.getElem_cons_succ, List.getElem_cons_zero, List.setIfInBounds_toArray, List.set_cons_zero, List.set_cons_succ]
  refine wpAnyH_ready (rs := [12]) (by kernel_rfl) (by simp) ?_
  refine AllReadyH.cons (o := _) rfl (fun K hK => ?_) ?_
  · clear hHeld
    go_simp
    refine (vlen_calls _ E _ HUe.out).mono ?_
    rintro e W21 ⟨rfl, hB⟩
    replace HA := Lib.hid (HA.out.below hB)
    replace HB := Lib.hid (HB.out.trans (hB.mono HB.out.size))
    replace HI := Lib.hid (HI.out.grow hB)
    replace HT := Lib.hid (fun j hj => keep_below hB _ _ (HT.out j hj))
    replace HUO := Lib.hid (HUO.out.grow hB)
    replace HUb := Lib.hid (HUb.out.grow hB)
    replace HVb := Lib.hid (HVb.out.below hB)
    replace HUe := Lib.hid (HUe.out.grow hB)
    replace HVe := Lib.hid (HVe.out.below hB)
    replace HUd := Lib.hid (HUd.out.grow hB)
    replace HVd := Lib.hid (HVd.out.below hB)
    rw [HEN.out]
    clear hB
    refine hK.out _ _ ?_ (fun hHeld => ?_)
    · exact ⟨HA.out.2.1, HA.out.2.2.1, HA.out.2.2.2.1, HVb.out.2.1, HVe.out.2.1, HVd.out.2.1⟩
    clear hK K
    refine wpAnyH_ready (rs := [14]) (by kernel_rfl) (by simp) ?_
    refine AllReadyH.cons (o := _) rfl (fun K hK => ?_) ?_
    · clear hHeld
      go_simp
      refine (vlen_calls _ B _ HUb.out).mono ?_
      rintro e W22 ⟨rfl, hB⟩
      replace HA := Lib.hid (HA.out.below hB)
      replace HB := Lib.hid (HB.out.trans (hB.mono HB.out.size))
      replace HI := Lib.hid (HI.out.grow hB)
      replace HT := Lib.hid (fun j hj => keep_below hB _ _ (HT.out j hj))
      replace HUO := Lib.hid (HUO.out.grow hB)
      replace HUb := Lib.hid (HUb.out.grow hB)
      replace HVb := Lib.hid (HVb.out.below hB)
      replace HUe := Lib.hid (HUe.out.grow hB)
      replace HVe := Lib.hid (HVe.out.below hB)
      replace HUd := Lib.hid (HUd.out.grow hB)
      replace HVd := Lib.hid (HVd.out.below hB)
      rw [HBN.out]
      clear hB
      refine hK.out _ _ ?_ (fun hHeld => ?_)
      · exact ⟨HA.out.2.1, HA.out.2.2.1, HA.out.2.2.2.1, HVb.out.2.1, HVe.out.2.1, HVd.out.2.1⟩
      clear hK K
      refine wpAnyH_take (i := 15) (v := ?_) rfl (by kernel_rfl) (by kernel_rfl) (by kernel_rfl) (fun _ _ _ h => h) (Or.inl ⟨by rfl, ?_⟩) (by assumption) ?_
      rotate_left
      · (intro w hSw; (try dsimp only at hSw); go_simp; try with_reducible rfl)
      simp only [Act.put, List.getElem_toArray, List.getElem_cons_succ, List.getElem_cons_zero, List.setIfInBounds_toArray, List.set_cons_zero, List.set_cons_succ]
      refine wpAnyH_take (i := 16) (v := ?_) rfl (by kernel_rfl) (by kernel_rfl) (by kernel_rfl) (fun _ _ _ h => h) (Or.inl ⟨by rfl, ?_⟩) (by assumption) ?_
      rotate_left
      · (intro w hSw; (try dsimp only at hSw); go_simp; try with_reducible rfl)
      simp only [Act.put, List.getElem_toArray, List.getElem_cons_succ, List.getElem_cons_zero, List.setIfInBounds_toArray, List.set_cons_zero, List.set_cons_succ]
      refine wpAnyH_take (i := 17) (v := ?_) rfl (by kernel_rfl) (by kernel_rfl) (by kernel_rfl) (fun _ _ _ h => h) (Or.inl ⟨by rfl, ?_⟩) (by assumption) ?_
      rotate_left
      · (intro w hSw; (try dsimp only at hSw); go_simp; try with_reducible rfl)
      simp only [Act.put, List.getElem_toArray, List.getElem_cons_succ, List.getElem_cons_zero, List.setIfInBounds_toArray, List.set_cons_zero, List.set_cons_succ]
      refine wpAnyH_take (i := 18) (v := ?_) rfl (by kernel_rfl) (by kernel_rfl) (by kernel_rfl) (fun _ _ _ h => h) (Or.inl ⟨by rfl, ?_⟩) (by assumption) ?_
      rotate_left
      · (intro w hSw; (try dsimp only at hSw); go_simp; try with_reducible rfl)
      simp only [Act.put, List.getElem_toArray, List.getElem_cons_succ, List.getElem_cons_zero, List.setIfInBounds_toArray, List.set_cons_zero, List.set_cons_succ]
      refine wpAnyH_take (i := 20) (v := ?_) rfl (by kernel_rfl) (by kernel_rfl) (by kernel_rfl) (fun _ _ _ h => h) (Or.inl ⟨by rfl, ?_⟩) (by assumption) ?_
      rotate_left
      · (intro w hSw; (try dsimp only at hSw); go_simp; try with_reducible rfl)
      simp only [Act.put, List.getElem_toArray, List.getElem_cons_succ, List.getElem_cons_zero, List.setIfInBounds_toArray, List.set_cons_zero, List.set_cons_succ]
      refine wpAnyH_ready (rs := [19]) (by kernel_rfl) (by simp) ?_
      refine AllReadyH.cons (o := _) rfl (fun K hK => ?_) ?_
      · clear hHeld
        go_simp
        refine (vlen_calls _ D _ HUd.out).mono ?_
        rintro e W23 ⟨rfl, hB⟩
        replace HA := Lib.hid (HA.out.below hB)
        replace HB := Lib.hid (HB.out.trans (hB.mono HB.out.size))
        replace HI := Lib.hid (HI.out.grow hB)
        replace HT := Lib.hid (fun j hj => keep_below hB _ _ (HT.out j hj))
        replace HUO := Lib.hid (HUO.out.grow hB)
        replace HUb := Lib.hid (HUb.out.grow hB)
        replace HVb := Lib.hid (HVb.out.below hB)
        replace HUe := Lib.hid (HUe.out.grow hB)
        replace HVe := Lib.hid (HVe.out.below hB)
        replace HUd := Lib.hid (HUd.out.grow hB)
        replace HVd := Lib.hid (HVd.out.below hB)
        rw [HDN.out]
        clear hB
        refine hK.out _ _ ?_ (fun hHeld => ?_)
        · exact ⟨HA.out.2.1, HA.out.2.2.1, HA.out.2.2.2.1, HVb.out.2.1, HVe.out.2.1, HVd.out.2.1⟩
        clear hK K
        refine wpAnyH_ready (rs := [21]) (by kernel_rfl) (by simp) ?_
        refine AllReadyH.cons (o := _) rfl (fun K hK => ?_) ?_
        · clear hHeld
          go_simp
          refine (vlen_calls _ B _ HUb.out).mono ?_
          rintro e W24 ⟨rfl, hB⟩
          replace HA := Lib.hid (HA.out.below hB)
          replace HB := Lib.hid (HB.out.trans (hB.mono HB.out.size))
          replace HI := Lib.hid (HI.out.grow hB)
          replace HT := Lib.hid (fun j hj => keep_below hB _ _ (HT.out j hj))
          replace HUO := Lib.hid (HUO.out.grow hB)
          replace HUb := Lib.hid (HUb.out.grow hB)
          replace HVb := Lib.hid (HVb.out.below hB)
          replace HUe := Lib.hid (HUe.out.grow hB)
          replace HVe := Lib.hid (HVe.out.below hB)
          replace HUd := Lib.hid (HUd.out.grow hB)
          replace HVd := Lib.hid (HVd.out.below hB)
          rw [HBN.out]
          clear hB
          refine hK.out _ _ ?_ (fun hHeld => ?_)
          · exact ⟨HA.out.2.1, HA.out.2.2.1, HA.out.2.2.2.1, HVb.out.2.1, HVe.out.2.1, HVd.out.2.1⟩
          clear hK K
          refine wpAnyH_take (i := 22) (v := ?_) rfl (by kernel_rfl) (by kernel_rfl) (by kernel_rfl) (fun _ _ _ h => h) (Or.inl ⟨by rfl, ?_⟩) (by assumption) ?_
          rotate_left
          · (intro w hSw; (try dsimp only at hSw); go_simp; try with_reducible rfl)
          simp only [Act.put, List.getElem_toArray, List.getElem_cons_succ, List.getElem_cons_zero, List.setIfInBounds_toArray, List.set_cons_zero, List.set_cons_succ]
          refine wpAnyH_take (i := 23) (v := ?_) rfl (by kernel_rfl) (by kernel_rfl) (by kernel_rfl) (fun _ _ _ h => h) (Or.inl ⟨by rfl, ?_⟩) (by assumption) ?_
          rotate_left
          · (intro w hSw; (try dsimp only at hSw); go_simp; try with_reducible rfl)
          simp only [Act.put, List.getElem_toArray, List.getElem_cons_succ, List.getElem_cons_zero, List.setIfInBounds_toArray, List.set_cons_zero, List.set_cons_succ]
          refine wpAnyH_done (by kernel_rfl) ?_ _
          clear hHeld
          have cHA0 := HA.out.2.1
          have cHA1 := HA.out.2.2.1
          have cHA2 := HA.out.2.2.2.1
          have cHVb0 := HVb.out.2.1
          have cHVe0 := HVe.out.2.1
          have cHVd0 := HVd.out.2.1
          go_wp2_with fail
          refine (vlen_calls _ B _ HUb.out).mono ?_
          rintro e W25 ⟨rfl, hB⟩
          clear cHA0 cHA1 cHA2 cHVb0 cHVe0 cHVd0
          replace HA := Lib.hid (HA.out.below hB)
          replace HB := Lib.hid (HB.out.trans (hB.mono HB.out.size))
          replace HI := Lib.hid (HI.out.grow hB)
          replace HT := Lib.hid (fun j hj => keep_below hB _ _ (HT.out j hj))
          replace HUO := Lib.hid (HUO.out.grow hB)
          replace HUb := Lib.hid (HUb.out.grow hB)
          replace HVb := Lib.hid (HVb.out.below hB)
          replace HUe := Lib.hid (HUe.out.grow hB)
          replace HVe := Lib.hid (HVe.out.below hB)
          replace HUd := Lib.hid (HUd.out.grow hB)
          replace HVd := Lib.hid (HVd.out.below hB)
          rw [HBN.out]
          clear hB
          go_wp2
          go_loopw [10] (fun iv wr => ∃ i : Nat, i ≤ n ∧ iv = .int .i64 i ∧ Below W25.heap.size W25 wr) (fun iv _ => n - (intOf iv).toNat)
          case atStart => exact ⟨0, by omega, rfl, Below.refl _ _⟩
          case round =>
            obtain ⟨i, hi, rfl, hBq⟩ := hrel
            have HQ := Lib.hid hBq
            have hB : Below W25.heap.size W25 wr := hBq
            clear hBq
            replace HA := Lib.hid (HA.out.below hB)
            replace HB := Lib.hid (HB.out.trans (hB.mono HB.out.size))
            replace HI := Lib.hid (HI.out.grow hB)
            replace HT := Lib.hid (fun j hj => keep_below hB _ _ (HT.out j hj))
            replace HUO := Lib.hid (HUO.out.grow hB)
            replace HUb := Lib.hid (HUb.out.grow hB)
            replace HVb := Lib.hid (HVb.out.below hB)
            replace HUe := Lib.hid (HUe.out.grow hB)
            replace HVe := Lib.hid (HVe.out.below hB)
            replace HUd := Lib.hid (HUd.out.grow hB)
            replace HVd := Lib.hid (HVd.out.below hB)
            clear hB
            by_cases hlt : i < n
            · have HLT := Lib.hid hlt
              obtain ⟨m, hm9⟩ : ∃ m : Nat, (n : Int) - 1 = (m : Int) := ⟨n - 1, by omega⟩
              obtain ⟨q, hq9⟩ : ∃ q : Nat, (m : Int) - (i : Int) = (q : Int) := ⟨m - i, by omega⟩
              have HQN := Lib.hid (show q < n by omega)
              have HKQ := Lib.hid (show keyV B i = keyV D q by rw [show q = n - 1 - i by omega]; exact HDW.out i hlt)
              have hm10 : m ≤ 200 := by omega
              have hq10 : q ≤ 200 := by omega
              have cHA0 := HA.out.2.1
              have cHA1 := HA.out.2.2.1
              have cHA2 := HA.out.2.2.2.1
              have cHVb0 := HVb.out.2.1
              have cHVe0 := HVe.out.2.1
              have cHVd0 := HVd.out.2.1
              go_wp2_with fail
              refine (alike_yes _ _ B E i i n _ HFB.out.1 HFE.out.1 HBC.out HFE.out.2.1 HBN.out HEN.out HLT.out HLT.out (HUP.out i HLT.out) HUb.out HUe.out).mono ?_
              rintro e W26 ⟨rfl, hB⟩
              clear cHA0 cHA1 cHA2 cHVb0 cHVe0 cHVd0
              replace HA := Lib.hid (HA.out.below hB)
              replace HB := Lib.hid (HB.out.trans (hB.mono HB.out.size))
              replace HI := Lib.hid (HI.out.grow hB)
              replace HT := Lib.hid (fun j hj => keep_below hB _ _ (HT.out j hj))
              replace HUO := Lib.hid (HUO.out.grow hB)
              replace HUb := Lib.hid (HUb.out.grow hB)
              replace HVb := Lib.hid (HVb.out.below hB)
              replace HUe := Lib.hid (HUe.out.grow hB)
              replace HVe := Lib.hid (HVe.out.below hB)
              replace HUd := Lib.hid (HUd.out.grow hB)
              replace HVd := Lib.hid (HVd.out.below hB)
              replace HQ := Lib.hid (HQ.out.trans (hB.mono HQ.out.size))
              clear hB
              have cHA0 := HA.out.2.1
              have cHA1 := HA.out.2.2.1
              have cHA2 := HA.out.2.2.2.1
              have cHVb0 := HVb.out.2.1
              have cHVe0 := HVe.out.2.1
              have cHVd0 := HVd.out.2.1
              go_wp2_with fail
              refine (alike_yes _ _ B D i q n _ HFB.out.1 HFD.out.1 HBC.out HFD.out.2.1 HBN.out HDN.out HLT.out HQN.out HKQ.out HUb.out HUd.out).mono ?_
              rintro e W27 ⟨rfl, hB⟩
              clear cHA0 cHA1 cHA2 cHVb0 cHVe0 cHVd0
              replace HA := Lib.hid (HA.out.below hB)
              replace HB := Lib.hid (HB.out.trans (hB.mono HB.out.size))
              replace HI := Lib.hid (HI.out.grow hB)
              replace HT := Lib.hid (fun j hj => keep_below hB _ _ (HT.out j hj))
              replace HUO := Lib.hid (HUO.out.grow hB)
              replace HUb := Lib.hid (HUb.out.grow hB)
              replace HVb := Lib.hid (HVb.out.below hB)
              replace HUe := Lib.hid (HUe.out.grow hB)
              replace HVe := Lib.hid (HVe.out.below hB)
              replace HUd := Lib.hid (HUd.out.grow hB)
              replace HVd := Lib.hid (HVd.out.below hB)
              replace HQ := Lib.hid (HQ.out.trans (hB.mono HQ.out.size))
              clear hB
              have cHA0 := HA.out.2.1
              have cHA1 := HA.out.2.2.1
              have cHA2 := HA.out.2.2.2.1
              have cHVb0 := HVb.out.2.1
              have cHVe0 := HVe.out.2.1
              have cHVd0 := HVd.out.2.1
              go_wp2_with fail
              go_roundw
              case rel => exact ⟨i + 1, by omega, by go_num, HQ.out⟩
              case measure => simp [intOf]; omega
            · have cHA0 := HA.out.2.1
              have cHA1 := HA.out.2.2.1
              have cHA2 := HA.out.2.2.2.1
              have cHVb0 := HVb.out.2.1
              have cHVe0 := HVe.out.2.1
              have cHVd0 := HVd.out.2.1
              go_wp2_with fail
              refine (awake18_calls _ HT.out).mono ?_
              rintro e W26 ⟨rfl, hB⟩
              clear cHA0 cHA1 cHA2 cHVb0 cHVe0 cHVd0
              replace HA := Lib.hid (HA.out.below hB)
              replace HB := Lib.hid (HB.out.trans (hB.mono HB.out.size))
              replace HI := Lib.hid (HI.out.grow hB)
              replace HT := Lib.hid (fun j hj => keep_below hB _ _ (HT.out j hj))
              replace HUO := Lib.hid (HUO.out.grow hB)
              replace HUb := Lib.hid (HUb.out.grow hB)
              replace HVb := Lib.hid (HVb.out.below hB)
              replace HUe := Lib.hid (HUe.out.grow hB)
              replace HVe := Lib.hid (HVe.out.below hB)
              replace HUd := Lib.hid (HUd.out.grow hB)
              replace HVd := Lib.hid (HVd.out.below hB)
              replace HQ := Lib.hid (HQ.out.trans (hB.mono HQ.out.size))
              clear hB
              have cHA0 := HA.out.2.1
              have cHA1 := HA.out.2.2.1
              have cHA2 := HA.out.2.2.2.1
              have cHVb0 := HVb.out.2.1
              have cHVe0 := HVe.out.2.1
              have cHVd0 := HVd.out.2.1
              go_wp2_with fail
              go_ret
              exact ⟨rfl, HB.out⟩
        exact AllReadyH.nil
      exact AllReadyH.nil
    exact AllReadyH.nil
  exact AllReadyH.nil

theorem mergeOnce_frame (w : World) (u : Value) (p : PA) (n : Nat) (hl : lo n p) (hp : IsP w (fun _ => True) u p) (hc : chO p) (hT : TabAt w) :
    Calls Tryz.prog 6 #[u] w fun e w' => e = .returned (.bool true) ∧ Below w.heap.size w w' :=
  mergeOnce_walk p u n w hl hp hc hT
end Go.Proofs.YtbdbpamefkgelaaGreatDoor

/- Layer 18's law: MergeOrders. -/
import Derived.Test.YtbdbpamefkgelaaGreatDoorMg2
import Derived.Test.YtbdbpamefkgelaaGreatDoorMgRx1
import Derived.Test.YtbdbpamefkgelaaGreatDoorMgOr1
import Derived.Test.YtbdbpamefkgelaaGreatDoorMgVa1
import Derived.Test.YtbdbpamefkgelaaGreatDoorMgFl1
import Derived.Test.YtbdbpamefkgelaaGreatDoorMgSq1
namespace Go.Proofs.YtbdbpamefkgelaaGreatDoor
set_option maxRecDepth 100000
open Go.RowKit Fl
set_option linter.unusedVariables false

theorem mgordered_none {ok : Nat → Prop} (u : Value) (A : VV) (down : Bool) (w : World) (h : IsV w ok u A) (hA : A.ok ∧ A.nm) (hc : A.cls = 2) (hT : TabAt w) :
    Calls Tryz.prog 19 #[.agg #[u], .bool down] w fun e w' => ∃ u', e = .returned (.tuple #[.agg #[u'], .bool false]) ∧ IsV w' (fun _ => True) u' .none ∧ Below w.heap.size w w' :=
  (mgordered_no u A down w h hA hc hT).mono fun e w' h2 => ⟨.nilIface, h2.1, .none, h2.2⟩
theorem rgrade_1 {ok : Nat → Prop} (v : Value) (l : List PI) (A : VV) (n : Nat) (down : Bool) (w : World) (hv : Its w ok v l) (hK : Keyed l (keyV A)) (hl : l.length = n) (hA : A.len = n) (hn : n ≤ 200) :
    Calls Tryz.prog 17 #[v, .int .i64 1, .bool down] w fun e w' => ∃ v, e = .returned v ∧ Slc w' (fun _ => True) v (zL (mgL A 1 down)).length (ints (zL (mgL A 1 down))) ∧ Below w.heap.size w w' := by
  refine (rgrade_nat v l A n 1 down w hv hK hl hA hn (by decide) (by decide)).mono ?_
  rintro e w' ⟨v, h1, h2, h3⟩
  refine ⟨v, h1, ?_, h3⟩
  rw [zL_len, mgL_len, hA]
  exact h2.any
set_option maxHeartbeats 16000000 in
theorem mergeOrders_walk (p : PA) (u : Value) (nd : Nat) (down : Bool) (w : World) (hl : lo nd p) (hp : IsP w (fun _ => True) u p) (hch : chO p) (hT : TabAt w) :
    Calls Tryz.prog 5 #[u, .bool down] w (Yes18 w) := by
  have HP := Lib.hid hp
  have HLO := Lib.hid hl
  have HCH := Lib.hid hch
  obtain ⟨so, sc, io, ic, rfl, hs, hit⟩ := hp.opened
  obtain ⟨W1, hW1⟩ : ∃ W1, W1 = w.alloc (.cells #[.slice so p.s.length sc, .slice io p.l.length ic, .int .i64 p.f] 32) := ⟨_, rfl⟩
  have HB := Lib.hid (show Below w.heap.size w W1 by rw [hW1]; exact below_new _ _)
  have HA := Lib.hid (show At3 W1 w.heap.size (.slice so p.s.length sc) (.slice io p.l.length ic) (.int .i64 p.f) by rw [hW1]; exact At3.new w _ _ _ _)
  have HI := Lib.hid (show IsP W1 (fun _ => True) _ p from HP.out.grow HB.out)
  have HT := Lib.hid (show TabAt W1 from fun j hj => keep_below HB.out _ _ (hT j hj))
  obtain ⟨cc, hcc⟩ : ∃ cc, chk 40 p = cc := ⟨_, rfl⟩
  have HCC := Lib.hid hcc
  obtain ⟨n, hn⟩ : ∃ n, p.l.length = n := ⟨_, rfl⟩
  obtain ⟨f, hf⟩ : ∃ f, p.f = f := ⟨_, rfl⟩
  have HN := Lib.hid hn
  have HF := Lib.hid hf
  have hfold := hW1.symm
  have hnm : n ≤ maxLen := by rw [← hn]; obtain ⟨a9, c9, e9, h8, h9⟩ := hit.len; omega
  clear hs hit hp hl hW1 hcc hT hch
  rw [hn, hf] at HA HI hfold ⊢
  clear hn hf HP
  have cHA0 := HA.out.2.1
  have cHA1 := HA.out.2.2.1
  have cHA2 := HA.out.2.2.2.1
  go_enter Tryz.func5, Tryz.ntmps5
  go_wp2_with fail
  clear hfold
  refine (pcount_calls nd _ p _ _ _ HLO.out HI.out).mono ?_
  rintro e W11 ⟨cn, rfl, hB⟩
  clear cHA0 cHA1 cHA2
  replace HA := Lib.hid (HA.out.below hB)
  replace HB := Lib.hid (HB.out.trans (hB.mono HB.out.size))
  replace HI := Lib.hid (HI.out.grow hB)
  replace HT := Lib.hid (fun j hj => keep_below hB _ _ (HT.out j hj))
  clear hB
  have cHA0 := HA.out.2.1
  have cHA1 := HA.out.2.2.1
  have cHA2 := HA.out.2.2.2.1
  by_cases hcn : cn ≤ 1000
  rotate_left
  · go_wp2_with fail
    refine (awake18_calls _ HT.out).mono ?_
    rintro e W12 ⟨rfl, hB⟩
    clear cHA0 cHA1 cHA2
    replace HA := Lib.hid (HA.out.below hB)
    replace HB := Lib.hid (HB.out.trans (hB.mono HB.out.size))
    replace HI := Lib.hid (HI.out.grow hB)
    replace HT := Lib.hid (fun j hj => keep_below hB _ _ (HT.out j hj))
    clear hB
    have cHA0 := HA.out.2.1
    have cHA1 := HA.out.2.2.1
    have cHA2 := HA.out.2.2.2.1
    go_wp2_with fail
    go_ret
    exact ⟨rfl, HB.out⟩
  by_cases hn3 : n ≤ 200
  rotate_left
  · go_wp2_with fail
    refine (awake18_calls _ HT.out).mono ?_
    rintro e W12 ⟨rfl, hB⟩
    clear cHA0 cHA1 cHA2
    replace HA := Lib.hid (HA.out.below hB)
    replace HB := Lib.hid (HB.out.trans (hB.mono HB.out.size))
    replace HI := Lib.hid (HI.out.grow hB)
    replace HT := Lib.hid (fun j hj => keep_below hB _ _ (HT.out j hj))
    clear hB
    have cHA0 := HA.out.2.1
    have cHA1 := HA.out.2.2.1
    have cHA2 := HA.out.2.2.2.1
    go_wp2_with fail
    go_ret
    exact ⟨rfl, HB.out⟩
  go_wp2_with fail
  refine (vCheck_calls _ p _ nd _ HLO.out HI.out).mono ?_
  rintro e W12 ⟨rfl, hB⟩
  clear cHA0 cHA1 cHA2
  replace HA := Lib.hid (HA.out.below hB)
  replace HB := Lib.hid (HB.out.trans (hB.mono HB.out.size))
  replace HI := Lib.hid (HI.out.grow hB)
  replace HT := Lib.hid (fun j hj => keep_below hB _ _ (HT.out j hj))
  rw [HCC.out]
  clear hB
  have cHA0 := HA.out.2.1
  have cHA1 := HA.out.2.2.1
  have cHA2 := HA.out.2.2.2.1
  by_cases hc0 : cc = 0
  rotate_left
  · have hce : (cc == 0) = false := by simpa using hc0
    have hce2 : (cc != 0) = true := by simpa using hc0
    clear hc0
    go_wp2_with fail
    refine (awake18_calls _ HT.out).mono ?_
    rintro e W13 ⟨rfl, hB⟩
    clear cHA0 cHA1 cHA2
    replace HA := Lib.hid (HA.out.below hB)
    replace HB := Lib.hid (HB.out.trans (hB.mono HB.out.size))
    replace HI := Lib.hid (HI.out.grow hB)
    replace HT := Lib.hid (fun j hj => keep_below hB _ _ (HT.out j hj))
    clear hB
    have cHA0 := HA.out.2.1
    have cHA1 := HA.out.2.2.1
    have cHA2 := HA.out.2.2.2.1
    go_wp2_with fail
    go_ret
    exact ⟨rfl, HB.out⟩
  have HC0 := Lib.hid (show chk 40 p = 0 from HCC.out.trans hc0)
  have HN3 := Lib.hid hn3
  have hce : (cc == 0) = true := by simpa using hc0
  have hce2 : (cc != 0) = false := by simpa using hc0
  clear hc0
  obtain ⟨A, hA⟩ : ∃ A, (arrP 40 p).2 = A := ⟨_, rfl⟩
  obtain ⟨v1, v2, v3, v4, v5, v6⟩ := good_vec HC0.out
  have HTX := Lib.hid (text_arr18 HC0.out HCH.out)
  have HKN := Lib.hid (kind_none HC0.out)
  have HGV := Lib.hid (gA_gV (d := 39) (arrP_good 40 p HC0.out))
  have HTI0 := Lib.hid (its_arrP (d := 39) HC0.out)
  rw [hA] at v1 v2 v5 HTX HKN HGV HTI0
  rw [HF.out] at v1 v5
  rw [HN.out] at v2 v6
  have HOK := Lib.hid (show A.ok ∧ A.nm from ⟨HGV.out.1, HGV.out.2.1⟩)
  have HAA := Lib.hid hA
  have HAC := Lib.hid v1
  have HAN := Lib.hid v2
  have HKY := Lib.hid v5
  have HTL := Lib.hid v6
  have hfa := fld_arr16
  have hfp := fld_its18
  clear hA v1 v2 v3 v4 v5 v6
  go_wp2_with fail
  refine (lof_calls _ p _ nd _ HLO.out HI.out HT.out HC0.out).mono ?_
  rintro e W13 ⟨so3, sc3, uo, rfl, hOR, hB⟩
  clear cHA0 cHA1 cHA2
  replace HA := Lib.hid (HA.out.below hB)
  replace HB := Lib.hid (HB.out.trans (hB.mono HB.out.size))
  replace HI := Lib.hid (HI.out.grow hB)
  replace HT := Lib.hid (fun j hj => keep_below hB _ _ (HT.out j hj))
  have HUO := Lib.hid (show IsV W13 (fun _ => True) uo A by rw [← HAA.out]; exact IsV.any hOR.2)
  have hsv := HUO.out.store
  clear hOR
  clear hB
  have cHA0 := HA.out.2.1
  have cHA1 := HA.out.2.2.1
  have cHA2 := HA.out.2.2.2.1
  go_wp2_with fail
  by_cases hf2 : f = 2
  · have HC2 := Lib.hid (show A.cls = 2 by rw [HAC.out]; exact hf2)
    subst hf2
    refine (mgordered_none _ A down _ HUO.out HOK.out HC2.out HT.out).mono ?_
    rintro e W14 ⟨un, rfl, hun, hB⟩
    clear cHA0 cHA1 cHA2
    replace HA := Lib.hid (HA.out.below hB)
    replace HB := Lib.hid (HB.out.trans (hB.mono HB.out.size))
    replace HI := Lib.hid (HI.out.grow hB)
    replace HT := Lib.hid (fun j hj => keep_below hB _ _ (HT.out j hj))
    replace HUO := Lib.hid (HUO.out.grow hB)
    have HUN := Lib.hid hun
    have hsn := HUN.out.store
    clear hun
    clear hB
    obtain ⟨W15, hWn⟩ : ∃ xw9, W14.alloc (.cells #[un] 36) = xw9 := ⟨_, rfl⟩
    have hB : Below W14.heap.size W14 W15 := by rw [← hWn]; exact below_new _ _
    have hNB : At1 W15 W14.heap.size (un) := by rw [← hWn]; exact At1.new _ _ _
    replace HA := Lib.hid (HA.out.below hB)
    replace HB := Lib.hid (HB.out.trans (hB.mono HB.out.size))
    replace HI := Lib.hid (HI.out.grow hB)
    replace HT := Lib.hid (fun j hj => keep_below hB _ _ (HT.out j hj))
    replace HUO := Lib.hid (HUO.out.grow hB)
    replace HUN := Lib.hid (HUN.out.grow hB)
    have HV := Lib.hid hNB
    clear hNB hB
    have cHA0 := HA.out.2.1
    have cHA1 := HA.out.2.2.1
    have cHA2 := HA.out.2.2.2.1
    have cHV0 := HV.out.2.1
    go_wp2_with fail
    clear hWn
    refine (kind_calls _ .none _ HUN.out).mono ?_
    rintro e W16 ⟨rfl, hB⟩
    clear cHA0 cHA1 cHA2 cHV0
    replace HA := Lib.hid (HA.out.below hB)
    replace HB := Lib.hid (HB.out.trans (hB.mono HB.out.size))
    replace HI := Lib.hid (HI.out.grow hB)
    replace HT := Lib.hid (fun j hj => keep_below hB _ _ (HT.out j hj))
    replace HUO := Lib.hid (HUO.out.grow hB)
    replace HUN := Lib.hid (HUN.out.grow hB)
    replace HV := Lib.hid (HV.out.below hB)
    clear hB
    have cHA0 := HA.out.2.1
    have cHA1 := HA.out.2.2.1
    have cHA2 := HA.out.2.2.2.1
    have cHV0 := HV.out.2.1
    go_wp2_with fail
    refine (awake18_calls _ HT.out).mono ?_
    rintro e W17 ⟨rfl, hB⟩
    clear cHA0 cHA1 cHA2 cHV0
    replace HA := Lib.hid (HA.out.below hB)
    replace HB := Lib.hid (HB.out.trans (hB.mono HB.out.size))
    replace HI := Lib.hid (HI.out.grow hB)
    replace HT := Lib.hid (fun j hj => keep_below hB _ _ (HT.out j hj))
    replace HUO := Lib.hid (HUO.out.grow hB)
    replace HUN := Lib.hid (HUN.out.grow hB)
    replace HV := Lib.hid (HV.out.below hB)
    clear hB
    have cHA0 := HA.out.2.1
    have cHA1 := HA.out.2.2.1
    have cHA2 := HA.out.2.2.2.1
    have cHV0 := HV.out.2.1
    go_wp2_with fail
    go_ret
    exact ⟨rfl, HB.out⟩
  · have hfe : (f == 2) = false := by simpa using hf2
    have HC2 := Lib.hid (show A.cls < 2 by have := VV.cls_cases A; rw [HAC.out] at this ⊢; omega)
    have HKE := Lib.hid (HKY.out (by have := HC2.out; rw [HAC.out] at this; exact this))
    have HFC := Lib.hid (show f = 0 ∨ f = 1 ∨ f = 2 by rw [← HAC.out]; exact VV.cls_cases _)
    obtain ⟨G, hG⟩ : ∃ G, zL (mgL A 1 down) = G := ⟨_, rfl⟩
    have HGL := Lib.hid (show G.length = n by rw [← hG, zL_len, mgL_len, Nat.div_one, HAN.out])
    have HG := Lib.hid hG
    obtain ⟨B, hBB⟩ : ∃ B, A.sel G = B := ⟨_, rfl⟩
    have HBB := Lib.hid hBB
    obtain ⟨LP, hLP⟩ : ∃ LP, G.map (atI (tidyP 40 p).l (blankI f)) = LP := ⟨_, rfl⟩
    have HLP := Lib.hid hLP
    have hgm : G.length ≤ 1048576 := by have := HGL.out; omega
    have HGB := Lib.hid (show gV 39 B by rw [← hBB]; exact gV_sel (d := 38) HGV.out hgm)
    have HCB := Lib.hid (show B.cls = f by rw [← hBB, VV.sel_cls _ _ (VV.nums_num HOK.out.1 HOK.out.2) hgm]; exact HAC.out)
    have HIB := Lib.hid (show LP = itsA 39 B by rw [← hLP, ← hBB, its_sel (d := 38) HGV.out hgm, HTI0.out, HAC.out])
    obtain ⟨kd, hkd⟩ : ∃ kd, kd = B.kind := ⟨_, rfl⟩
    have HKD := Lib.hid hkd
    have hkz : 0 < kd := by
      have h1 := gV_kind HGB.out
      have h2 := (VV.kind_le B).1
      rw [← hkd] at h1 h2; omega
    have HDT := Lib.hid (show decide (B.kind = (B.least : Int)) = true from decide_eq_true HGB.out.2.2.1)
    clear hf2 hG hBB hLP hgm hkd
    refine (mgordered_yes _ A down _ HUO.out HOK.out HTX.out HC2.out HKN.out HT.out).mono ?_
    rintro e W14 ⟨ub, rfl, hub, hB⟩
    clear cHA0 cHA1 cHA2
    replace HA := Lib.hid (HA.out.below hB)
    replace HB := Lib.hid (HB.out.trans (hB.mono HB.out.size))
    replace HI := Lib.hid (HI.out.grow hB)
    replace HT := Lib.hid (fun j hj => keep_below hB _ _ (HT.out j hj))
    replace HUO := Lib.hid (HUO.out.grow hB)
    rw [HG.out, HBB.out] at hub
    have HUB := Lib.hid (IsV.any hub)
    have hsb := HUB.out.store
    clear hub
    clear hB
    obtain ⟨W15, hWn⟩ : ∃ xw9, W14.alloc (.cells #[ub] 36) = xw9 := ⟨_, rfl⟩
    have hB : Below W14.heap.size W14 W15 := by rw [← hWn]; exact below_new _ _
    have hNB : At1 W15 W14.heap.size (ub) := by rw [← hWn]; exact At1.new _ _ _
    replace HA := Lib.hid (HA.out.below hB)
    replace HB := Lib.hid (HB.out.trans (hB.mono HB.out.size))
    replace HI := Lib.hid (HI.out.grow hB)
    replace HT := Lib.hid (fun j hj => keep_below hB _ _ (HT.out j hj))
    replace HUO := Lib.hid (HUO.out.grow hB)
    replace HUB := Lib.hid (HUB.out.grow hB)
    have HV := Lib.hid hNB
    clear hNB hB
    have cHA0 := HA.out.2.1
    have cHA1 := HA.out.2.2.1
    have cHA2 := HA.out.2.2.2.1
    have cHV0 := HV.out.2.1
    go_wp2_with fail
    clear hWn
    refine (ptidy_calls 40 (fun b => True) p _ _ HC0.out (HI.out)).mono ?_
    rintro e W16 ⟨ut, rfl, hut, hB⟩
    clear cHA0 cHA1 cHA2 cHV0
    replace HA := Lib.hid (HA.out.below hB)
    replace HB := Lib.hid (HB.out.trans (hB.mono HB.out.size))
    replace HI := Lib.hid (HI.out.grow hB)
    replace HT := Lib.hid (fun j hj => keep_below hB _ _ (HT.out j hj))
    replace HUO := Lib.hid (HUO.out.grow hB)
    replace HUB := Lib.hid (HUB.out.grow hB)
    replace HV := Lib.hid (HV.out.below hB)
    obtain ⟨tso, tsc, tio, tic, rfl, _, hti⟩ := hut.opened
    rw [HTL.out] at hti ⊢
    have HTI := Lib.hid (show Its W16 (fun _ => True) (.slice tio n tic) (tidyP 40 p).l from hti.wide (fun _ _ _ => trivial))
    clear hut hti
    clear hB
    have cHA0 := HA.out.2.1
    have cHA1 := HA.out.2.2.1
    have cHA2 := HA.out.2.2.2.1
    have cHV0 := HV.out.2.1
    go_wp2_with fail
    clear cHA0 cHA1 cHA2 cHV0
    obtain ⟨W17, hWD⟩ : ∃ xw9, W16.drew = xw9 := ⟨_, rfl⟩
    have hB : Below W16.heap.size W16 W17 := by rw [← hWD]; exact Below.drewN' (Below.refl _ _) 1
    replace HA := Lib.hid (HA.out.below hB)
    replace HB := Lib.hid (HB.out.trans (hB.mono HB.out.size))
    replace HI := Lib.hid (HI.out.grow hB)
    replace HT := Lib.hid (fun j hj => keep_below hB _ _ (HT.out j hj))
    replace HUO := Lib.hid (HUO.out.grow hB)
    replace HUB := Lib.hid (HUB.out.grow hB)
    replace HV := Lib.hid (HV.out.below hB)
    replace HTI := Lib.hid (HTI.out.grow hB)
    clear hB
    refine wp_region_held_drew (S := fun w' => w'.cell? ⟨w.heap.size, 0, none⟩ = some (.slice so p.s.length sc) ∧ w'.cell? ⟨w.heap.size, 1, none⟩ = some (.slice io n ic) ∧ w'.cell? ⟨w.heap.size, 2, none⟩ = some (.int .i64 f) ∧ w'.cell? ⟨W14.heap.size, 0, none⟩ = some (ub)) (by kernel_rfl) (by rw [hWD]; exact ⟨HA.out.2.1, HA.out.2.2.1, HA.out.2.2.2.1, HV.out.2.1⟩) (fun hHeld => ?_)
    rw [hWD] at hHeld ⊢
    clear hWD
    refine wpAnyH_take (i := 0) (v := ?_) rfl (by kernel_rfl) (by kernel_rfl) (by kernel_rfl) (fun _ _ _ h => h) (Or.inl ⟨by rfl, ?_⟩) (by assumption) ?_
    rotate_left
    · (intro w hSw; (try dsimp only at hSw); go_simp; try with_reducible rfl)
    simp only [Act.put, List.getElem_toArray, List.getElem_cons_zero, List.setIfInBounds_toArray, List.set_cons_zero, List.set_cons_succ]
    refine wpAnyH_take (i := 1) (v := ?_) rfl (by kernel_rfl) (by kernel_rfl) (by kernel_rfl) (fun _ _ _ h => h) (Or.inl ⟨by rfl, ?_⟩) (by assumption) ?_
    rotate_left
    · (intro w hSw; (try dsimp only at hSw); go_simp; try with_reducible rfl)
    simp only [Act.put, List.getElem_toArray, List.getElem_cons_succ, List.getElem_cons_zero, List.setIfInBounds_toArray, List.set_cons_zero, List.set_cons_succ]
    refine wpAnyH_take (i := 2) (v := ?_) rfl (by kernel_rfl) (by kernel_rfl) (by kernel_rfl) (fun _ _ _ h => h) (Or.inl ⟨by rfl, ?_⟩) (by assumption) ?_
    rotate_left
    · (intro w hSw; (try dsimp only at hSw); go_simp; try with_reducible rfl)
    simp only [Act.put, List.getElem_toArray, List.getElem_cons_succ, List.getElem_cons_zero, List.setIfInBounds_toArray, List.set_cons_zero, List.set_cons_succ]
    refine wpAnyH_take (i := 3) (v := ?_) rfl (by kernel_rfl) (by kernel_rfl) (by kernel_rfl) (fun _ _ _ h => h) (Or.inl ⟨by rfl, ?_⟩) (by assumption) ?_
    rotate_left
    · (intro w hSw; (try dsimp only at hSw); go_simp; try with_reducible rfl)
    simp only [Act.put, List.getElem_toArray, List.getElem_cons_succ, List.getElem_cons_zero, List.setIfInBounds_toArray, List.set_cons_zero, List.set_cons_succ]
    refine wpAnyH_take (i := 4) (v := ?_) rfl (by kernel_rfl) (by kernel_rfl) (by kernel_rfl) (fun _ _ _ h => h) (Or.inl ⟨by rfl, ?_⟩) (by assumption) ?_
    rotate_left
    · (intro w hSw; (try dsimp only at hSw); go_simp; try with_reducible rfl)
    simp only [Act.put, List.getElem_toArray, List.getElem_cons_succ, List.getElem_cons_zero, List.setIfInBounds_toArray, List.set_cons_zero, List.set_cons_succ]
    refine wpAnyH_ready (rs := [5]) (by kernel_rfl) (by simp) ?_
    refine AllReadyH.cons (o := _) rfl (fun K hK => ?_) ?_
    · clear hHeld
      go_simp
      refine (rgrade_1 _ (tidyP 40 p).l A n down _ HTI.out HKE.out HTL.out HAN.out HN3.out).mono ?_
      rintro e W18 ⟨vr, rfl, hvr, hB⟩
      replace HA := Lib.hid (HA.out.below hB)
      replace HB := Lib.hid (HB.out.trans (hB.mono HB.out.size))
      replace HI := Lib.hid (HI.out.grow hB)
      replace HT := Lib.hid (fun j hj => keep_below hB _ _ (HT.out j hj))
      replace HUO := Lib.hid (HUO.out.grow hB)
      replace HUB := Lib.hid (HUB.out.grow hB)
      replace HV := Lib.hid (HV.out.below hB)
      replace HTI := Lib.hid (HTI.out.grow hB)
      rw [HG.out] at hvr
      have HVR := Lib.hid hvr
      obtain ⟨ra, rc, rfl, _⟩ := hvr.opened
      clear hvr
      clear hB
      refine hK.out _ _ ?_ (fun hHeld => ?_)
      · exact ⟨HA.out.2.1, HA.out.2.2.1, HA.out.2.2.2.1, HV.out.2.1⟩
      clear hK K
      refine wpAnyH_ready (rs := [6]) (by kernel_rfl) (by simp) ?_
      refine AllReadyH.cons (o := _) rfl (fun K hK => ?_) ?_
      · clear hHeld
        go_simp
        refine (rpick_calls _ (tidyP 40 p).l f HFC.out _ G _ HTI.out HVR.out (by have := HGL.out; have := HN3.out; omega) (by have := HTL.out; have := HN3.out; omega)).mono ?_
        rintro e W19 ⟨u3, rfl, hu3, hB⟩
        replace HA := Lib.hid (HA.out.below hB)
        replace HB := Lib.hid (HB.out.trans (hB.mono HB.out.size))
        replace HI := Lib.hid (HI.out.grow hB)
        replace HT := Lib.hid (fun j hj => keep_below hB _ _ (HT.out j hj))
        replace HUO := Lib.hid (HUO.out.grow hB)
        replace HUB := Lib.hid (HUB.out.grow hB)
        replace HV := Lib.hid (HV.out.below hB)
        replace HTI := Lib.hid (HTI.out.grow hB)
        replace HVR := Lib.hid (HVR.out.below hB)
        rw [HLP.out] at hu3
        have HU3 := Lib.hid (show Its W19 (fun _ => True) u3 LP from hu3.wide (fun _ _ _ => trivial))
        obtain ⟨l3, c3, rfl, _⟩ := hu3.len
        clear hu3
        clear hB
        refine hK.out _ _ ?_ (fun hHeld => ?_)
        · exact ⟨HA.out.2.1, HA.out.2.2.1, HA.out.2.2.2.1, HV.out.2.1⟩
        clear hK K
        refine wpAnyH_take (i := 7) (v := ?_) rfl (by kernel_rfl) (by kernel_rfl) (by kernel_rfl) (fun _ _ _ h => h) (Or.inl ⟨by rfl, ?_⟩) (by assumption) ?_
        rotate_left
        · (intro w hSw; (try dsimp only at hSw); go_simp; try with_reducible rfl)
        simp only [Act.put, List.getElem_toArray, List.getElem_cons_succ, List.getElem_cons_zero, List.setIfInBounds_toArray, List.set_cons_zero, List.set_cons_succ]
        refine wpAnyH_done (by kernel_rfl) ?_ _
        clear hHeld
        have cHA0 := HA.out.2.1
        have cHA1 := HA.out.2.2.1
        have cHA2 := HA.out.2.2.2.1
        have cHV0 := HV.out.2.1
        go_wp2_with fail
        have HPL := Lib.hid (show plA 40 ([(B.len : Int)], B) = .mk [(LP.length : Int)] LP f by rw [show (40 : Nat) = 39 + 1 from rfl, plA_list, ← HIB.out, HCB.out])
        have HGA := Lib.hid (gV_gA HGB.out)
        have HNI := Lib.hid (show nice 40 (.mk [(LP.length : Int)] LP f) by rw [← HPL.out]; exact nice_plA 40 _ HGA.out)
        clear cHA0 cHA1 cHA2 cHV0
        obtain ⟨W20, hWD⟩ : ∃ xw9, W19.drew = xw9 := ⟨_, rfl⟩
        have hB : Below W19.heap.size W19 W20 := by rw [← hWD]; exact Below.drewN' (Below.refl _ _) 1
        replace HA := Lib.hid (HA.out.below hB)
        replace HB := Lib.hid (HB.out.trans (hB.mono HB.out.size))
        replace HI := Lib.hid (HI.out.grow hB)
        replace HT := Lib.hid (fun j hj => keep_below hB _ _ (HT.out j hj))
        replace HUO := Lib.hid (HUO.out.grow hB)
        replace HUB := Lib.hid (HUB.out.grow hB)
        replace HV := Lib.hid (HV.out.below hB)
        replace HTI := Lib.hid (HTI.out.grow hB)
        replace HVR := Lib.hid (HVR.out.below hB)
        replace HU3 := Lib.hid (HU3.out.grow hB)
        clear hB
        refine wp_region_held_drew (S := fun w' => w'.cell? ⟨w.heap.size, 0, none⟩ = some (.slice so p.s.length sc) ∧ w'.cell? ⟨w.heap.size, 1, none⟩ = some (.slice io n ic) ∧ w'.cell? ⟨w.heap.size, 2, none⟩ = some (.int .i64 f) ∧ w'.cell? ⟨W14.heap.size, 0, none⟩ = some (ub)) (by kernel_rfl) (by rw [hWD]; exact ⟨HA.out.2.1, HA.out.2.2.1, HA.out.2.2.2.1, HV.out.2.1⟩) (fun hHeld => ?_)
        rw [hWD] at hHeld ⊢
        clear hWD
        refine wpAnyH_take (i := 0) (v := ?_) rfl (by kernel_rfl) (by kernel_rfl) (by kernel_rfl) (fun _ _ _ h => h) (Or.inl ⟨by rfl, ?_⟩) (by assumption) ?_
        rotate_left
        · (intro w hSw; (try dsimp only at hSw); go_simp; try with_reducible rfl)
        simp only [Act.put, List.getElem_toArray, List.getElem_cons_zero, List.setIfInBounds_toArray, List.set_cons_zero, List.set_cons_succ]
        refine wpAnyH_take (i := 1) (v := ?_) rfl (by kernel_rfl) (by kernel_rfl) (by kernel_rfl) (fun _ _ _ h => h) (Or.inl ⟨by rfl, ?_⟩) (by assumption) ?_
        rotate_left
        · (intro w hSw; (try dsimp only at hSw); go_simp; try with_reducible rfl)
        simp only [Act.put, List.getElem_toArray, List.getElem_cons_succ, List.getElem_cons_zero, List.setIfInBounds_toArray, List.set_cons_zero, List.set_cons_succ]
        refine wpAnyH_take (i := 2) (v := ?_) rfl (by kernel_rfl) (by kernel_rfl) (by kernel_rfl) (fun _ _ _ h => h) (Or.inl ⟨by rfl, ?_⟩) (by assumption) ?_
        rotate_left
        · (intro w hSw; (try dsimp only at hSw); go_simp; try with_reducible rfl)
        simp only [Act.put, List.getElem_toArray, List.getElem_cons_succ, List.getElem_cons_zero, List.setIfInBounds_toArray, List.set_cons_zero, List.set_cons_succ]
        refine wpAnyH_ready (rs := [3]) (by kernel_rfl) (by simp) ?_
        refine AllReadyH.cons (o := _) rfl (fun K hK => ?_) ?_
        · clear hHeld
          go_simp
          refine (tight_calls _ B _ HUB.out HGB.out.1 HGB.out.2.1 HT.out).mono ?_
          rintro e W21 ⟨rfl, hB⟩
          replace HA := Lib.hid (HA.out.below hB)
          replace HB := Lib.hid (HB.out.trans (hB.mono HB.out.size))
          replace HI := Lib.hid (HI.out.grow hB)
          replace HT := Lib.hid (fun j hj => keep_below hB _ _ (HT.out j hj))
          replace HUO := Lib.hid (HUO.out.grow hB)
          replace HUB := Lib.hid (HUB.out.grow hB)
          replace HV := Lib.hid (HV.out.below hB)
          replace HTI := Lib.hid (HTI.out.grow hB)
          replace HVR := Lib.hid (HVR.out.below hB)
          replace HU3 := Lib.hid (HU3.out.grow hB)
          rw [HDT.out]
          clear hB
          refine hK.out _ _ ?_ (fun hHeld => ?_)
          · exact ⟨HA.out.2.1, HA.out.2.2.1, HA.out.2.2.2.1, HV.out.2.1⟩
          clear hK K
          refine wpAnyH_take (i := 4) (v := ?_) rfl (by kernel_rfl) (by kernel_rfl) (by kernel_rfl) (fun _ _ _ h => h) (Or.inl ⟨by rfl, ?_⟩) (by assumption) ?_
          rotate_left
          · (intro w hSw; (try dsimp only at hSw); go_simp; try with_reducible rfl)
          simp only [Act.put, List.getElem_toArray, List.getElem_cons_succ, List.getElem_cons_zero, List.setIfInBounds_toArray, List.set_cons_zero, List.set_cons_succ]
          refine wpAnyH_take (i := 5) (v := ?_) rfl (by kernel_rfl) (by kernel_rfl) (by kernel_rfl) (fun _ _ _ h => h) (Or.inl ⟨by rfl, ?_⟩) (by assumption) ?_
          rotate_left
          · (intro w hSw; (try dsimp only at hSw); go_simp; try with_reducible rfl)
          simp only [Act.put, List.getElem_toArray, List.getElem_cons_succ, List.getElem_cons_zero, List.setIfInBounds_toArray, List.set_cons_zero, List.set_cons_succ]
          refine wpAnyH_take (i := 6) (v := ?_) rfl (by kernel_rfl) (by kernel_rfl) (by kernel_rfl) (fun _ _ _ h => h) (Or.inl ⟨by rfl, ?_⟩) (by assumption) ?_
          rotate_left
          · (intro w hSw; (try dsimp only at hSw); go_simp; try with_reducible rfl)
          simp only [Act.put, List.getElem_toArray, List.getElem_cons_succ, List.getElem_cons_zero, List.setIfInBounds_toArray, List.set_cons_zero, List.set_cons_succ]
          refine wpAnyH_ready (rs := [7]) (by kernel_rfl) (by simp) ?_
          refine AllReadyH.cons (o := _) rfl (fun K hK => ?_) ?_
          · clear hHeld
            go_simp
            refine (kind_calls _ B _ HUB.out).mono ?_
            rintro e W22 ⟨rfl, hB⟩
            replace HA := Lib.hid (HA.out.below hB)
            replace HB := Lib.hid (HB.out.trans (hB.mono HB.out.size))
            replace HI := Lib.hid (HI.out.grow hB)
            replace HT := Lib.hid (fun j hj => keep_below hB _ _ (HT.out j hj))
            replace HUO := Lib.hid (HUO.out.grow hB)
            replace HUB := Lib.hid (HUB.out.grow hB)
            replace HV := Lib.hid (HV.out.below hB)
            replace HTI := Lib.hid (HTI.out.grow hB)
            replace HVR := Lib.hid (HVR.out.below hB)
            replace HU3 := Lib.hid (HU3.out.grow hB)
            rw [← HKD.out]
            clear hB
            refine hK.out _ _ ?_ (fun hHeld => ?_)
            · exact ⟨HA.out.2.1, HA.out.2.2.1, HA.out.2.2.2.1, HV.out.2.1⟩
            clear hK K
            refine wpAnyH_take (i := 8) (v := ?_) rfl (by kernel_rfl) (by kernel_rfl) (by kernel_rfl) (fun _ _ _ h => h) (Or.inl ⟨by rfl, ?_⟩) (by assumption) ?_
            rotate_left
            · (intro w hSw; (try dsimp only at hSw); go_simp; try with_reducible rfl)
            simp only [Act.put, List.getElem_toArray, List.getElem_cons_succ, List.getElem_cons_zero, List.setIfInBounds_toArray, List.set_cons_zero, List.set_cons_succ]
            refine wpAnyH_take (i := 9) (v := ?_) rfl (by kernel_rfl) (by kernel_rfl) (by kernel_rfl) (fun _ _ _ h => h) (Or.inl ⟨by rfl, ?_⟩) (by assumption) ?_
            rotate_left
            · (intro w hSw; (try dsimp only at hSw); go_simp; try with_reducible rfl)
            simp only [Act.put, List.getElem_toArray, List.getElem_cons_succ, List.getElem_cons_zero, List.setIfInBounds_toArray, List.set_cons_zero, List.set_cons_succ]
            refine wpAnyH_take (i := 10) (v := ?_) rfl (by kernel_rfl) (by kernel_rfl) (by kernel_rfl) (fun _ _ _ h => h) (Or.inl ⟨by rfl, ?_⟩) (by assumption) ?_
            rotate_left
            · (intro w hSw; (try dsimp only at hSw); go_simp; try with_reducible rfl)
            simp only [Act.put, List.getElem_toArray, List.getElem_cons_succ, List.getElem_cons_zero, List.setIfInBounds_toArray, List.set_cons_zero, List.set_cons_succ]
            refine wpAnyH_take (i := 11) (v := ?_) rfl (by kernel_rfl) (by kernel_rfl) (by kernel_rfl) (fun _ _ _ h => h) (Or.inl ⟨by rfl, ?_⟩) (by assumption) ?_
            rotate_left
            · (intro w hSw; (try dsimp only at hSw); go_simp; try with_reducible rfl)
            simp only [Act.put, List.getElem_toArray, List.getElem_cons_succ, List.getElem_cons_zero, List.setIfInBounds_toArray, List.set_cons_zero, List.set_cons_succ]
            refine wpAnyH_take (i := 14) (v := ?_) rfl (by kernel_rfl) (by kernel_rfl) (by kernel_rfl) (fun _ _ _ h => h) (Or.inl ⟨by rfl, ?_⟩) (by assumption) ?_
            rotate_left
            · (intro w hSw; (try dsimp only at hSw); go_simp; try with_reducible rfl)
            simp only [Act.put, List.getElem_toArray, List.getElem_cons_succ, List.getElem_cons_zero, List.setIfInBounds_toArray, List.set_cons_zero, List.set_cons_succ]
            refine wpAnyH_take (i := 17) (v := ?_) rfl (by kernel_rfl) (by kernel_rfl) (by kernel_rfl) (fun _ _ _ h => h) (Or.inl ⟨by rfl, ?_⟩) (by assumption) ?_
            rotate_left
            · (intro w hSw; (try dsimp only at hSw); go_simp; try with_reducible rfl)
            simp only [Act.put, List.getElem_toArray, List.getElem_cons_succ, List.getElem_cons_zero, List.setIfInBounds_toArray, List.set_cons_zero, List.set_cons_succ]
            refine wpAnyH_take (i := 18) (v := ?_) rfl (by kernel_rfl) (by kernel_rfl) (by kernel_rfl) (fun _ _ _ h => h) (Or.inl ⟨by rfl, ?_⟩) (by assumption) ?_
            rotate_left
            · (intro w hSw; (try dsimp only at hSw); go_simp; try with_reducible rfl)
            simp only [Act.put, List.getElem_toArray, List.getElem_cons_succ, List.getElem_cons_zero, List.setIfInBounds_toArray, List.set_cons_zero, List.set_cons_succ]
            refine wpAnyH_take (i := 19) (v := ?_) rfl (by kernel_rfl) (by kernel_rfl) (by kernel_rfl) (fun _ _ _ h => h) (Or.inl ⟨by rfl, ?_⟩) (by assumption) ?_
            rotate_left
            · (intro w hSw; (try dsimp only at hSw); go_simp; try with_reducible rfl)
            simp only [Act.put, List.getElem_toArray, List.getElem_cons_succ, List.getElem_cons_zero, List.setIfInBounds_toArray, List.set_cons_zero, List.set_cons_succ]
            refine wpAnyH_ready (rs := [12]) (by kernel_rfl) (by simp) ?_
            refine AllReadyH.cons (o := _) rfl (fun K hK => ?_) ?_
            · clear hHeld
              go_simp
              refine (vlen_calls _ B _ HUB.out).mono ?_
              rintro e W23 ⟨rfl, hB⟩
              replace HA := Lib.hid (HA.out.below hB)
              replace HB := Lib.hid (HB.out.trans (hB.mono HB.out.size))
              replace HI := Lib.hid (HI.out.grow hB)
              replace HT := Lib.hid (fun j hj => keep_below hB _ _ (HT.out j hj))
              replace HUO := Lib.hid (HUO.out.grow hB)
              replace HUB := Lib.hid (HUB.out.grow hB)
              replace HV := Lib.hid (HV.out.below hB)
              replace HTI := Lib.hid (HTI.out.grow hB)
              replace HVR := Lib.hid (HVR.out.below hB)
              replace HU3 := Lib.hid (HU3.out.grow hB)
              clear hB
              refine hK.out _ _ ?_ (fun hHeld => ?_)
              · exact ⟨HA.out.2.1, HA.out.2.2.1, HA.out.2.2.2.1, HV.out.2.1⟩
              clear hK K
              refine wpAnyH_ready (rs := [13]) (by kernel_rfl) (by simp) ?_
              refine AllReadyH.cons (o := _) rfl (fun K hK => ?_) ?_
              · clear hHeld
                go_simp
                obtain ⟨W24, hWn⟩ : ∃ xw9, W23.alloc (.cells #[.int .i64 (B.len : Int)] 3) = xw9 := ⟨_, rfl⟩
                have hB : Below W23.heap.size W23 W24 := by rw [← hWn]; exact below_new _ _
                have hNB : Slc W24 (fun _ => True) (.slice (some ⟨W23.heap.size, 0, none⟩) 1 1) 1 (ints [(B.len : Int)]) := by
                  rw [← hWn]; exact (Slc.owned (World.ownsRow_lit (base := 0) (e := 3) (size := 1) W23 #[.int .i64 (B.len : Int)] 1 (Nat.zero_le _) (by unfold maxLen; omega) rfl)).keep (Kept.refl _ _) (fun _ _ _ => trivial)
                rw [hWn]
                clear hWn
                obtain ⟨bl, hnm⟩ : ∃ x, W23.heap.size = x := ⟨_, rfl⟩
                rw [hnm] at hNB ⊢
                replace HA := Lib.hid (HA.out.below hB)
                replace HB := Lib.hid (HB.out.trans (hB.mono HB.out.size))
                replace HI := Lib.hid (HI.out.grow hB)
                replace HT := Lib.hid (fun j hj => keep_below hB _ _ (HT.out j hj))
                replace HUO := Lib.hid (HUO.out.grow hB)
                replace HUB := Lib.hid (HUB.out.grow hB)
                replace HV := Lib.hid (HV.out.below hB)
                replace HTI := Lib.hid (HTI.out.grow hB)
                replace HVR := Lib.hid (HVR.out.below hB)
                replace HU3 := Lib.hid (HU3.out.grow hB)
                have HSL := Lib.hid hNB
                clear hNB hB hnm
                refine hK.out _ _ ?_ (fun hHeld => ?_)
                · exact ⟨HA.out.2.1, HA.out.2.2.1, HA.out.2.2.2.1, HV.out.2.1⟩
                clear hK K
                refine wpAnyH_take (i := 15) (v := ?_) rfl (by kernel_rfl) (by kernel_rfl) (by kernel_rfl) (fun _ _ _ h => h) (Or.inl ⟨by rfl, ?_⟩) (by assumption) ?_
                rotate_left
                · (intro w hSw; (try dsimp only at hSw); go_simp; try with_reducible rfl)
                simp only [Act.put, List.getElem_toArray, List.getElem_cons_succ, List.getElem_cons_zero, List.setIfInBounds_toArray, List.set_cons_zero, List.set_cons_succ]
                refine wpAnyH_ready (rs := [16]) (by kernel_rfl) (by simp) ?_
                refine AllReadyH.cons (o := _) rfl (fun K hK => ?_) ?_
                · clear hHeld
                  go_simp
                  refine (plain_calls_at 40 (fun _ => True) ([(B.len : Int)], B) _ _ _ (gA_dA HGA.out) ⟨HSL.out, HUB.out.wide (fun _ _ _ => trivial)⟩).mono ?_
                  rintro e W25 ⟨up, rfl, hup, hB⟩
                  replace HA := Lib.hid (HA.out.below hB)
                  replace HB := Lib.hid (HB.out.trans (hB.mono HB.out.size))
                  replace HI := Lib.hid (HI.out.grow hB)
                  replace HT := Lib.hid (fun j hj => keep_below hB _ _ (HT.out j hj))
                  replace HUO := Lib.hid (HUO.out.grow hB)
                  replace HUB := Lib.hid (HUB.out.grow hB)
                  replace HV := Lib.hid (HV.out.below hB)
                  replace HTI := Lib.hid (HTI.out.grow hB)
                  replace HVR := Lib.hid (HVR.out.below hB)
                  replace HU3 := Lib.hid (HU3.out.grow hB)
                  replace HSL := Lib.hid (HSL.out.below hB)
                  rw [HPL.out] at hup
                  have HUP := Lib.hid hup
                  obtain ⟨uso, usc, uio, uic, rfl, _⟩ := hup.opened
                  clear hup
                  clear hB
                  refine hK.out _ _ ?_ (fun hHeld => ?_)
                  · exact ⟨HA.out.2.1, HA.out.2.2.1, HA.out.2.2.2.1, HV.out.2.1⟩
                  clear hK K
                  refine wpAnyH_ready (rs := [20]) (by kernel_rfl) (by simp) ?_
                  refine AllReadyH.cons (o := _) rfl (fun K hK => ?_) ?_
                  · clear hHeld
                    go_simp
                    refine (rlist_calls _ LP f _ HU3.out).mono ?_
                    rintro e W26 ⟨uq, rfl, huq, hB⟩
                    replace HA := Lib.hid (HA.out.below hB)
                    replace HB := Lib.hid (HB.out.trans (hB.mono HB.out.size))
                    replace HI := Lib.hid (HI.out.grow hB)
                    replace HT := Lib.hid (fun j hj => keep_below hB _ _ (HT.out j hj))
                    replace HUO := Lib.hid (HUO.out.grow hB)
                    replace HUB := Lib.hid (HUB.out.grow hB)
                    replace HV := Lib.hid (HV.out.below hB)
                    replace HTI := Lib.hid (HTI.out.grow hB)
                    replace HVR := Lib.hid (HVR.out.below hB)
                    replace HU3 := Lib.hid (HU3.out.grow hB)
                    replace HSL := Lib.hid (HSL.out.below hB)
                    replace HUP := Lib.hid (HUP.out.grow hB)
                    have HUQ := Lib.hid huq
                    obtain ⟨qso, qsc, qio, qic, rfl, _⟩ := huq.opened
                    clear huq
                    clear hB
                    refine hK.out _ _ ?_ (fun hHeld => ?_)
                    · exact ⟨HA.out.2.1, HA.out.2.2.1, HA.out.2.2.2.1, HV.out.2.1⟩
                    clear hK K
                    refine wpAnyH_ready (rs := [21]) (by kernel_rfl) (by simp) ?_
                    refine AllReadyH.cons (o := _) rfl (fun K hK => ?_) ?_
                    · clear hHeld
                      go_simp
                      refine (psame_calls 40 _ _ (.mk [(LP.length : Int)] LP f) (.mk [(LP.length : Int)] LP f) _ _ 40 _ HNI.out HNI.out HUP.out HUQ.out).mono ?_
                      rintro e W27 ⟨rfl, hB⟩
                      replace HA := Lib.hid (HA.out.below hB)
                      replace HB := Lib.hid (HB.out.trans (hB.mono HB.out.size))
                      replace HI := Lib.hid (HI.out.grow hB)
                      replace HT := Lib.hid (fun j hj => keep_below hB _ _ (HT.out j hj))
                      replace HUO := Lib.hid (HUO.out.grow hB)
                      replace HUB := Lib.hid (HUB.out.grow hB)
                      replace HV := Lib.hid (HV.out.below hB)
                      replace HTI := Lib.hid (HTI.out.grow hB)
                      replace HVR := Lib.hid (HVR.out.below hB)
                      replace HU3 := Lib.hid (HU3.out.grow hB)
                      replace HSL := Lib.hid (HSL.out.below hB)
                      replace HUP := Lib.hid (HUP.out.grow hB)
                      replace HUQ := Lib.hid (HUQ.out.grow hB)
                      rw [pq_yes rfl]
                      clear hB
                      refine hK.out _ _ ?_ (fun hHeld => ?_)
                      · exact ⟨HA.out.2.1, HA.out.2.2.1, HA.out.2.2.2.1, HV.out.2.1⟩
                      clear hK K
                      refine wpAnyH_take (i := 22) (v := ?_) rfl (by kernel_rfl) (by kernel_rfl) (by kernel_rfl) (fun _ _ _ h => h) (Or.inl ⟨by rfl, ?_⟩) (by assumption) ?_
                      rotate_left
                      · (intro w hSw; (try dsimp only at hSw); go_simp; try with_reducible rfl)
                      simp only [Act.put, List.getElem_toArray, List.getElem_cons_succ, List.getElem_cons_zero, List.setIfInBounds_toArray, List.set_cons_zero, List.set_cons_succ]
                      refine wpAnyH_take (i := 23) (v := ?_) rfl (by kernel_rfl) (by kernel_rfl) (by kernel_rfl) (fun _ _ _ h => h) (Or.inl ⟨by rfl, ?_⟩) (by assumption) ?_
                      rotate_left
                      · (intro w hSw; (try dsimp only at hSw); go_simp; try with_reducible rfl)
                      simp only [Act.put, List.getElem_toArray, List.getElem_cons_succ, List.getElem_cons_zero, List.setIfInBounds_toArray, List.set_cons_zero, List.set_cons_succ]
                      refine wpAnyH_ready (rs := [24]) (by kernel_rfl) (by simp) ?_
                      refine AllReadyH.cons (o := _) rfl (fun K hK => ?_) ?_
                      · clear hHeld
                        go_simp
                        refine (awake18_calls _ HT.out).mono ?_
                        rintro e W28 ⟨rfl, hB⟩
                        replace HA := Lib.hid (HA.out.below hB)
                        replace HB := Lib.hid (HB.out.trans (hB.mono HB.out.size))
                        replace HI := Lib.hid (HI.out.grow hB)
                        replace HT := Lib.hid (fun j hj => keep_below hB _ _ (HT.out j hj))
                        replace HUO := Lib.hid (HUO.out.grow hB)
                        replace HUB := Lib.hid (HUB.out.grow hB)
                        replace HV := Lib.hid (HV.out.below hB)
                        replace HTI := Lib.hid (HTI.out.grow hB)
                        replace HVR := Lib.hid (HVR.out.below hB)
                        replace HU3 := Lib.hid (HU3.out.grow hB)
                        replace HSL := Lib.hid (HSL.out.below hB)
                        replace HUP := Lib.hid (HUP.out.grow hB)
                        replace HUQ := Lib.hid (HUQ.out.grow hB)
                        clear hB
                        refine hK.out _ _ ?_ (fun hHeld => ?_)
                        · exact ⟨HA.out.2.1, HA.out.2.2.1, HA.out.2.2.2.1, HV.out.2.1⟩
                        clear hK K
                        refine wpAnyH_take (i := 25) (v := ?_) rfl (by kernel_rfl) (by kernel_rfl) (by kernel_rfl) (fun _ _ _ h => h) (Or.inl ⟨by rfl, ?_⟩) (by assumption) ?_
                        rotate_left
                        · (intro w hSw; (try dsimp only at hSw); go_simp; try with_reducible rfl)
                        simp only [Act.put, List.getElem_toArray, List.getElem_cons_succ, List.getElem_cons_zero, List.setIfInBounds_toArray, List.set_cons_zero, List.set_cons_succ]
                        refine wpAnyH_take (i := 26) (v := ?_) rfl (by kernel_rfl) (by kernel_rfl) (by kernel_rfl) (fun _ _ _ h => h) (Or.inl ⟨by rfl, ?_⟩) (by assumption) ?_
                        rotate_left
                        · (intro w hSw; (try dsimp only at hSw); go_simp; try with_reducible rfl)
                        simp only [Act.put, List.getElem_toArray, List.getElem_cons_succ, List.getElem_cons_zero, List.setIfInBounds_toArray, List.set_cons_zero, List.set_cons_succ]
                        refine wpAnyH_done (by kernel_rfl) ?_ _
                        clear hHeld
                        have cHA0 := HA.out.2.1
                        have cHA1 := HA.out.2.2.1
                        have cHA2 := HA.out.2.2.2.1
                        have cHV0 := HV.out.2.1
                        go_wp2_with fail
                        go_ret
                        exact ⟨rfl, HB.out⟩
                      exact AllReadyH.nil
                    exact AllReadyH.nil
                  exact AllReadyH.nil
                exact AllReadyH.nil
              exact AllReadyH.nil
            exact AllReadyH.nil
          exact AllReadyH.nil
        exact AllReadyH.nil
      exact AllReadyH.nil
    exact AllReadyH.nil

theorem mergeOrders_frame (w : World) (u : Value) (p : PA) (n : Nat) (hl : lo n p) (hp : IsP w (fun _ => True) u p) (hc : chO p) (down : Bool) (hT : TabAt w) :
    Calls Tryz.prog 5 #[u, .bool down] w fun e w' => e = .returned (.bool true) ∧ Below w.heap.size w w' :=
  mergeOrders_walk p u n down w hl hp hc hT
end Go.Proofs.YtbdbpamefkgelaaGreatDoor

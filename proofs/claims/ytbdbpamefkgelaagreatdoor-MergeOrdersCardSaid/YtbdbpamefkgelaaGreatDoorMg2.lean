/- Layer 18's law: MergeGrades. -/
import Derived.Test.YtbdbpamefkgelaaGreatDoorMgMg1
import Derived.Test.YtbdbpamefkgelaaGreatDoorMgRx1
import Derived.Test.YtbdbpamefkgelaaGreatDoorMgOr1
import Derived.Test.YtbdbpamefkgelaaGreatDoorMgVa1
namespace Go.Proofs.YtbdbpamefkgelaaGreatDoor
set_option maxRecDepth 100000
open Go.RowKit Fl
set_option linter.unusedVariables false

theorem fld_its18 (x y z : Value) (w : World) : (Instr.field 32 (.agg #[x, y, z]) 1).run Tryz.prog w = .ok y w := by kernel_rfl
theorem text_none3 {A : VV} (h : A.cls ≠ 1) : A.text = [] := by cases A <;> first | rfl | exact absurd rfl h
theorem text_arr18 {p : PA} (h : chk 40 p = 0) (hc : chO p) : ∀ z ∈ (arrP 40 p).2.text, -2147483648 ≤ z ∧ z ≤ 2147483647 := by
  intro z hz
  by_cases h1 : p.f = 1
  · have e : (arrP 40 p).2.text = p.l.map (fun x => x.2.2.1) := by
      simp only [arrP]; rw [if_pos h1]; rfl
    rw [e] at hz
    obtain ⟨x, hx, rfl⟩ := List.mem_map.1 hz
    exact hc x hx
  · rw [text_none3 (by rw [(arrP_len h).2.1]; exact h1)] at hz
    cases hz
theorem kind_none {p : PA} (h : chk 40 p = 0) : (arrP 40 p).2.kind ≠ 0 := by
  intro e
  have hg := gA_gV (d := 39) (arrP_good 40 p h)
  have hk := hg.2.2.1
  rw [VV.kind_cases _ e] at hk
  have : 1 ≤ leastW [] := (leastW_le []).1
  simp only [VV.kind, VV.least, VV.nums] at hk
  omega
theorem rgrade_nat {ok : Nat → Prop} (v : Value) (l : List PI) (A : VV) (n size : Nat) (down : Bool) (w : World) (hv : Its w ok v l) (hK : Keyed l (keyV A)) (hl : l.length = n) (hA : A.len = n) (hn : n ≤ 200) (hs : 0 < size) (hsm : size ≤ 1048576) :
    Calls Tryz.prog 17 #[v, .int .i64 (size : Int), .bool down] w fun e w' => ∃ v, e = .returned v ∧ Slc w' (fun b => w.heap.size ≤ b) v (n / size) (ints (zL (mgL A size down))) ∧ Below w.heap.size w w' := by
  have := rgrade_calls v l (keyV A) size down w hv hK hs hsm (by omega)
  rw [hl] at this
  unfold mgL
  rw [hA]
  exact this
theorem MgYes.of {A : VV} {size : Nat} {down : Bool} {w : World} {e : Ending} {w' : World} {n : Nat} (h : MgYes A size down w e w') (hn : A.len = n) : ∃ v, e = .returned (.tuple #[v, .bool true]) ∧ Slc w' (fun _ => True) v (n / size) (ints (zL (mgL A size down))) ∧ Below w.heap.size w w' := by
  obtain ⟨v, h1, h2, h3⟩ := h
  rw [hn] at h2
  exact ⟨v, h1, h2.any, h3⟩
set_option maxHeartbeats 16000000 in
theorem mergeGrades_walk (p : PA) (u : Value) (nd : Nat) (sz : Int) (down : Bool) (w : World) (hl : lo nd p) (hp : IsP w (fun _ => True) u p) (hch : chO p) (hT : TabAt w) :
    Calls Tryz.prog 4 #[u, .int .i64 sz, .bool down] w (Yes18 w) := by
  have HP := Lib.hid hp
  have HLO := Lib.hid hl
  have HCH := Lib.hid hch
  obtain ⟨so, sc, io, ic, rfl, hs, hit⟩ := hp.opened
  obtain ⟨W1, hW1⟩ : ∃ W1, W1 = w.alloc (.cells #[.slice so p.s.length sc, .slice io p.l.length ic, .int .i64 p.f] 32) := ⟨_, rfl⟩
  have HB := Lib.hid (show Below w.heap.size w W1 by rw [hW1]; exact below_new _ _)
  have HA := Lib.hid (show At3 W1 w.heap.size (.slice so p.s.length sc) (.slice io p.l.length ic) (.int .i64 p.f) by rw [hW1]; exact At3.new w _ _ _ _)
  have HI := Lib.hid (show IsP W1 (fun _ => True) _ p from HP.out.grow HB.out)
  have HT := Lib.hid (show TabAt W1 from fun j hj => keep_below HB.out _ _ (hT j hj))
  obtain ⟨cc, hcc⟩ : ∃ cc, chk 40 p = cc := ⟨_, rfl⟩
  have HCC := Lib.hid hcc
  obtain ⟨n, hn⟩ : ∃ n, p.l.length = n := ⟨_, rfl⟩
  obtain ⟨f, hf⟩ : ∃ f, p.f = f := ⟨_, rfl⟩
  have HN := Lib.hid hn
  have HF := Lib.hid hf
  have hfold := hW1.symm
  have hnm : n ≤ maxLen := by rw [← hn]; obtain ⟨a9, c9, e9, h8, h9⟩ := hit.len; omega
  clear hs hit hp hl hW1 hcc hT hch
  rw [hn, hf] at HA HI hfold ⊢
  clear hn hf HP
  have cHA0 := HA.out.2.1
  have cHA1 := HA.out.2.2.1
  have cHA2 := HA.out.2.2.2.1
  go_enter Tryz.func4, Tryz.ntmps4
  go_wp2_with fail
  clear hfold
  refine (pcount_calls nd _ p _ _ _ HLO.out HI.out).mono ?_
  rintro e W11 ⟨cn, rfl, hB⟩
  clear cHA0 cHA1 cHA2
  replace HA := Lib.hid (HA.out.below hB)
  replace HB := Lib.hid (HB.out.trans (hB.mono HB.out.size))
  replace HI := Lib.hid (HI.out.grow hB)
  replace HT := Lib.hid (fun j hj => keep_below hB _ _ (HT.out j hj))
  clear hB
  have cHA0 := HA.out.2.1
  have cHA1 := HA.out.2.2.1
  have cHA2 := HA.out.2.2.2.1
  by_cases hcn : cn ≤ 1000
  rotate_left
  · go_wp2_with fail
    refine (awake18_calls _ HT.out).mono ?_
    rintro e W12 ⟨rfl, hB⟩
    clear cHA0 cHA1 cHA2
    replace HA := Lib.hid (HA.out.below hB)
    replace HB := Lib.hid (HB.out.trans (hB.mono HB.out.size))
    replace HI := Lib.hid (HI.out.grow hB)
    replace HT := Lib.hid (fun j hj => keep_below hB _ _ (HT.out j hj))
    clear hB
    have cHA0 := HA.out.2.1
    have cHA1 := HA.out.2.2.1
    have cHA2 := HA.out.2.2.2.1
    go_wp2_with fail
    go_ret
    exact ⟨rfl, HB.out⟩
  by_cases hn3 : n ≤ 200
  rotate_left
  · go_wp2_with fail
    refine (awake18_calls _ HT.out).mono ?_
    rintro e W12 ⟨rfl, hB⟩
    clear cHA0 cHA1 cHA2
    replace HA := Lib.hid (HA.out.below hB)
    replace HB := Lib.hid (HB.out.trans (hB.mono HB.out.size))
    replace HI := Lib.hid (HI.out.grow hB)
    replace HT := Lib.hid (fun j hj => keep_below hB _ _ (HT.out j hj))
    clear hB
    have cHA0 := HA.out.2.1
    have cHA1 := HA.out.2.2.1
    have cHA2 := HA.out.2.2.2.1
    go_wp2_with fail
    go_ret
    exact ⟨rfl, HB.out⟩
  go_wp2_with fail
  refine (vCheck_calls _ p _ nd _ HLO.out HI.out).mono ?_
  rintro e W12 ⟨rfl, hB⟩
  clear cHA0 cHA1 cHA2
  replace HA := Lib.hid (HA.out.below hB)
  replace HB := Lib.hid (HB.out.trans (hB.mono HB.out.size))
  replace HI := Lib.hid (HI.out.grow hB)
  replace HT := Lib.hid (fun j hj => keep_below hB _ _ (HT.out j hj))
  rw [HCC.out]
  clear hB
  have cHA0 := HA.out.2.1
  have cHA1 := HA.out.2.2.1
  have cHA2 := HA.out.2.2.2.1
  by_cases hc0 : cc = 0
  rotate_left
  · have hce : (cc == 0) = false := by simpa using hc0
    have hce2 : (cc != 0) = true := by simpa using hc0
    clear hc0
    go_wp2_with fail
    refine (awake18_calls _ HT.out).mono ?_
    rintro e W13 ⟨rfl, hB⟩
    clear cHA0 cHA1 cHA2
    replace HA := Lib.hid (HA.out.below hB)
    replace HB := Lib.hid (HB.out.trans (hB.mono HB.out.size))
    replace HI := Lib.hid (HI.out.grow hB)
    replace HT := Lib.hid (fun j hj => keep_below hB _ _ (HT.out j hj))
    clear hB
    have cHA0 := HA.out.2.1
    have cHA1 := HA.out.2.2.1
    have cHA2 := HA.out.2.2.2.1
    go_wp2_with fail
    go_ret
    exact ⟨rfl, HB.out⟩
  have HC0 := Lib.hid (show chk 40 p = 0 from HCC.out.trans hc0)
  have HN3 := Lib.hid hn3
  have hce : (cc == 0) = true := by simpa using hc0
  have hce2 : (cc != 0) = false := by simpa using hc0
  clear hc0
  by_cases hz3 : 300 < sz
  · go_wp2_with fail
    refine (awake18_calls _ HT.out).mono ?_
    rintro e W13 ⟨rfl, hB⟩
    clear cHA0 cHA1 cHA2
    replace HA := Lib.hid (HA.out.below hB)
    replace HB := Lib.hid (HB.out.trans (hB.mono HB.out.size))
    replace HI := Lib.hid (HI.out.grow hB)
    replace HT := Lib.hid (fun j hj => keep_below hB _ _ (HT.out j hj))
    clear hB
    have cHA0 := HA.out.2.1
    have cHA1 := HA.out.2.2.1
    have cHA2 := HA.out.2.2.2.1
    go_wp2_with fail
    go_ret
    exact ⟨rfl, HB.out⟩
  obtain ⟨A, hA⟩ : ∃ A, (arrP 40 p).2 = A := ⟨_, rfl⟩
  obtain ⟨v1, v2, v3, v4, v5, v6⟩ := good_vec HC0.out
  have HTX := Lib.hid (text_arr18 HC0.out HCH.out)
  have HKN := Lib.hid (kind_none HC0.out)
  have HGV := Lib.hid (gA_gV (d := 39) (arrP_good 40 p HC0.out))
  have HTI0 := Lib.hid (its_arrP (d := 39) HC0.out)
  rw [hA] at v1 v2 v5 HTX HKN HGV HTI0
  rw [HF.out] at v1 v5
  rw [HN.out] at v2 v6
  have HOK := Lib.hid (show A.ok ∧ A.nm from ⟨HGV.out.1, HGV.out.2.1⟩)
  have HAA := Lib.hid hA
  have HAC := Lib.hid v1
  have HAN := Lib.hid v2
  have HKY := Lib.hid v5
  have HTL := Lib.hid v6
  have hfa := fld_arr16
  have hfp := fld_its18
  clear hA v1 v2 v3 v4 v5 v6
  go_wp2_with fail
  refine (lof_calls _ p _ nd _ HLO.out HI.out HT.out HC0.out).mono ?_
  rintro e W13 ⟨so3, sc3, uo, rfl, hOR, hB⟩
  clear cHA0 cHA1 cHA2
  replace HA := Lib.hid (HA.out.below hB)
  replace HB := Lib.hid (HB.out.trans (hB.mono HB.out.size))
  replace HI := Lib.hid (HI.out.grow hB)
  replace HT := Lib.hid (fun j hj => keep_below hB _ _ (HT.out j hj))
  have HUO := Lib.hid (show IsV W13 (fun _ => True) uo A by rw [← HAA.out]; exact IsV.any hOR.2)
  have hsv := HUO.out.store
  clear hOR
  clear hB
  obtain ⟨W14, hWn⟩ : ∃ xw9, W13.alloc (.cells #[uo] 36) = xw9 := ⟨_, rfl⟩
  have hB : Below W13.heap.size W13 W14 := by rw [← hWn]; exact below_new _ _
  have hNB : At1 W14 W13.heap.size (uo) := by rw [← hWn]; exact At1.new _ _ _
  replace HA := Lib.hid (HA.out.below hB)
  replace HB := Lib.hid (HB.out.trans (hB.mono HB.out.size))
  replace HI := Lib.hid (HI.out.grow hB)
  replace HT := Lib.hid (fun j hj => keep_below hB _ _ (HT.out j hj))
  replace HUO := Lib.hid (HUO.out.grow hB)
  have HV := Lib.hid hNB
  clear hNB hB
  have cHA0 := HA.out.2.1
  have cHA1 := HA.out.2.2.1
  have cHA2 := HA.out.2.2.2.1
  have cHV0 := HV.out.2.1
  go_wp2_with fail
  clear hWn
  by_cases hno : f = 2 ∨ sz < 1
  · have HNO := Lib.hid (show A.cls = 2 ∨ sz < 1 by rw [HAC.out]; exact hno)
    refine (mggrade_no _ A sz down _ HUO.out HOK.out HNO.out HT.out).mono ?_
    rintro e W15 ⟨rfl, hB⟩
    clear cHA0 cHA1 cHA2 cHV0
    replace HA := Lib.hid (HA.out.below hB)
    replace HB := Lib.hid (HB.out.trans (hB.mono HB.out.size))
    replace HI := Lib.hid (HI.out.grow hB)
    replace HT := Lib.hid (fun j hj => keep_below hB _ _ (HT.out j hj))
    replace HUO := Lib.hid (HUO.out.grow hB)
    replace HV := Lib.hid (HV.out.below hB)
    clear hB
    have cHA0 := HA.out.2.1
    have cHA1 := HA.out.2.2.1
    have cHA2 := HA.out.2.2.2.1
    have cHV0 := HV.out.2.1
    go_wp2_with fail
    refine (mgcells_no _ A sz down _ HUO.out HOK.out HNO.out HT.out).mono ?_
    rintro e W16 ⟨rfl, hB⟩
    clear cHA0 cHA1 cHA2 cHV0
    replace HA := Lib.hid (HA.out.below hB)
    replace HB := Lib.hid (HB.out.trans (hB.mono HB.out.size))
    replace HI := Lib.hid (HI.out.grow hB)
    replace HT := Lib.hid (fun j hj => keep_below hB _ _ (HT.out j hj))
    replace HUO := Lib.hid (HUO.out.grow hB)
    replace HV := Lib.hid (HV.out.below hB)
    clear hB
    have h3 := HNO.out
    rw [HAC.out] at h3
    by_cases hf2 : f = 2
    · subst hf2
      have cHA0 := HA.out.2.1
      have cHA1 := HA.out.2.2.1
      have cHA2 := HA.out.2.2.2.1
      have cHV0 := HV.out.2.1
      go_wp2_with fail
      refine (awake18_calls _ HT.out).mono ?_
      rintro e W17 ⟨rfl, hB⟩
      clear cHA0 cHA1 cHA2 cHV0
      replace HA := Lib.hid (HA.out.below hB)
      replace HB := Lib.hid (HB.out.trans (hB.mono HB.out.size))
      replace HI := Lib.hid (HI.out.grow hB)
      replace HT := Lib.hid (fun j hj => keep_below hB _ _ (HT.out j hj))
      replace HUO := Lib.hid (HUO.out.grow hB)
      replace HV := Lib.hid (HV.out.below hB)
      clear hB
      have cHA0 := HA.out.2.1
      have cHA1 := HA.out.2.2.1
      have cHA2 := HA.out.2.2.2.1
      have cHV0 := HV.out.2.1
      go_wp2_with fail
      go_ret
      exact ⟨rfl, HB.out⟩
    · have hfe : (f == 2) = false := by simpa using hf2
      have hz1 : sz < 1 := by omega
      clear h3 hf2
      have cHA0 := HA.out.2.1
      have cHA1 := HA.out.2.2.1
      have cHA2 := HA.out.2.2.2.1
      have cHV0 := HV.out.2.1
      go_wp2_with fail
      refine (awake18_calls _ HT.out).mono ?_
      rintro e W17 ⟨rfl, hB⟩
      clear cHA0 cHA1 cHA2 cHV0
      replace HA := Lib.hid (HA.out.below hB)
      replace HB := Lib.hid (HB.out.trans (hB.mono HB.out.size))
      replace HI := Lib.hid (HI.out.grow hB)
      replace HT := Lib.hid (fun j hj => keep_below hB _ _ (HT.out j hj))
      replace HUO := Lib.hid (HUO.out.grow hB)
      replace HV := Lib.hid (HV.out.below hB)
      clear hB
      have cHA0 := HA.out.2.1
      have cHA1 := HA.out.2.2.1
      have cHA2 := HA.out.2.2.2.1
      have cHV0 := HV.out.2.1
      go_wp2_with fail
      go_ret
      exact ⟨rfl, HB.out⟩
  · obtain ⟨size, hsz⟩ : ∃ size : Nat, sz = (size : Int) := ⟨sz.toNat, by omega⟩
    subst hsz
    have HC2 := Lib.hid (show A.cls < 2 by have := VV.cls_cases A; rw [HAC.out] at this ⊢; omega)
    have HKE := Lib.hid (HKY.out (by have := HC2.out; rw [HAC.out] at this; exact this))
    have HS := Lib.hid (show 0 < size ∧ size ≤ 1048576 by omega)
    have hf2 : ¬ f = 2 := by omega
    have hfe : (f == 2) = false := by simpa using hf2
    obtain ⟨Q, hQ⟩ : ∃ Q, n / size = Q := ⟨_, rfl⟩
    have HQ := Lib.hid hQ
    have HQ2 := Lib.hid (show Q ≤ 200 by rw [← hQ]; exact Nat.le_trans (Nat.div_le_self _ _) hn3)
    have HGL := Lib.hid (show (zL (mgL A size down)).length = Q by rw [zL_len, mgL_len, HAN.out, hQ])
    have hs1 : ¬ (size : Int) < 1 := by omega
    have hs2 : ¬ size < 1 := by omega
    have hs3 : ¬ size = 0 := by omega
    clear hno hf2 hQ
    refine (mggrade_yes _ A size down _ HUO.out HOK.out HTX.out HC2.out HKN.out HS.out.1 HS.out.2 HT.out).mono ?_
    rintro e W15 hy
    obtain ⟨va, rfl, hva, hB⟩ := hy.of HAN.out
    clear hy
    clear cHA0 cHA1 cHA2 cHV0
    replace HA := Lib.hid (HA.out.below hB)
    replace HB := Lib.hid (HB.out.trans (hB.mono HB.out.size))
    replace HI := Lib.hid (HI.out.grow hB)
    replace HT := Lib.hid (fun j hj => keep_below hB _ _ (HT.out j hj))
    replace HUO := Lib.hid (HUO.out.grow hB)
    replace HV := Lib.hid (HV.out.below hB)
    rw [HQ.out] at hva
    have HG1 := Lib.hid hva
    obtain ⟨oa, ca, rfl, _⟩ := hva.opened
    clear hva hB
    have cHA0 := HA.out.2.1
    have cHA1 := HA.out.2.2.1
    have cHA2 := HA.out.2.2.2.1
    have cHV0 := HV.out.2.1
    go_wp2_with fail
    refine (mgcells_yes _ A size down _ HUO.out HOK.out HTX.out HC2.out HKN.out HS.out.1 HS.out.2 HT.out).mono ?_
    rintro e W16 hy
    obtain ⟨vb, rfl, hvb, hB⟩ := hy.of HAN.out
    clear hy
    clear cHA0 cHA1 cHA2 cHV0
    replace HA := Lib.hid (HA.out.below hB)
    replace HB := Lib.hid (HB.out.trans (hB.mono HB.out.size))
    replace HI := Lib.hid (HI.out.grow hB)
    replace HT := Lib.hid (fun j hj => keep_below hB _ _ (HT.out j hj))
    replace HUO := Lib.hid (HUO.out.grow hB)
    replace HV := Lib.hid (HV.out.below hB)
    replace HG1 := Lib.hid (HG1.out.below hB)
    rw [HQ.out] at hvb
    have HG2 := Lib.hid hvb
    obtain ⟨ob, cb, rfl, _⟩ := hvb.opened
    clear hvb hB
    have cHA0 := HA.out.2.1
    have cHA1 := HA.out.2.2.1
    have cHA2 := HA.out.2.2.2.1
    have cHV0 := HV.out.2.1
    go_wp2_with fail
    refine (ptidy_calls 40 (fun b => True) p _ _ HC0.out (HI.out)).mono ?_
    rintro e W17 ⟨ut, rfl, hut, hB⟩
    clear cHA0 cHA1 cHA2 cHV0
    replace HA := Lib.hid (HA.out.below hB)
    replace HB := Lib.hid (HB.out.trans (hB.mono HB.out.size))
    replace HI := Lib.hid (HI.out.grow hB)
    replace HT := Lib.hid (fun j hj => keep_below hB _ _ (HT.out j hj))
    replace HUO := Lib.hid (HUO.out.grow hB)
    replace HV := Lib.hid (HV.out.below hB)
    replace HG1 := Lib.hid (HG1.out.below hB)
    replace HG2 := Lib.hid (HG2.out.below hB)
    obtain ⟨tso, tsc, tio, tic, rfl, _, hti⟩ := hut.opened
    rw [HTL.out] at hti ⊢
    have HTI := Lib.hid (show Its W17 (fun _ => True) (.slice tio n tic) (tidyP 40 p).l from hti.wide (fun _ _ _ => trivial))
    clear hut hti
    clear hB
    have cHA0 := HA.out.2.1
    have cHA1 := HA.out.2.2.1
    have cHA2 := HA.out.2.2.2.1
    have cHV0 := HV.out.2.1
    go_wp2_with fail
    refine (rgrade_nat _ (tidyP 40 p).l A n size down _ HTI.out HKE.out HTL.out HAN.out HN3.out HS.out.1 HS.out.2).mono ?_
    rintro e W18 ⟨vr, rfl, hvr, hB⟩
    clear cHA0 cHA1 cHA2 cHV0
    replace HA := Lib.hid (HA.out.below hB)
    replace HB := Lib.hid (HB.out.trans (hB.mono HB.out.size))
    replace HI := Lib.hid (HI.out.grow hB)
    replace HT := Lib.hid (fun j hj => keep_below hB _ _ (HT.out j hj))
    replace HUO := Lib.hid (HUO.out.grow hB)
    replace HV := Lib.hid (HV.out.below hB)
    replace HG1 := Lib.hid (HG1.out.below hB)
    replace HG2 := Lib.hid (HG2.out.below hB)
    replace HTI := Lib.hid (HTI.out.grow hB)
    rw [HQ.out] at hvr
    have HVR := Lib.hid hvr.any
    obtain ⟨ra, rc, rfl, _⟩ := hvr.opened
    clear hvr
    clear hB
    have cHA0 := HA.out.2.1
    have cHA1 := HA.out.2.2.1
    have cHA2 := HA.out.2.2.2.1
    have cHV0 := HV.out.2.1
    go_wp2_with fail
    refine (ints_eq _ _ _ Q _ HG1.out HVR.out HGL.out (by have := HQ2.out; omega)).mono ?_
    rintro e W19 ⟨rfl, hB⟩
    clear cHA0 cHA1 cHA2 cHV0
    replace HA := Lib.hid (HA.out.below hB)
    replace HB := Lib.hid (HB.out.trans (hB.mono HB.out.size))
    replace HI := Lib.hid (HI.out.grow hB)
    replace HT := Lib.hid (fun j hj => keep_below hB _ _ (HT.out j hj))
    replace HUO := Lib.hid (HUO.out.grow hB)
    replace HV := Lib.hid (HV.out.below hB)
    replace HG1 := Lib.hid (HG1.out.below hB)
    replace HG2 := Lib.hid (HG2.out.below hB)
    replace HTI := Lib.hid (HTI.out.grow hB)
    replace HVR := Lib.hid (HVR.out.below hB)
    clear hB
    have cHA0 := HA.out.2.1
    have cHA1 := HA.out.2.2.1
    have cHA2 := HA.out.2.2.2.1
    have cHV0 := HV.out.2.1
    go_wp2_with fail
    refine (ints_eq _ _ _ Q _ HG2.out HVR.out HGL.out (by have := HQ2.out; omega)).mono ?_
    rintro e W20 ⟨rfl, hB⟩
    clear cHA0 cHA1 cHA2 cHV0
    replace HA := Lib.hid (HA.out.below hB)
    replace HB := Lib.hid (HB.out.trans (hB.mono HB.out.size))
    replace HI := Lib.hid (HI.out.grow hB)
    replace HT := Lib.hid (fun j hj => keep_below hB _ _ (HT.out j hj))
    replace HUO := Lib.hid (HUO.out.grow hB)
    replace HV := Lib.hid (HV.out.below hB)
    replace HG1 := Lib.hid (HG1.out.below hB)
    replace HG2 := Lib.hid (HG2.out.below hB)
    replace HTI := Lib.hid (HTI.out.grow hB)
    replace HVR := Lib.hid (HVR.out.below hB)
    clear hB
    have cHA0 := HA.out.2.1
    have cHA1 := HA.out.2.2.1
    have cHA2 := HA.out.2.2.2.1
    have cHV0 := HV.out.2.1
    go_wp2_with fail
    refine (awake18_calls _ HT.out).mono ?_
    rintro e W21 ⟨rfl, hB⟩
    clear cHA0 cHA1 cHA2 cHV0
    replace HA := Lib.hid (HA.out.below hB)
    replace HB := Lib.hid (HB.out.trans (hB.mono HB.out.size))
    replace HI := Lib.hid (HI.out.grow hB)
    replace HT := Lib.hid (fun j hj => keep_below hB _ _ (HT.out j hj))
    replace HUO := Lib.hid (HUO.out.grow hB)
    replace HV := Lib.hid (HV.out.below hB)
    replace HG1 := Lib.hid (HG1.out.below hB)
    replace HG2 := Lib.hid (HG2.out.below hB)
    replace HTI := Lib.hid (HTI.out.grow hB)
    replace HVR := Lib.hid (HVR.out.below hB)
    clear hB
    have cHA0 := HA.out.2.1
    have cHA1 := HA.out.2.2.1
    have cHA2 := HA.out.2.2.2.1
    have cHV0 := HV.out.2.1
    go_wp2_with fail
    go_ret
    exact ⟨rfl, HB.out⟩

theorem mergeGrades_frame (w : World) (u : Value) (p : PA) (n : Nat) (hl : lo n p) (hp : IsP w (fun _ => True) u p) (hc : chO p) (size : Int) (_ : (Lit.int .i64 size).wf = true) (down : Bool) (hT : TabAt w) :
    Calls Tryz.prog 4 #[u, .int .i64 size, .bool down] w fun e w' => e = .returned (.bool true) ∧ Below w.heap.size w w' :=
  mergeGrades_walk p u n size down w hl hp hc hT
end Go.Proofs.YtbdbpamefkgelaaGreatDoor

/- Layer 17's law: RadixGrades. -/
import Derived.Test.YtedginpjbpobdaaDoorMgRx1
import Derived.Test.YtedginpjbpobdaaDoorMgOr1
import Derived.Test.YtedginpjbpobdaaDoorMgVa1
namespace Go.Proofs.YtedginpjbpobdaaDoor
set_option maxRecDepth 100000
open Go.RowKit Fl
set_option linter.unusedVariables false

theorem fld_its17 (x y z : Value) (w : World) : (Instr.field 25 (.agg #[x, y, z]) 1).run Tryd.prog w = .ok y w := by kernel_rfl
theorem text_none2 {A : VV} (h : A.cls ≠ 1) : A.text = [] := by cases A <;> first | rfl | exact absurd rfl h
theorem text_arr {p : PA} (h : chk 40 p = 0) (hc : chO p) : ∀ z ∈ (arrP 40 p).2.text, -2147483648 ≤ z ∧ z ≤ 2147483647 := by
  intro z hz
  by_cases h1 : p.f = 1
  · have e : (arrP 40 p).2.text = p.l.map (fun x => x.2.2.1) := by
      simp only [arrP]; rw [if_pos h1]; rfl
    rw [e] at hz
    obtain ⟨x, hx, rfl⟩ := List.mem_map.1 hz
    exact hc x hx
  · rw [text_none2 (by rw [(arrP_len h).2.1]; exact h1)] at hz
    cases hz
theorem kind_arr {p : PA} (h : chk 40 p = 0) : ((arrP 40 p).2.keyB = true ∧ (arrP 40 p).2.kind ≠ 4 ∧ (arrP 40 p).2.kind ≠ 6 ∧ p.f < 2) ∨ ((arrP 40 p).2.keyB = false ∧ ((arrP 40 p).2.kind = 4 ∨ (arrP 40 p).2.kind = 6)) := by
  have hg := gA_gV (d := 39) (arrP_good 40 p h)
  have hf := (arrP_len h).2.1
  rw [← hf]
  have hk := hg.2.2.1
  revert hk
  generalize (arrP 40 p).2 = A
  intro hk
  cases A with
  | none =>
    have : 1 ≤ leastW [] := (leastW_le []).1
    simp only [VV.kind, VV.least, VV.nums] at hk
    omega
  | _ => simp [VV.keyB, VV.kind, VV.isWh, VV.cls]
theorem grade_arr {ok : Nat → Prop} (u : Value) (A : VV) (down : Bool) (kb : Bool) (w : World) (h : IsV w ok u A) (hok : A.ok ∧ A.nm) (ht : ∀ z ∈ A.text, -2147483648 ≤ z ∧ z ≤ 2147483647) (hT : TabAt w) (hk : A.keyB = kb) (n : Nat) (hn : A.len = n) :
    Calls Tryd.prog 10 #[.agg #[u], .bool down] w fun e w' => ∃ v, e = .returned (.tuple #[v, .bool kb]) ∧ (kb = true → Slc w' (fun b => w.heap.size ≤ b) v n (ints (zL (grN n (lesK (keyV A) 1 down) n)))) ∧ (kb = false → v = .slice none 0 0) ∧ Below w.heap.size w w' := by
  refine (rxgrade_calls u A down w h hok.1 hok.2 ht hT).mono ?_
  rintro e w' ⟨v, h1, h2, h3, h4⟩
  rw [hk] at h1 h3
  refine ⟨v, h1, fun h => ?_, h3, h4⟩
  have hkt := hk.trans h
  rw [grL_len hkt] at h2
  unfold grL at h2
  rw [if_pos hkt, hn] at h2
  exact h2
theorem rgrade_one {ok : Nat → Prop} (v : Value) (l : List PI) (K : Nat → Int) (n : Nat) (down : Bool) (w : World) (hv : Its w ok v l) (hK : Keyed l K) (hl : l.length = n) (hn : n ≤ 200) :
    Calls Tryd.prog 13 #[v, .int .i64 1, .bool down] w fun e w' => ∃ v, e = .returned v ∧ Slc w' (fun b => w.heap.size ≤ b) v n (ints (zL (grN n (lesK K 1 down) n))) ∧ Below w.heap.size w w' := by
  have := rgrade_calls v l K 1 down w hv hK (by decide) (by decide) (by omega)
  rw [Nat.div_one, hl] at this
  exact this
set_option maxHeartbeats 16000000 in
theorem radixGrades_walk (p : PA) (u : Value) (nd : Nat) (down : Bool) (w : World) (hl : lo nd p) (hp : IsP w (fun _ => True) u p) (hch : chO p) (hT : TabAt w) :
    Calls Tryd.prog 3 #[u, .bool down] w (Yes17 w) := by
  have HP := Lib.hid hp
  have HLO := Lib.hid hl
  have HCH := Lib.hid hch
  obtain ⟨so, sc, io, ic, rfl, hs, hit⟩ := hp.opened
  obtain ⟨W1, hW1⟩ : ∃ W1, W1 = w.alloc (.cells #[.slice so p.s.length sc, .slice io p.l.length ic, .int .i64 p.f] 25) := ⟨_, rfl⟩
  have HB := Lib.hid (show Below w.heap.size w W1 by rw [hW1]; exact below_new _ _)
  have HA := Lib.hid (show At3 W1 w.heap.size (.slice so p.s.length sc) (.slice io p.l.length ic) (.int .i64 p.f) by rw [hW1]; exact At3.new w _ _ _ _)
  have HI := Lib.hid (show IsP W1 (fun _ => True) _ p from HP.out.grow HB.out)
  have HT := Lib.hid (show TabAt W1 from fun j hj => keep_below HB.out _ _ (hT j hj))
  obtain ⟨cc, hcc⟩ : ∃ cc, chk 40 p = cc := ⟨_, rfl⟩
  have HCC := Lib.hid hcc
  obtain ⟨n, hn⟩ : ∃ n, p.l.length = n := ⟨_, rfl⟩
  obtain ⟨f, hf⟩ : ∃ f, p.f = f := ⟨_, rfl⟩
  have HN := Lib.hid hn
  have HF := Lib.hid hf
  have hfold := hW1.symm
  have hnm : n ≤ maxLen := by rw [← hn]; obtain ⟨a9, c9, e9, h8, h9⟩ := hit.len; omega
  clear hs hit hp hl hW1 hcc hT hch
  rw [hn, hf] at HA HI hfold ⊢
  clear hn hf HP
  have cHA0 := HA.out.2.1
  have cHA1 := HA.out.2.2.1
  have cHA2 := HA.out.2.2.2.1
  go_enter Tryd.func3, Tryd.ntmps3
  go_wp2_with fail
  clear hfold
  refine (pcount_calls nd _ p _ _ _ HLO.out HI.out).mono ?_
  rintro e W11 ⟨cn, rfl, hB⟩
  clear cHA0 cHA1 cHA2
  replace HA := Lib.hid (HA.out.below hB)
  replace HB := Lib.hid (HB.out.trans (hB.mono HB.out.size))
  replace HI := Lib.hid (HI.out.grow hB)
  replace HT := Lib.hid (fun j hj => keep_below hB _ _ (HT.out j hj))
  clear hB
  have cHA0 := HA.out.2.1
  have cHA1 := HA.out.2.2.1
  have cHA2 := HA.out.2.2.2.1
  by_cases hcn : cn ≤ 1000
  rotate_left
  · go_wp2_with fail
    refine (awake17_calls _ HT.out).mono ?_
    rintro e W12 ⟨rfl, hB⟩
    clear cHA0 cHA1 cHA2
    replace HA := Lib.hid (HA.out.below hB)
    replace HB := Lib.hid (HB.out.trans (hB.mono HB.out.size))
    replace HI := Lib.hid (HI.out.grow hB)
    replace HT := Lib.hid (fun j hj => keep_below hB _ _ (HT.out j hj))
    clear hB
    have cHA0 := HA.out.2.1
    have cHA1 := HA.out.2.2.1
    have cHA2 := HA.out.2.2.2.1
    go_wp2_with fail
    go_ret
    exact ⟨rfl, HB.out⟩
  by_cases hn3 : n ≤ 200
  rotate_left
  · go_wp2_with fail
    refine (awake17_calls _ HT.out).mono ?_
    rintro e W12 ⟨rfl, hB⟩
    clear cHA0 cHA1 cHA2
    replace HA := Lib.hid (HA.out.below hB)
    replace HB := Lib.hid (HB.out.trans (hB.mono HB.out.size))
    replace HI := Lib.hid (HI.out.grow hB)
    replace HT := Lib.hid (fun j hj => keep_below hB _ _ (HT.out j hj))
    clear hB
    have cHA0 := HA.out.2.1
    have cHA1 := HA.out.2.2.1
    have cHA2 := HA.out.2.2.2.1
    go_wp2_with fail
    go_ret
    exact ⟨rfl, HB.out⟩
  go_wp2_with fail
  refine (vCheck_calls _ p _ nd _ HLO.out HI.out).mono ?_
  rintro e W12 ⟨rfl, hB⟩
  clear cHA0 cHA1 cHA2
  replace HA := Lib.hid (HA.out.below hB)
  replace HB := Lib.hid (HB.out.trans (hB.mono HB.out.size))
  replace HI := Lib.hid (HI.out.grow hB)
  replace HT := Lib.hid (fun j hj => keep_below hB _ _ (HT.out j hj))
  rw [HCC.out]
  clear hB
  have cHA0 := HA.out.2.1
  have cHA1 := HA.out.2.2.1
  have cHA2 := HA.out.2.2.2.1
  by_cases hc0 : cc = 0
  rotate_left
  · have hce : (cc == 0) = false := by simpa using hc0
    have hce2 : (cc != 0) = true := by simpa using hc0
    clear hc0
    go_wp2_with fail
    refine (awake17_calls _ HT.out).mono ?_
    rintro e W13 ⟨rfl, hB⟩
    clear cHA0 cHA1 cHA2
    replace HA := Lib.hid (HA.out.below hB)
    replace HB := Lib.hid (HB.out.trans (hB.mono HB.out.size))
    replace HI := Lib.hid (HI.out.grow hB)
    replace HT := Lib.hid (fun j hj => keep_below hB _ _ (HT.out j hj))
    clear hB
    have cHA0 := HA.out.2.1
    have cHA1 := HA.out.2.2.1
    have cHA2 := HA.out.2.2.2.1
    go_wp2_with fail
    go_ret
    exact ⟨rfl, HB.out⟩
  have HC0 := Lib.hid (show chk 40 p = 0 from HCC.out.trans hc0)
  have HN3 := Lib.hid hn3
  have hce : (cc == 0) = true := by simpa using hc0
  have hce2 : (cc != 0) = false := by simpa using hc0
  clear hc0
  obtain ⟨A, hA⟩ : ∃ A, (arrP 40 p).2 = A := ⟨_, rfl⟩
  obtain ⟨v1, v2, v3, v4, v5, v6⟩ := good_vec HC0.out
  have HTX := Lib.hid (text_arr HC0.out HCH.out)
  have hka := kind_arr HC0.out
  have hgv := gA_gV (d := 39) (arrP_good 40 p HC0.out)
  have HOK := Lib.hid (show (arrP 40 p).2.ok ∧ (arrP 40 p).2.nm from ⟨hgv.1, hgv.2.1⟩)
  rw [hA] at v1 v2 v5 HTX HOK hka
  rw [HF.out] at v5 hka
  rw [HN.out] at v2 v6
  have HAA := Lib.hid hA
  have HAN := Lib.hid v2
  have HKY := Lib.hid v5
  have HTL := Lib.hid v6
  obtain ⟨kd, hkd⟩ : ∃ kd, A.kind = kd := ⟨_, rfl⟩
  have HKD := Lib.hid hkd
  obtain ⟨kb, hkb⟩ : ∃ kb, A.keyB = kb := ⟨_, rfl⟩
  have HKB := Lib.hid hkb
  rw [hkd, hkb] at hka
  have hfa := fld_arr16
  have hfp := fld_its17
  have HKA := Lib.hid hka
  clear hA v1 v2 v3 v4 v5 v6 hgv hkd hkb hka
  go_wp2_with fail
  refine (lof_calls _ p _ nd _ HLO.out HI.out HT.out HC0.out).mono ?_
  rintro e W13 ⟨so3, sc3, uo, rfl, hOR, hB⟩
  clear cHA0 cHA1 cHA2
  replace HA := Lib.hid (HA.out.below hB)
  replace HB := Lib.hid (HB.out.trans (hB.mono HB.out.size))
  replace HI := Lib.hid (HI.out.grow hB)
  replace HT := Lib.hid (fun j hj => keep_below hB _ _ (HT.out j hj))
  have HUO := Lib.hid (show IsV W13 (fun _ => True) uo A by rw [← HAA.out]; exact IsV.any hOR.2)
  have hsv := HUO.out.store
  clear hOR
  clear hB
  obtain ⟨W14, hWn⟩ : ∃ xw9, W13.alloc (.cells #[uo] 30) = xw9 := ⟨_, rfl⟩
  have hB : Below W13.heap.size W13 W14 := by rw [← hWn]; exact below_new _ _
  have hNB : At1 W14 W13.heap.size (uo) := by rw [← hWn]; exact At1.new _ _ _
  replace HA := Lib.hid (HA.out.below hB)
  replace HB := Lib.hid (HB.out.trans (hB.mono HB.out.size))
  replace HI := Lib.hid (HI.out.grow hB)
  replace HT := Lib.hid (fun j hj => keep_below hB _ _ (HT.out j hj))
  replace HUO := Lib.hid (HUO.out.grow hB)
  have HV := Lib.hid hNB
  clear hNB hB
  have cHA0 := HA.out.2.1
  have cHA1 := HA.out.2.2.1
  have cHA2 := HA.out.2.2.2.1
  have cHV0 := HV.out.2.1
  go_wp2_with fail
  clear hWn
  refine (grade_arr _ A down kb _ HUO.out HOK.out HTX.out HT.out HKB.out n HAN.out).mono ?_
  rintro e W15 ⟨vg, rfl, hg1, hg2, hB⟩
  clear cHA0 cHA1 cHA2 cHV0
  replace HA := Lib.hid (HA.out.below hB)
  replace HB := Lib.hid (HB.out.trans (hB.mono HB.out.size))
  replace HI := Lib.hid (HI.out.grow hB)
  replace HT := Lib.hid (fun j hj => keep_below hB _ _ (HT.out j hj))
  replace HUO := Lib.hid (HUO.out.grow hB)
  replace HV := Lib.hid (HV.out.below hB)
  have HG1 := Lib.hid hg1
  have HG2 := Lib.hid hg2
  clear hg1 hg2
  clear hB
  cases kb
  · obtain rfl := HG2.out rfl
    have h46 : kd = 4 ∨ kd = 6 := by rcases HKA.out with h | h
                                     · cases h.1
                                     · exact h.2
    clear HG1 HG2
    have HKE := Lib.hid h46
    rcases h46 with rfl | rfl
    · have cHA0 := HA.out.2.1
      have cHA1 := HA.out.2.2.1
      have cHA2 := HA.out.2.2.2.1
      have cHV0 := HV.out.2.1
      go_wp2_with fail
      refine (kind_calls _ A _ HUO.out).mono ?_
      rintro e W16 ⟨rfl, hB⟩
      clear cHA0 cHA1 cHA2 cHV0
      replace HA := Lib.hid (HA.out.below hB)
      replace HB := Lib.hid (HB.out.trans (hB.mono HB.out.size))
      replace HI := Lib.hid (HI.out.grow hB)
      replace HT := Lib.hid (fun j hj => keep_below hB _ _ (HT.out j hj))
      replace HUO := Lib.hid (HUO.out.grow hB)
      replace HV := Lib.hid (HV.out.below hB)
      rw [HKD.out]
      clear hB
      have cHA0 := HA.out.2.1
      have cHA1 := HA.out.2.2.1
      have cHA2 := HA.out.2.2.2.1
      have cHV0 := HV.out.2.1
      go_wp2_with fail
      refine (awake17_calls _ HT.out).mono ?_
      rintro e W17 ⟨rfl, hB⟩
      clear cHA0 cHA1 cHA2 cHV0
      replace HA := Lib.hid (HA.out.below hB)
      replace HB := Lib.hid (HB.out.trans (hB.mono HB.out.size))
      replace HI := Lib.hid (HI.out.grow hB)
      replace HT := Lib.hid (fun j hj => keep_below hB _ _ (HT.out j hj))
      replace HUO := Lib.hid (HUO.out.grow hB)
      replace HV := Lib.hid (HV.out.below hB)
      clear hB
      have cHA0 := HA.out.2.1
      have cHA1 := HA.out.2.2.1
      have cHA2 := HA.out.2.2.2.1
      have cHV0 := HV.out.2.1
      go_wp2_with fail
      go_ret
      exact ⟨rfl, HB.out⟩
    · have cHA0 := HA.out.2.1
      have cHA1 := HA.out.2.2.1
      have cHA2 := HA.out.2.2.2.1
      have cHV0 := HV.out.2.1
      go_wp2_with fail
      refine (kind_calls _ A _ HUO.out).mono ?_
      rintro e W16 ⟨rfl, hB⟩
      clear cHA0 cHA1 cHA2 cHV0
      replace HA := Lib.hid (HA.out.below hB)
      replace HB := Lib.hid (HB.out.trans (hB.mono HB.out.size))
      replace HI := Lib.hid (HI.out.grow hB)
      replace HT := Lib.hid (fun j hj => keep_below hB _ _ (HT.out j hj))
      replace HUO := Lib.hid (HUO.out.grow hB)
      replace HV := Lib.hid (HV.out.below hB)
      rw [HKD.out]
      clear hB
      have cHA0 := HA.out.2.1
      have cHA1 := HA.out.2.2.1
      have cHA2 := HA.out.2.2.2.1
      have cHV0 := HV.out.2.1
      go_wp2_with fail
      refine (kind_calls _ A _ HUO.out).mono ?_
      rintro e W17 ⟨rfl, hB⟩
      clear cHA0 cHA1 cHA2 cHV0
      replace HA := Lib.hid (HA.out.below hB)
      replace HB := Lib.hid (HB.out.trans (hB.mono HB.out.size))
      replace HI := Lib.hid (HI.out.grow hB)
      replace HT := Lib.hid (fun j hj => keep_below hB _ _ (HT.out j hj))
      replace HUO := Lib.hid (HUO.out.grow hB)
      replace HV := Lib.hid (HV.out.below hB)
      rw [HKD.out]
      clear hB
      have cHA0 := HA.out.2.1
      have cHA1 := HA.out.2.2.1
      have cHA2 := HA.out.2.2.2.1
      have cHV0 := HV.out.2.1
      go_wp2_with fail
      refine (awake17_calls _ HT.out).mono ?_
      rintro e W18 ⟨rfl, hB⟩
      clear cHA0 cHA1 cHA2 cHV0
      replace HA := Lib.hid (HA.out.below hB)
      replace HB := Lib.hid (HB.out.trans (hB.mono HB.out.size))
      replace HI := Lib.hid (HI.out.grow hB)
      replace HT := Lib.hid (fun j hj => keep_below hB _ _ (HT.out j hj))
      replace HUO := Lib.hid (HUO.out.grow hB)
      replace HV := Lib.hid (HV.out.below hB)
      clear hB
      have cHA0 := HA.out.2.1
      have cHA1 := HA.out.2.2.1
      have cHA2 := HA.out.2.2.2.1
      have cHV0 := HV.out.2.1
      go_wp2_with fail
      go_ret
      exact ⟨rfl, HB.out⟩
  · have hka : kd ≠ 4 ∧ kd ≠ 6 ∧ f < 2 := by
      rcases HKA.out with h | h
      · exact h.2
      · cases h.1
    have h4 : (kd == 4) = false := by simpa using hka.1
    have h6 : (kd == 6) = false := by simpa using hka.2.1
    have HKE := Lib.hid (HKY.out hka.2.2)
    have HGS := Lib.hid (Slc.any (HG1.out rfl))
    obtain ⟨ga, gc, rfl, _⟩ := HGS.out.opened
    clear hka HG1 HG2
    have cHA0 := HA.out.2.1
    have cHA1 := HA.out.2.2.1
    have cHA2 := HA.out.2.2.2.1
    have cHV0 := HV.out.2.1
    go_wp2_with fail
    refine (kind_calls _ A _ HUO.out).mono ?_
    rintro e W16 ⟨rfl, hB⟩
    clear cHA0 cHA1 cHA2 cHV0
    replace HA := Lib.hid (HA.out.below hB)
    replace HB := Lib.hid (HB.out.trans (hB.mono HB.out.size))
    replace HI := Lib.hid (HI.out.grow hB)
    replace HT := Lib.hid (fun j hj => keep_below hB _ _ (HT.out j hj))
    replace HUO := Lib.hid (HUO.out.grow hB)
    replace HV := Lib.hid (HV.out.below hB)
    replace HGS := Lib.hid (HGS.out.below hB)
    rw [HKD.out]
    clear hB
    have cHA0 := HA.out.2.1
    have cHA1 := HA.out.2.2.1
    have cHA2 := HA.out.2.2.2.1
    have cHV0 := HV.out.2.1
    go_wp2_with fail
    refine (kind_calls _ A _ HUO.out).mono ?_
    rintro e W17 ⟨rfl, hB⟩
    clear cHA0 cHA1 cHA2 cHV0
    replace HA := Lib.hid (HA.out.below hB)
    replace HB := Lib.hid (HB.out.trans (hB.mono HB.out.size))
    replace HI := Lib.hid (HI.out.grow hB)
    replace HT := Lib.hid (fun j hj => keep_below hB _ _ (HT.out j hj))
    replace HUO := Lib.hid (HUO.out.grow hB)
    replace HV := Lib.hid (HV.out.below hB)
    replace HGS := Lib.hid (HGS.out.below hB)
    rw [HKD.out]
    clear hB
    have cHA0 := HA.out.2.1
    have cHA1 := HA.out.2.2.1
    have cHA2 := HA.out.2.2.2.1
    have cHV0 := HV.out.2.1
    go_wp2_with fail
    refine (ptidy_calls 40 (fun b => True) p _ _ HC0.out (HI.out)).mono ?_
    rintro e W18 ⟨ut, rfl, hut, hB⟩
    clear cHA0 cHA1 cHA2 cHV0
    replace HA := Lib.hid (HA.out.below hB)
    replace HB := Lib.hid (HB.out.trans (hB.mono HB.out.size))
    replace HI := Lib.hid (HI.out.grow hB)
    replace HT := Lib.hid (fun j hj => keep_below hB _ _ (HT.out j hj))
    replace HUO := Lib.hid (HUO.out.grow hB)
    replace HV := Lib.hid (HV.out.below hB)
    replace HGS := Lib.hid (HGS.out.below hB)
    obtain ⟨tso, tsc, tio, tic, rfl, _, hti⟩ := hut.opened
    rw [HTL.out] at hti ⊢
    have HTI := Lib.hid (show Its W18 (fun _ => True) (.slice tio n tic) (tidyP 40 p).l from hti.wide (fun _ _ _ => trivial))
    clear hut hti
    clear hB
    have cHA0 := HA.out.2.1
    have cHA1 := HA.out.2.2.1
    have cHA2 := HA.out.2.2.2.1
    have cHV0 := HV.out.2.1
    go_wp2_with fail
    refine (rgrade_one _ (tidyP 40 p).l (keyV A) n down _ HTI.out HKE.out HTL.out HN3.out).mono ?_
    rintro e W19 ⟨vr, rfl, hvr, hB⟩
    clear cHA0 cHA1 cHA2 cHV0
    replace HA := Lib.hid (HA.out.below hB)
    replace HB := Lib.hid (HB.out.trans (hB.mono HB.out.size))
    replace HI := Lib.hid (HI.out.grow hB)
    replace HT := Lib.hid (fun j hj => keep_below hB _ _ (HT.out j hj))
    replace HUO := Lib.hid (HUO.out.grow hB)
    replace HV := Lib.hid (HV.out.below hB)
    replace HGS := Lib.hid (HGS.out.below hB)
    replace HTI := Lib.hid (HTI.out.grow hB)
    have HVR := Lib.hid hvr.any
    obtain ⟨ra, rc, rfl, _⟩ := hvr.opened
    clear hvr
    clear hB
    have cHA0 := HA.out.2.1
    have cHA1 := HA.out.2.2.1
    have cHA2 := HA.out.2.2.2.1
    have cHV0 := HV.out.2.1
    go_wp2_with fail
    refine (ints_eq _ _ _ n _ HGS.out HVR.out (by rw [zL_len, grN_len]) (by have := HN3.out; omega)).mono ?_
    rintro e W20 ⟨rfl, hB⟩
    clear cHA0 cHA1 cHA2 cHV0
    replace HA := Lib.hid (HA.out.below hB)
    replace HB := Lib.hid (HB.out.trans (hB.mono HB.out.size))
    replace HI := Lib.hid (HI.out.grow hB)
    replace HT := Lib.hid (fun j hj => keep_below hB _ _ (HT.out j hj))
    replace HUO := Lib.hid (HUO.out.grow hB)
    replace HV := Lib.hid (HV.out.below hB)
    replace HGS := Lib.hid (HGS.out.below hB)
    replace HTI := Lib.hid (HTI.out.grow hB)
    replace HVR := Lib.hid (HVR.out.below hB)
    clear hB
    have cHA0 := HA.out.2.1
    have cHA1 := HA.out.2.2.1
    have cHA2 := HA.out.2.2.2.1
    have cHV0 := HV.out.2.1
    go_wp2_with fail
    refine (awake17_calls _ HT.out).mono ?_
    rintro e W21 ⟨rfl, hB⟩
    clear cHA0 cHA1 cHA2 cHV0
    replace HA := Lib.hid (HA.out.below hB)
    replace HB := Lib.hid (HB.out.trans (hB.mono HB.out.size))
    replace HI := Lib.hid (HI.out.grow hB)
    replace HT := Lib.hid (fun j hj => keep_below hB _ _ (HT.out j hj))
    replace HUO := Lib.hid (HUO.out.grow hB)
    replace HV := Lib.hid (HV.out.below hB)
    replace HGS := Lib.hid (HGS.out.below hB)
    replace HTI := Lib.hid (HTI.out.grow hB)
    replace HVR := Lib.hid (HVR.out.below hB)
    clear hB
    have cHA0 := HA.out.2.1
    have cHA1 := HA.out.2.2.1
    have cHA2 := HA.out.2.2.2.1
    have cHV0 := HV.out.2.1
    go_wp2_with fail
    go_ret
    exact ⟨rfl, HB.out⟩

theorem radixGrades_frame (w : World) (u : Value) (p : PA) (n : Nat) (hl : lo n p) (hp : IsP w (fun _ => True) u p) (hc : chO p) (down : Bool) (hT : TabAt w) :
    Calls Tryd.prog 3 #[u, .bool down] w fun e w' => e = .returned (.bool true) ∧ Below w.heap.size w w' :=
  radixGrades_walk p u n down w hl hp hc hT
end Go.Proofs.YtedginpjbpobdaaDoor

/- Merged: VbJ. -/
import Derived.Test.YtohjomhiibkobaaDoorMgVa1
/- Package value's law: ValueNew. -/
namespace Go.Proofs.YtohjomhiibkobaaDoor
set_option maxRecDepth 100000
open Go.RowKit Fl
set_option linter.unusedVariables false

def nP (s : List Int) (l : List Nat) : PA := .mk s (l.map numI) 0
theorem nP_tidy (d : Nat) (s : List Int) (l : List Nat) : tidyP (d + 1) (nP s l) = .mk s (l.map fun x => (0, ze x, 0, [])) 0 := by
  simp [tidyP, nP, PA.s, PA.l, PA.f, tidyI, numI, Function.comp_def]
theorem plA_nums {d : Nat} {s : List Int} {V : VV} {l : List Nat} (hc : V.cls = 0) (hn : V.nums = l.map ze) (hl : V.len = l.length) : plA (d + 1) (s, V) = .mk s (l.map fun x => (0, ze x, 0, [])) 0 := by
  simp only [plA]
  rw [hc, hl]
  refine PA.ext rfl ?_ rfl
  refine map_range_eq fun i x hx => ?_
  unfold itA
  rw [if_neg (by omega), if_neg (by omega), hn, atI_some (x := ze x) (by rw [List.getElem?_map, hx]; rfl)]
theorem nP_chk {d : Nat} {s : List Int} {l : List Nat} (hf : ∀ x ∈ l, Fnt x) : chk (d + 1) (nP s l) = if (prodR s 1048576).2 ≠ 0 then (prodR s 1048576).2 else if (prodR s 1048576).1 ≠ (l.length : Int) then 23 else 0 := by
  have hff : ¬ ((nP s l).f < 0 ∨ 2 < (nP s l).f) := by simp [nP, PA.f]
  by_cases h1 : (prodR s 1048576).2 = 0
  · rw [if_neg (by simpa using h1)]
    by_cases h2 : (prodR s 1048576).1 = (l.length : Int)
    · rw [if_neg (by simpa using h2)]
      rw [chk_well]
      refine ⟨by simp [nP, PA.f], by simp [nP, PA.f], ?_, fun x hx => ?_⟩
      · show prodR s 1048576 = (((l.map numI).length : Int), 0)
        rw [List.length_map, ← h1, ← h2]
      · obtain ⟨y, hy, rfl⟩ := List.mem_map.1 (show x ∈ l.map numI from hx)
        exact ⟨rfl, fun h => by simp [numI] at h, fun _ => hf y hy⟩
    · rw [if_pos h2, chk_n hff h1 (by show (prodR s 1048576).1 ≠ ((l.map numI).length : Int); rw [List.length_map]; exact h2)]
  · rw [if_pos h1, chk_s hff h1]; rfl
theorem newE_nP {d : Nat} {s : List Int} {l : List Nat} {V : VV} (hf : ∀ x ∈ l, Fnt x) (hk : V.kind ≠ 0) (hl : V.len = l.length) : newE s V = chk (d + 1) (nP s l) := by
  rw [nP_chk hf]
  unfold newE
  rw [if_neg hk, hl]
  split <;> first | rfl | (split <;> split <;> first | rfl | omega)
theorem newE_bad {s : List Int} : newE s .none ≠ 0 := by
  unfold newE
  split
  · assumption
  · rw [if_pos (show VV.none.kind = 0 from rfl)]; decide
theorem newE_zero {s : List Int} {V : VV} (h : newE s V = 0) : prodR s 1048576 = ((V.len : Int), 0) := by
  unfold newE at h
  split at h
  · rename_i h1; exact absurd h h1
  · rename_i h1
    split at h
    · cases h
    · split at h
      · cases h
      · rename_i h3
        have e1 : (prodR s 1048576).2 = 0 := Decidable.byContradiction h1
        have e2 : (V.len : Int) = (prodR s 1048576).1 := Decidable.byContradiction h3
        rw [e2, ← e1]
theorem newE_none {s : List Int} (h : (prodR s 1048576).2 = 0) : newE s .none = 1 := by
  unfold newE; rw [if_neg (by simpa using h), if_pos (show VV.none.kind = 0 from rfl)]
theorem nP_lo {s : List Int} {l : List Nat} (h : ∀ x ∈ l, x < 18446744073709551616) : lo 1 (nP s l) := by
  intro x hx
  obtain ⟨y, hy, rfl⟩ := List.mem_map.1 (show x ∈ l.map numI from hx)
  exact ⟨h y hy, fun q hq => by simp [numI] at hq⟩
theorem gA_nums {d : Nat} {s : List Int} {V : VV} (hok : V.ok) (hn : V.nm) (hc : V.cls = 0) (hp : prodR s 1048576 = ((V.len : Int), 0)) : gA (d + 1) (s, V.sq) := by
  obtain ⟨h1, h2, h3, h4, h5, h6⟩ := VV.sq_spec hok hn
  refine ⟨by rw [h6]; exact hp, h4, h5, ?_, fun a ha => by rw [boxs_of_cls (by rw [h3, hc]; decide)] at ha; simp at ha⟩
  rw [h1, VV.least_eq hok hn hc, VV.least_eq h4 h5 (by rw [h3]; exact hc), h2]

theorem fit_pos {V0 : VV} {l : List Nat} {k : Int} (h : V0 = VV.floats (l.map ze)) (hf : V0.fit k = true) : k ≠ 0 := by
  subst h
  intro e
  subst e
  simp [VV.fit, VV.kind, VV.cls] at hf
set_option maxHeartbeats 16000000 in
theorem valueNew_walk (v : Value) (s : List Int) (v2 : Value) (l : List Nat) (kind : Int) (w : World) (hs : Slc w (fun _ => True) v s.length (ints s)) (hl : Slc w (fun _ => True) v2 l.length (f64s l)) (hw : ∀ x ∈ l, x < 18446744073709551616) (hT : TabAt w) :
    Calls Tryd.prog 3 #[v, v2, .int .i64 kind] w (BoolIs true w) := by
  have HS := Lib.hid hs
  have HL := Lib.hid hl
  have HT := Lib.hid hT
  have HT0 := Lib.hid hT
  have HS00 := Lib.hid hs
  have HL00 := Lib.hid hl
  have HWF := Lib.hid hw
  obtain ⟨so, sc, rfl, _⟩ := hs.opened
  obtain ⟨lo_, lc, rfl, _⟩ := hl.opened
  have HB := Lib.hid (Below.refl w.heap.size w)
  clear hs hl hT hw
  by_cases h60 : 60 < s.length
  · go_enter Tryd.func3, Tryd.ntmps3
    go_wp2_with fail
    refine (awake7_calls _ HT.out).mono ?_
    rintro e W11 ⟨rfl, hB⟩
    replace HB := Lib.hid (HB.out.trans (hB.mono HB.out.size))
    replace HS := Lib.hid (HS.out.below hB)
    replace HL := Lib.hid (HL.out.below hB)
    replace HT := Lib.hid (fun j hj => keep_below hB _ _ (HT.out j hj))
    clear hB
    go_wp2_with fail
    go_ret
    exact BoolIs.mk rfl HB.out
  by_cases h500 : 500 < l.length
  · go_enter Tryd.func3, Tryd.ntmps3
    go_wp2_with fail
    refine (awake7_calls _ HT.out).mono ?_
    rintro e W11 ⟨rfl, hB⟩
    replace HB := Lib.hid (HB.out.trans (hB.mono HB.out.size))
    replace HS := Lib.hid (HS.out.below hB)
    replace HL := Lib.hid (HL.out.below hB)
    replace HT := Lib.hid (fun j hj => keep_below hB _ _ (HT.out j hj))
    clear hB
    go_wp2_with fail
    go_ret
    exact BoolIs.mk rfl HB.out
  have HSL := Lib.hid (show s.length ≤ 60 by omega)
  have HLL := Lib.hid (show l.length ≤ 500 by omega)
  go_enter Tryd.func3, Tryd.ntmps3
  go_wp2_with fail
  clear h60 h500
  by_cases hfl : ∀ y ∈ l, Fnt y
  rotate_left
  · have HFL := Lib.hid (show ∃ y ∈ l, ¬ Fnt y from Classical.byContradiction fun h => hfl fun y hy => Classical.byContradiction fun h2 => h ⟨y, hy, h2⟩)
    clear hfl
    refine (vfloats_no _ l _ HL.out (by have := HLL.out; omega) HWF.out HFL.out).mono ?_
    rintro e W11 ⟨uv, rfl, hUV, hB⟩
    replace HB := Lib.hid (HB.out.trans (hB.mono HB.out.size))
    replace HS := Lib.hid (HS.out.below hB)
    replace HL := Lib.hid (HL.out.below hB)
    replace HT := Lib.hid (fun j hj => keep_below hB _ _ (HT.out j hj))
    have hsv := hUV.store
    clear hUV
    clear hB
    obtain ⟨W12, hWn⟩ : ∃ xw9, W11.alloc (.cells #[uv] 26) = xw9 := ⟨_, rfl⟩
    have hB : Below W11.heap.size W11 W12 := by rw [← hWn]; exact below_new _ _
    have hNB : At1 W12 W11.heap.size (uv) := by rw [← hWn]; exact At1.new _ _ _
    replace HB := Lib.hid (HB.out.trans (hB.mono HB.out.size))
    replace HS := Lib.hid (HS.out.below hB)
    replace HL := Lib.hid (HL.out.below hB)
    replace HT := Lib.hid (fun j hj => keep_below hB _ _ (HT.out j hj))
    have HVW := Lib.hid hNB
    clear hNB hB
    have cHVW0 := HVW.out.2.1
    go_wp2_with fail
    clear hWn
    refine (awake7_calls _ HT.out).mono ?_
    rintro e W13 ⟨rfl, hB⟩
    clear cHVW0
    replace HB := Lib.hid (HB.out.trans (hB.mono HB.out.size))
    replace HS := Lib.hid (HS.out.below hB)
    replace HL := Lib.hid (HL.out.below hB)
    replace HT := Lib.hid (fun j hj => keep_below hB _ _ (HT.out j hj))
    replace HVW := Lib.hid (HVW.out.below hB)
    clear hB
    have cHVW0 := HVW.out.2.1
    go_wp2_with fail
    go_ret
    exact BoolIs.mk rfl HB.out
  have HFL := Lib.hid hfl
  clear hfl
  refine (vfloats_yes _ l _ HL.out (by have := HLL.out; omega) HFL.out).mono ?_
  rintro e W11 ⟨uv, rfl, hUV, hB⟩
  replace HB := Lib.hid (HB.out.trans (hB.mono HB.out.size))
  replace HS := Lib.hid (HS.out.below hB)
  replace HL := Lib.hid (HL.out.below hB)
  replace HT := Lib.hid (fun j hj => keep_below hB _ _ (HT.out j hj))
  have HUV := Lib.hid (show IsV W11 (fun b => b < W11.heap.size) uv _ from hUV.lt.wide (fun b _ h => h.2))
  have hsv := hUV.store
  clear hUV
  clear hB
  have HFK := Lib.hid (show (VV.floats (l.map ze)).ok by have := HLL.out; simp [VV.ok]; omega)
  have HFM := Lib.hid (show (VV.floats (l.map ze)).nm by
    intro y hy
    simp only [List.mem_map] at hy
    obtain ⟨z, hz, rfl⟩ := hy
    exact ze_num (HFL.out z hz))
  obtain ⟨V0, hV0⟩ : ∃ V0, V0 = VV.floats (l.map ze) := ⟨_, rfl⟩
  have HV0 := Lib.hid hV0
  rw [← hV0] at HUV HFK HFM
  clear hV0
  have HBW := Lib.hid HB.out.size
  obtain ⟨W12, hWn⟩ : ∃ xw9, W11.alloc (.cells #[uv] 26) = xw9 := ⟨_, rfl⟩
  have hB : Below W11.heap.size W11 W12 := by rw [← hWn]; exact below_new _ _
  have hNB : At1 W12 W11.heap.size (uv) := by rw [← hWn]; exact At1.new _ _ _
  replace HB := Lib.hid (HB.out.trans (hB.mono HB.out.size))
  replace HS := Lib.hid (HS.out.below hB)
  replace HL := Lib.hid (HL.out.below hB)
  replace HT := Lib.hid (fun j hj => keep_below hB _ _ (HT.out j hj))
  replace HUV := Lib.hid (HUV.out.grow hB)
  have HVW := Lib.hid hNB
  clear hNB hB
  have cHVW0 := HVW.out.2.1
  go_wp2_with fail
  clear hWn
  have HO := HVW.out.1
  refine (sinto_calls _ V0 kind _ HUV.out HFK.out HFM.out HT.out).mono ?_
  rintro e W13 ⟨ui, rfl, hui, hB⟩
  clear cHVW0
  replace HB := Lib.hid (HB.out.trans (hB.mono HB.out.size))
  replace HS := Lib.hid (HS.out.below hB)
  replace HL := Lib.hid (HL.out.below hB)
  replace HT := Lib.hid (fun j hj => keep_below hB _ _ (HT.out j hj))
  replace HUV := Lib.hid (HUV.out.grow hB)
  replace HVW := Lib.hid (HVW.out.below hB)
  have HUI := Lib.hid (show IsV W13 (fun b => b ≠ W11.heap.size) ui (V0.into kind) from IsV.wide hui (fun b _ h e => by rcases h with h | h <;> omega))
  have hsi := hui.store
  clear hui HO
  clear hB
  have HS0 := Lib.hid (show Slc w (fun b => b < w.heap.size) (.slice so s.length sc) s.length (ints s) from HS00.out.keep (Kept.refl _ _) (fun b h _ => h))
  have HL0 := Lib.hid (show Slc w (fun b => b < w.heap.size) (.slice lo_ l.length lc) l.length (f64s l) from HL00.out.keep (Kept.refl _ _) (fun b h _ => h))
  have HBV0 := Lib.hid (show w.heap.size ≤ W11.heap.size from HBW.out)
  cases hfit : V0.fit kind
  · have HFI := Lib.hid hfit
    clear hfit
    obtain ⟨W14, hWn⟩ : ∃ xw9, W13.alloc (.cells #[ui] 26) = xw9 := ⟨_, rfl⟩
    have hB : Below W13.heap.size W13 W14 := by rw [← hWn]; exact below_new _ _
    have hNB : At1 W14 W13.heap.size (ui) := by rw [← hWn]; exact At1.new _ _ _
    replace HB := Lib.hid (HB.out.trans (hB.mono HB.out.size))
    replace HS := Lib.hid (HS.out.below hB)
    replace HL := Lib.hid (HL.out.below hB)
    replace HT := Lib.hid (fun j hj => keep_below hB _ _ (HT.out j hj))
    replace HUV := Lib.hid (HUV.out.grow hB)
    replace HVW := Lib.hid (HVW.out.below hB)
    replace HUI := Lib.hid (HUI.out.grow hB)
    have HIW := Lib.hid hNB
    clear hNB hB
    have cHVW0 := HVW.out.2.1
    have cHIW0 := HIW.out.2.1
    go_wp2_with fail
    clear hWn
    have HX := Lib.hid (show V0.ok ∧ V0.nm ∧ V0.kind ≠ 0 ∧ V0.cls = 0 ∧ V0.nums = l.map ze ∧ V0.len = l.length from ⟨HFK.out, HFM.out, by rw [HV0.out]; simp [VV.kind], by rw [HV0.out]; rfl, by rw [HV0.out]; rfl, by rw [HV0.out]; simp [VV.len]⟩)
    refine (rNums_calls (ok := fun _ => True) _ l _ (HL0.out.keep (Kept.below HB.out) (fun b _ _ => trivial)) (by have := HLL.out; omega)).mono ?_
    rintro e W15 ⟨un, rfl, hun, hB⟩
    clear cHVW0 cHIW0
    replace HB := Lib.hid (HB.out.trans (hB.mono HB.out.size))
    replace HUV := Lib.hid (HUV.out.grow hB)
    replace HVW := Lib.hid (HVW.out.below hB)
    obtain ⟨no, nc, mo, mc, rfl, _, hni⟩ := hun.opened
    have HNI := Lib.hid (show Its W15 (fun b => b < W15.heap.size) (.slice mo (numsP l).l.length mc) (l.map numI) from hni.lt.wide (fun b _ h => h.2))
    clear hun hni
    clear hB
    have HUXl := Lib.hid (show IsV W15 (fun b => b < W15.heap.size) uv V0 from HUV.out.lt.wide (fun b _ h => h.2))
    have HBB := Lib.hid (show w.heap.size ≤ W15.heap.size from HB.out.size)
    have HVN := Lib.hid HVW.out.1
    obtain ⟨W16, hWn⟩ : ∃ xw9, W15.alloc (.cells #[.slice no (numsP l).s.length nc, .slice mo (numsP l).l.length mc, .int .i64 (numsP l).f] 32) = xw9 := ⟨_, rfl⟩
    have hB : Below W15.heap.size W15 W16 := by rw [← hWn]; exact below_new _ _
    have hNB : At3 W16 W15.heap.size (.slice no (numsP l).s.length nc) (.slice mo (numsP l).l.length mc) (.int .i64 (numsP l).f) := by rw [← hWn]; exact At3.new _ _ _ _ _
    replace HB := Lib.hid (HB.out.trans (hB.mono HB.out.size))
    replace HVW := Lib.hid (HVW.out.below hB)
    replace HNI := Lib.hid (HNI.out.grow hB)
    replace HUXl := Lib.hid (HUXl.out.grow hB)
    have HPV := Lib.hid hNB
    clear hNB hB
    have cHVW0 := HVW.out.2.1
    have cHPV0 := HPV.out.2.1
    have cHPV1 := HPV.out.2.2.1
    have cHPV2 := HPV.out.2.2.2.1
    have zHPV0 := HPV.out.2.2.2.2 0
    have zHPV1 := HPV.out.2.2.2.2 1
    have zHPV2 := HPV.out.2.2.2.2 2
    have cXV : (W16.setCell ⟨W15.heap.size, 0, none⟩ (.slice so s.length sc)).cell? ⟨W11.heap.size, 0, none⟩ = some (uv) := (HVW.out.grown (grown_setCell _ ⟨W15.heap.size, 0, none⟩ _) (by have := HVN.out; simp; omega)).2.1
    go_wp2_with fail
    clear cXV
    clear cHVW0 cHPV0 cHPV1 cHPV2 zHPV0 zHPV1 zHPV2
    clear hWn
    obtain ⟨W17, hWn⟩ : ∃ xw9, W16.setCell ⟨W15.heap.size, 0, none⟩ (.slice so s.length sc) = xw9 := ⟨_, rfl⟩
    rw [hWn]
    replace HPV := Lib.hid (show At3 W17 W15.heap.size (.slice so s.length sc) (.slice mo (numsP l).l.length mc) (.int .i64 (numsP l).f) by rw [← hWn]; exact HPV.out.set0 _)
    replace HVW := Lib.hid (show At1 W17 W11.heap.size (uv) by rw [← hWn]; exact HVW.out.grown (grown_setCell _ ⟨W15.heap.size, 0, none⟩ _) (by have := HVN.out; simp; omega))
    replace HUXl := Lib.hid (show IsV W17 (fun b => b < W15.heap.size) uv V0 by rw [← hWn]; exact HUXl.out.keep (Kept.setCell _ _ _ (by simp)) (fun _ _ h => h))
    replace HNI := Lib.hid (show Its W17 (fun b => b < W15.heap.size) (.slice mo (numsP l).l.length mc) (l.map numI) by rw [← hWn]; exact HNI.out.keep (Kept.setCell _ _ _ (by simp)) (fun _ _ h => h))
    replace HB := Lib.hid (show Below w.heap.size w W17 by rw [← hWn]; exact HB.out.setCell HBB.out _)
    clear hWn
    obtain ⟨ce, hce⟩ : ∃ ce, ce = newE s V0 := ⟨_, rfl⟩
    have HCE := Lib.hid hce
    have HCK := Lib.hid (show chk 40 (nP s l) = ce by rw [hce]; exact (newE_nP (d := 39) HFL.out HX.out.2.2.1 HX.out.2.2.2.2.2).symm)
    clear hce
    refine (vnew_calls _ _ s V0 _ (show Slc _ (fun _ => True) _ s.length (ints s) from HS0.out.keep (Kept.below HB.out) (fun b _ _ => trivial)) (by have := HSL.out; omega) HUXl.out HX.out.1 HX.out.2.1 (fun j hj => keep_below HB.out _ _ (HT0.out j hj))).mono ?_
    rintro e W18 ⟨sa, ua, rfl, hya, hna, hB⟩
    replace HB := Lib.hid (HB.out.trans (hB.mono HB.out.size))
    replace HVW := Lib.hid (HVW.out.below hB)
    replace HNI := Lib.hid (HNI.out.grow hB)
    replace HUXl := Lib.hid (HUXl.out.grow hB)
    replace HPV := Lib.hid (HPV.out.below hB)
    rw [← HCE.out] at hya hna ⊢
    have HYA := Lib.hid hya
    have HNA := Lib.hid hna
    clear hya hna
    clear hB
    by_cases hc0 : ce = 0
    · have HC0 := Lib.hid hc0
      obtain ⟨has, hau⟩ := HYA.out hc0
      obtain ⟨ao, ac, rfl, _⟩ := has.opened
      have hsa := hau.store
      have HAR := Lib.hid (show IsArr W18 (fun _ => True) (.slice ao s.length ac) ua (s, VV.sq V0) from ⟨has, hau⟩)
      clear has hau hc0
      obtain ⟨W19, hWn⟩ : ∃ xw9, W18.alloc (.cells #[.slice ao s.length ac, ua] 35) = xw9 := ⟨_, rfl⟩
      have hB : Below W18.heap.size W18 W19 := by rw [← hWn]; exact below_new _ _
      have hNB : At2 W19 W18.heap.size (.slice ao s.length ac) (ua) := by rw [← hWn]; exact At2.new _ _ _ _
      replace HB := Lib.hid (HB.out.trans (hB.mono HB.out.size))
      replace HVW := Lib.hid (HVW.out.below hB)
      replace HNI := Lib.hid (HNI.out.grow hB)
      replace HUXl := Lib.hid (HUXl.out.grow hB)
      replace HPV := Lib.hid (HPV.out.below hB)
      replace HAR := Lib.hid (HAR.out.grow hB)
      have HAV := Lib.hid hNB
      clear hNB hB
      have cHVW0 := HVW.out.2.1
      have cHPV0 := HPV.out.2.1
      have cHPV1 := HPV.out.2.2.1
      have cHPV2 := HPV.out.2.2.2.1
      have cHAV0 := HAV.out.2.1
      have cHAV1 := HAV.out.2.2.1
      go_wp2_with fail
      clear hWn
      refine (vnew_calls (ok := fun _ => True) _ _ s .none _ (show Slc _ (fun _ => True) _ s.length (ints s) from HS0.out.keep (Kept.below HB.out) (fun b _ _ => trivial)) (by have := HSL.out; omega) IsV.none (by trivial) (by trivial) (fun j hj => keep_below HB.out _ _ (HT0.out j hj))).mono ?_
      rintro e W20 ⟨sb, ub, rfl, _, hnb, hB⟩
      clear cHVW0 cHPV0 cHPV1 cHPV2 cHAV0 cHAV1
      replace HB := Lib.hid (HB.out.trans (hB.mono HB.out.size))
      replace HVW := Lib.hid (HVW.out.below hB)
      replace HNI := Lib.hid (HNI.out.grow hB)
      replace HUXl := Lib.hid (HUXl.out.grow hB)
      replace HPV := Lib.hid (HPV.out.below hB)
      replace HAR := Lib.hid (HAR.out.grow hB)
      replace HAV := Lib.hid (HAV.out.below hB)
      obtain ⟨rfl, rfl⟩ := hnb newE_bad
      clear hnb
      clear hB
      obtain ⟨ne, hne⟩ : ∃ ne, ne = newE s .none := ⟨_, rfl⟩
      rw [← hne]
      have HNE := Lib.hid hne
      clear hne
      obtain ⟨wz, hwz⟩ : ∃ wz, wz = W20.alloc (.cells #[.slice none 0 0, .nilIface] 35) := ⟨_, rfl⟩
      have HPZ := HPV.out.below (below_new W20 (.cells #[.slice none 0 0, .nilIface] 35))
      obtain ⟨_, pz0, pz1, pz2, _⟩ := HPZ
      clear hwz
      go_wp2_with fail
      clear pz0 pz1 pz2
      obtain ⟨W21, hWn⟩ : ∃ xw9, W20.alloc (.cells #[.slice none 0 0, .nilIface] 35) = xw9 := ⟨_, rfl⟩
      have hB : Below W20.heap.size W20 W21 := by rw [← hWn]; exact below_new _ _
      have hNB : At2 W21 W20.heap.size (.slice none 0 0) (.nilIface) := by rw [← hWn]; exact At2.new _ _ _ _
      have hsz9 : W21.heap.size = W20.heap.size + 1 := by rw [← hWn]; simp
      rw [hWn]
      clear hWn
      obtain ⟨bnv, hnm⟩ : ∃ x, W20.heap.size = x := ⟨_, rfl⟩
      rw [hnm] at hNB hsz9 ⊢
      have HZW21 := Lib.hid hsz9
      clear hsz9
      replace HB := Lib.hid (HB.out.trans (hB.mono HB.out.size))
      replace HVW := Lib.hid (HVW.out.below hB)
      replace HNI := Lib.hid (HNI.out.grow hB)
      replace HUXl := Lib.hid (HUXl.out.grow hB)
      replace HPV := Lib.hid (HPV.out.below hB)
      replace HAR := Lib.hid (HAR.out.grow hB)
      replace HAV := Lib.hid (HAV.out.below hB)
      have HNV := Lib.hid hNB
      clear hNB hB hnm
      have cHVW0 := HVW.out.2.1
      have cHPV0 := HPV.out.2.1
      have cHPV1 := HPV.out.2.2.1
      have cHPV2 := HPV.out.2.2.2.1
      have cHAV0 := HAV.out.2.1
      have cHAV1 := HAV.out.2.2.1
      have cHNV0 := HNV.out.2.1
      have cHNV1 := HNV.out.2.2.1
      clear cHVW0 cHPV0 cHPV1 cHPV2 cHAV0 cHAV1 cHNV0 cHNV1
      refine (vCheck_calls _ (nP s l) _ 1 _ (nP_lo HWF.out) (show IsP _ (fun _ => True) _ (nP s l) from IsP.of (s := s) (l := l.map numI) (show Slc _ (fun _ => True) _ s.length (ints s) from HS0.out.keep (Kept.below HB.out) (fun b _ _ => trivial)) (HNI.out.wide (fun _ _ _ => trivial)))).mono ?_
      rintro e W22 ⟨rfl, hB⟩
      replace HB := Lib.hid (HB.out.trans (hB.mono HB.out.size))
      replace HVW := Lib.hid (HVW.out.below hB)
      replace HNI := Lib.hid (HNI.out.grow hB)
      replace HUXl := Lib.hid (HUXl.out.grow hB)
      replace HPV := Lib.hid (HPV.out.below hB)
      replace HAR := Lib.hid (HAR.out.grow hB)
      replace HAV := Lib.hid (HAV.out.below hB)
      replace HNV := Lib.hid (HNV.out.below hB)
      rw [HCK.out]
      clear hB
      have hce0 : (ce != 0) = false := by have := HC0.out; simp [this]
      have HPR := Lib.hid (newE_zero (HCE.out.symm.trans HC0.out))
      obtain rfl : ne = 1 := by rw [HNE.out]; exact newE_none (by rw [HPR.out])
      obtain ⟨q1, q2, q3, q4, q5, q6⟩ := VV.sq_spec HX.out.1 HX.out.2.1
      have HGA := Lib.hid (show gA 40 (s, VV.sq V0) from gA_nums (d := 39) HX.out.1 HX.out.2.1 HX.out.2.2.2.1 HPR.out)
      have HPL := Lib.hid (show plA 40 (s, VV.sq V0) = .mk s (l.map fun x => (0, ze x, 0, [])) 0 from plA_nums (d := 39) (by rw [q3]; exact HX.out.2.2.2.1) (by rw [q2]; exact HX.out.2.2.2.2.1) (by rw [q6]; exact HX.out.2.2.2.2.2))
      have HTD := Lib.hid (show tidyP 40 (nP s l) = .mk s (l.map fun x => (0, ze x, 0, [])) 0 from nP_tidy 39 s l)
      have HC40 := Lib.hid (show chk 40 (nP s l) = 0 by rw [HCK.out]; exact HC0.out)
      have HNI2 := Lib.hid (show nice 40 (.mk s (l.map fun x => (0, ze x, 0, [])) 0) by rw [← HTD.out]; exact nice_tidy 40 _ HC40.out)
      have hc0 := HC0.out
      subst hc0
      clear q1 q2 q3 q4 q5 q6
      have cHVW0 := HVW.out.2.1
      have cHPV0 := HPV.out.2.1
      have cHPV1 := HPV.out.2.2.1
      have cHPV2 := HPV.out.2.2.2.1
      have cHAV0 := HAV.out.2.1
      have cHAV1 := HAV.out.2.2.1
      have cHNV0 := HNV.out.2.1
      have cHNV1 := HNV.out.2.2.1
      go_wp2_with fail
      obtain ⟨W23, hWD⟩ : ∃ xw9, W22.drew = xw9 := ⟨_, rfl⟩
      have hB : Below W22.heap.size W22 W23 := by rw [← hWD]; exact Below.drewN' (Below.refl _ _) 1
      clear cHVW0 cHPV0 cHPV1 cHPV2 cHAV0 cHAV1 cHNV0 cHNV1
      replace HB := Lib.hid (HB.out.trans (hB.mono HB.out.size))
      replace HVW := Lib.hid (HVW.out.below hB)
      replace HNI := Lib.hid (HNI.out.grow hB)
      replace HUXl := Lib.hid (HUXl.out.grow hB)
      replace HPV := Lib.hid (HPV.out.below hB)
      replace HAR := Lib.hid (HAR.out.grow hB)
      replace HAV := Lib.hid (HAV.out.below hB)
      replace HNV := Lib.hid (HNV.out.below hB)
      clear hB
      refine wp_region_held_drew (S := fun w' => w'.cell? ⟨W11.heap.size, 0, none⟩ = some (uv) ∧ w'.cell? ⟨W15.heap.size, 0, none⟩ = some (.slice so s.length sc) ∧ w'.cell? ⟨W15.heap.size, 1, none⟩ = some (.slice mo (numsP l).l.length mc) ∧ w'.cell? ⟨W15.heap.size, 2, none⟩ = some (.int .i64 (numsP l).f) ∧ w'.cell? ⟨W18.heap.size, 0, none⟩ = some (.slice ao s.length ac) ∧ w'.cell? ⟨W18.heap.size, 1, none⟩ = some (ua) ∧ w'.cell? ⟨bnv, 0, none⟩ = some (.slice none 0 0) ∧ w'.cell? ⟨bnv, 1, none⟩ = some (.nilIface)) (by kernel_rfl) (by rw [hWD]; exact ⟨HVW.out.2.1, HPV.out.2.1, HPV.out.2.2.1, HPV.out.2.2.2.1, HAV.out.2.1, HAV.out.2.2.1, HNV.out.2.1, HNV.out.2.2.1⟩) (fun hHeld => ?_)
      rw [hWD] at hHeld ⊢
      clear hWD
      refine wpAnyH_take (i := 0) (v := ?_) rfl (by kernel_rfl) (by kernel_rfl) (by kernel_rfl) (fun _ _ _ h => h) (Or.inl ⟨by rfl, ?_⟩) (by assumption) ?_
      rotate_left
      · (intro w hSw; (try dsimp only at hSw); go_simp; try with_reducible rfl)
      simp only [Act.put, List.getElem_toArray, List.getElem_cons_zero, List.setIfInBounds_toArray, List.set_cons_zero, List.set_cons_succ]
      refine wpAnyH_take (i := 1) (v := ?_) rfl (by kernel_rfl) (by kernel_rfl) (by kernel_rfl) (fun _ _ _ h => h) (Or.inl ⟨by rfl, ?_⟩) (by assumption) ?_
      rotate_left
      · (intro w hSw; (try dsimp only at hSw); go_simp; try with_reducible rfl)
      simp only [Act.put, List.getElem_toArray, List.getElem_cons_succ, List.getElem_cons_zero, List.setIfInBounds_toArray, List.set_cons_zero, List.set_cons_succ]
      refine wpAnyH_take (i := 2) (v := ?_) rfl (by kernel_rfl) (by kernel_rfl) (by kernel_rfl) (fun _ _ _ h => h) (Or.inl ⟨by rfl, ?_⟩) (by assumption) ?_
      rotate_left
      · (intro w hSw; (try dsimp only at hSw); go_simp; try with_reducible rfl)
      simp only [Act.put, List.getElem_toArray, List.getElem_cons_succ, List.getElem_cons_zero, List.setIfInBounds_toArray, List.set_cons_zero, List.set_cons_succ]
      refine wpAnyH_take (i := 3) (v := ?_) rfl (by kernel_rfl) (by kernel_rfl) (by kernel_rfl) (fun _ _ _ h => h) (Or.inl ⟨by rfl, ?_⟩) (by assumption) ?_
      rotate_left
      · (intro w hSw; (try dsimp only at hSw); go_simp; try with_reducible rfl)
      simp only [Act.put, List.getElem_toArray, List.getElem_cons_succ, List.getElem_cons_zero, List.setIfInBounds_toArray, List.set_cons_zero, List.set_cons_succ]
      refine wpAnyH_take (i := 4) (v := ?_) rfl (by kernel_rfl) (by kernel_rfl) (by kernel_rfl) (fun _ _ _ h => h) (Or.inl ⟨by rfl, ?_⟩) (by assumption) ?_
      rotate_left
      · (intro w hSw; (try dsimp only at hSw); go_simp; try with_reducible rfl)
      simp only [Act.put, List.getElem_toArray, List.getElem_cons_succ, List.getElem_cons_zero, List.setIfInBounds_toArray, List.set_cons_zero, List.set_cons_succ]
      refine wpAnyH_take (i := 5) (v := ?_) rfl (by kernel_rfl) (by kernel_rfl) (by kernel_rfl) (fun _ _ _ h => h) (Or.inl ⟨by rfl, ?_⟩) (by assumption) ?_
      rotate_left
      · (intro w hSw; (try dsimp only at hSw); go_simp; try with_reducible rfl)
      simp only [Act.put, List.getElem_toArray, List.getElem_cons_succ, List.getElem_cons_zero, List.setIfInBounds_toArray, List.set_cons_zero, List.set_cons_succ]
      refine wpAnyH_take (i := 6) (v := ?_) rfl (by kernel_rfl) (by kernel_rfl) (by kernel_rfl) (fun _ _ _ h => h) (Or.inl ⟨by rfl, ?_⟩) (by assumption) ?_
      rotate_left
      · (intro w hSw; (try dsimp only at hSw); go_simp; try with_reducible rfl)
      simp only [Act.put, List.getElem_toArray, List.getElem_cons_succ, List.getElem_cons_zero, List.setIfInBounds_toArray, List.set_cons_zero, List.set_cons_succ]
      refine wpAnyH_take (i := 7) (v := ?_) rfl (by kernel_rfl) (by kernel_rfl) (by kernel_rfl) (fun _ _ _ h => h) (Or.inl ⟨by rfl, ?_⟩) (by assumption) ?_
      rotate_left
      · (intro w hSw; (try dsimp only at hSw); go_simp; try with_reducible rfl)
      simp only [Act.put, List.getElem_toArray, List.getElem_cons_succ, List.getElem_cons_zero, List.setIfInBounds_toArray, List.set_cons_zero, List.set_cons_succ]
      refine wpAnyH_ready (rs := [8]) (by kernel_rfl) (by simp) ?_
      refine AllReadyH.cons (o := _) rfl (fun K hK => ?_) ?_
      · clear hHeld
        go_simp
        refine (good_calls (s, VV.sq V0) _ _ _ HGA.out HAR.out (fun j hj => keep_below HB.out _ _ (HT0.out j hj))).mono ?_
        rintro e W24 ⟨rfl, hB⟩
        replace HB := Lib.hid (HB.out.trans (hB.mono HB.out.size))
        replace HVW := Lib.hid (HVW.out.below hB)
        replace HNI := Lib.hid (HNI.out.grow hB)
        replace HUXl := Lib.hid (HUXl.out.grow hB)
        replace HPV := Lib.hid (HPV.out.below hB)
        replace HAR := Lib.hid (HAR.out.grow hB)
        replace HAV := Lib.hid (HAV.out.below hB)
        replace HNV := Lib.hid (HNV.out.below hB)
        clear hB
        refine hK.out _ _ ?_ (fun hHeld => ?_)
        · exact ⟨HVW.out.2.1, HPV.out.2.1, HPV.out.2.2.1, HPV.out.2.2.2.1, HAV.out.2.1, HAV.out.2.2.1, HNV.out.2.1, HNV.out.2.2.1⟩
        clear hK K
        refine wpAnyH_take (i := 9) (v := ?_) rfl (by kernel_rfl) (by kernel_rfl) (by kernel_rfl) (fun _ _ _ h => h) (Or.inl ⟨by rfl, ?_⟩) (by assumption) ?_
        rotate_left
        · (intro w hSw; (try dsimp only at hSw); go_simp; try with_reducible rfl)
        simp only [Act.put, List.getElem_toArray, List.getElem_cons_succ, List.getElem_cons_zero, List.setIfInBounds_toArray, List.set_cons_zero, List.set_cons_succ]
        refine wpAnyH_take (i := 10) (v := ?_) rfl (by kernel_rfl) (by kernel_rfl) (by kernel_rfl) (fun _ _ _ h => h) (Or.inl ⟨by rfl, ?_⟩) (by assumption) ?_
        rotate_left
        · (intro w hSw; (try dsimp only at hSw); go_simp; try with_reducible rfl)
        simp only [Act.put, List.getElem_toArray, List.getElem_cons_succ, List.getElem_cons_zero, List.setIfInBounds_toArray, List.set_cons_zero, List.set_cons_succ]
        refine wpAnyH_take (i := 11) (v := ?_) rfl (by kernel_rfl) (by kernel_rfl) (by kernel_rfl) (fun _ _ _ h => h) (Or.inl ⟨by rfl, ?_⟩) (by assumption) ?_
        rotate_left
        · (intro w hSw; (try dsimp only at hSw); go_simp; try with_reducible rfl)
        simp only [Act.put, List.getElem_toArray, List.getElem_cons_succ, List.getElem_cons_zero, List.setIfInBounds_toArray, List.set_cons_zero, List.set_cons_succ]
        refine wpAnyH_take (i := 13) (v := ?_) rfl (by kernel_rfl) (by kernel_rfl) (by kernel_rfl) (fun _ _ _ h => h) (Or.inl ⟨by rfl, ?_⟩) (by assumption) ?_
        rotate_left
        · (intro w hSw; (try dsimp only at hSw); go_simp; try with_reducible rfl)
        simp only [Act.put, List.getElem_toArray, List.getElem_cons_succ, List.getElem_cons_zero, List.setIfInBounds_toArray, List.set_cons_zero, List.set_cons_succ]
        refine wpAnyH_ready (rs := [12]) (by kernel_rfl) (by simp) ?_
        refine AllReadyH.cons (o := _) rfl (fun K hK => ?_) ?_
        · clear hHeld
          go_simp
          refine (plain_calls_at 40 _ (s, VV.sq V0) _ _ _ (gA_dA HGA.out) HAR.out).mono ?_
          rintro e W25 ⟨up, rfl, hup, hB⟩
          replace HB := Lib.hid (HB.out.trans (hB.mono HB.out.size))
          replace HVW := Lib.hid (HVW.out.below hB)
          replace HNI := Lib.hid (HNI.out.grow hB)
          replace HUXl := Lib.hid (HUXl.out.grow hB)
          replace HPV := Lib.hid (HPV.out.below hB)
          replace HAR := Lib.hid (HAR.out.grow hB)
          replace HAV := Lib.hid (HAV.out.below hB)
          replace HNV := Lib.hid (HNV.out.below hB)
          rw [HPL.out] at hup
          have HUP := Lib.hid hup
          obtain ⟨uso, usc, uio, uic, rfl, _⟩ := hup.opened
          clear hup
          clear hB
          refine hK.out _ _ ?_ (fun hHeld => ?_)
          · exact ⟨HVW.out.2.1, HPV.out.2.1, HPV.out.2.2.1, HPV.out.2.2.2.1, HAV.out.2.1, HAV.out.2.2.1, HNV.out.2.1, HNV.out.2.2.1⟩
          clear hK K
          refine wpAnyH_ready (rs := [14]) (by kernel_rfl) (by simp) ?_
          refine AllReadyH.cons (o := _) rfl (fun K hK => ?_) ?_
          · clear hHeld
            go_simp
            refine (ptidy_calls 40 _ (nP s l) _ _ HC40.out (show IsP _ (fun _ => True) _ (nP s l) from IsP.of (s := s) (l := l.map numI) (show Slc _ (fun _ => True) _ s.length (ints s) from HS0.out.keep (Kept.below HB.out) (fun b _ _ => trivial)) (HNI.out.wide (fun _ _ _ => trivial)))).mono ?_
            rintro e W26 ⟨ut, rfl, hut, hB⟩
            replace HB := Lib.hid (HB.out.trans (hB.mono HB.out.size))
            replace HVW := Lib.hid (HVW.out.below hB)
            replace HNI := Lib.hid (HNI.out.grow hB)
            replace HUXl := Lib.hid (HUXl.out.grow hB)
            replace HPV := Lib.hid (HPV.out.below hB)
            replace HAR := Lib.hid (HAR.out.grow hB)
            replace HAV := Lib.hid (HAV.out.below hB)
            replace HNV := Lib.hid (HNV.out.below hB)
            replace HUP := Lib.hid (HUP.out.grow hB)
            rw [HTD.out] at hut
            have HUT := Lib.hid hut
            obtain ⟨tso, tsc, tio, tic, rfl, _⟩ := hut.opened
            clear hut
            clear hB
            refine hK.out _ _ ?_ (fun hHeld => ?_)
            · exact ⟨HVW.out.2.1, HPV.out.2.1, HPV.out.2.2.1, HPV.out.2.2.2.1, HAV.out.2.1, HAV.out.2.2.1, HNV.out.2.1, HNV.out.2.2.1⟩
            clear hK K
            refine wpAnyH_ready (rs := [15]) (by kernel_rfl) (by simp) ?_
            refine AllReadyH.cons (o := _) rfl (fun K hK => ?_) ?_
            · clear hHeld
              go_simp
              refine (psame_calls 40 _ _ _ _ _ _ 40 _ HNI2.out HNI2.out HUP.out HUT.out).mono ?_
              rintro e W27 ⟨rfl, hB⟩
              replace HB := Lib.hid (HB.out.trans (hB.mono HB.out.size))
              replace HVW := Lib.hid (HVW.out.below hB)
              replace HNI := Lib.hid (HNI.out.grow hB)
              replace HUXl := Lib.hid (HUXl.out.grow hB)
              replace HPV := Lib.hid (HPV.out.below hB)
              replace HAR := Lib.hid (HAR.out.grow hB)
              replace HAV := Lib.hid (HAV.out.below hB)
              replace HNV := Lib.hid (HNV.out.below hB)
              replace HUP := Lib.hid (HUP.out.grow hB)
              replace HUT := Lib.hid (HUT.out.grow hB)
              rw [pq_yes rfl]
              clear hB
              refine hK.out _ _ ?_ (fun hHeld => ?_)
              · exact ⟨HVW.out.2.1, HPV.out.2.1, HPV.out.2.2.1, HPV.out.2.2.2.1, HAV.out.2.1, HAV.out.2.2.1, HNV.out.2.1, HNV.out.2.2.1⟩
              clear hK K
              refine wpAnyH_take (i := 16) (v := ?_) rfl (by kernel_rfl) (by kernel_rfl) (by kernel_rfl) (fun _ _ _ h => h) (Or.inl ⟨by rfl, ?_⟩) (by assumption) ?_
              rotate_left
              · (intro w hSw; (try dsimp only at hSw); go_simp; try with_reducible rfl)
              simp only [Act.put, List.getElem_toArray, List.getElem_cons_succ, List.getElem_cons_zero, List.setIfInBounds_toArray, List.set_cons_zero, List.set_cons_succ]
              refine wpAnyH_take (i := 17) (v := ?_) rfl (by kernel_rfl) (by kernel_rfl) (by kernel_rfl) (fun _ _ _ h => h) (Or.inl ⟨by rfl, ?_⟩) (by assumption) ?_
              rotate_left
              · (intro w hSw; (try dsimp only at hSw); go_simp; try with_reducible rfl)
              simp only [Act.put, List.getElem_toArray, List.getElem_cons_succ, List.getElem_cons_zero, List.setIfInBounds_toArray, List.set_cons_zero, List.set_cons_succ]
              refine wpAnyH_ready (rs := [18]) (by kernel_rfl) (by simp) ?_
              refine AllReadyH.cons (o := _) rfl (fun K hK => ?_) ?_
              · clear hHeld
                go_simp
                refine (awake7_calls _ (fun j hj => keep_below HB.out _ _ (HT0.out j hj))).mono ?_
                rintro e W28 ⟨rfl, hB⟩
                replace HB := Lib.hid (HB.out.trans (hB.mono HB.out.size))
                replace HVW := Lib.hid (HVW.out.below hB)
                replace HNI := Lib.hid (HNI.out.grow hB)
                replace HUXl := Lib.hid (HUXl.out.grow hB)
                replace HPV := Lib.hid (HPV.out.below hB)
                replace HAR := Lib.hid (HAR.out.grow hB)
                replace HAV := Lib.hid (HAV.out.below hB)
                replace HNV := Lib.hid (HNV.out.below hB)
                replace HUP := Lib.hid (HUP.out.grow hB)
                replace HUT := Lib.hid (HUT.out.grow hB)
                clear hB
                refine hK.out _ _ ?_ (fun hHeld => ?_)
                · exact ⟨HVW.out.2.1, HPV.out.2.1, HPV.out.2.2.1, HPV.out.2.2.2.1, HAV.out.2.1, HAV.out.2.2.1, HNV.out.2.1, HNV.out.2.2.1⟩
                clear hK K
                refine wpAnyH_take (i := 19) (v := ?_) rfl (by kernel_rfl) (by kernel_rfl) (by kernel_rfl) (fun _ _ _ h => h) (Or.inl ⟨by rfl, ?_⟩) (by assumption) ?_
                rotate_left
                · (intro w hSw; (try dsimp only at hSw); go_simp; try with_reducible rfl)
                simp only [Act.put, List.getElem_toArray, List.getElem_cons_succ, List.getElem_cons_zero, List.setIfInBounds_toArray, List.set_cons_zero, List.set_cons_succ]
                refine wpAnyH_take (i := 20) (v := ?_) rfl (by kernel_rfl) (by kernel_rfl) (by kernel_rfl) (fun _ _ _ h => h) (Or.inl ⟨by rfl, ?_⟩) (by assumption) ?_
                rotate_left
                · (intro w hSw; (try dsimp only at hSw); go_simp; try with_reducible rfl)
                simp only [Act.put, List.getElem_toArray, List.getElem_cons_succ, List.getElem_cons_zero, List.setIfInBounds_toArray, List.set_cons_zero, List.set_cons_succ]
                refine wpAnyH_done (by kernel_rfl) ?_ _
                clear hHeld
                have cHVW0 := HVW.out.2.1
                have cHPV0 := HPV.out.2.1
                have cHPV1 := HPV.out.2.2.1
                have cHPV2 := HPV.out.2.2.2.1
                have cHAV0 := HAV.out.2.1
                have cHAV1 := HAV.out.2.2.1
                have cHNV0 := HNV.out.2.1
                have cHNV1 := HNV.out.2.2.1
                go_wp2_with fail
                go_ret
                exact BoolIs.mk rfl HB.out
              exact AllReadyH.nil
            exact AllReadyH.nil
          exact AllReadyH.nil
        exact AllReadyH.nil
      exact AllReadyH.nil
    · have HC0 := Lib.hid hc0
      obtain ⟨rfl, rfl⟩ := HNA.out hc0
      clear hc0
      go_wp2_with fail
      obtain ⟨W19, hWn⟩ : ∃ xw9, W18.alloc (.cells #[.slice none 0 0, .nilIface] 35) = xw9 := ⟨_, rfl⟩
      have hB : Below W18.heap.size W18 W19 := by rw [← hWn]; exact below_new _ _
      have hNB : At2 W19 W18.heap.size (.slice none 0 0) (.nilIface) := by rw [← hWn]; exact At2.new _ _ _ _
      have hsz9 : W19.heap.size = W18.heap.size + 1 := by rw [← hWn]; simp
      rw [hWn]
      clear hWn
      obtain ⟨bav, hnm⟩ : ∃ x, W18.heap.size = x := ⟨_, rfl⟩
      rw [hnm] at hNB hsz9 ⊢
      have HZW19 := Lib.hid hsz9
      clear hsz9
      replace HB := Lib.hid (HB.out.trans (hB.mono HB.out.size))
      replace HVW := Lib.hid (HVW.out.below hB)
      replace HNI := Lib.hid (HNI.out.grow hB)
      replace HUXl := Lib.hid (HUXl.out.grow hB)
      replace HPV := Lib.hid (HPV.out.below hB)
      have HAV := Lib.hid hNB
      clear hNB hB hnm
      have cHVW0 := HVW.out.2.1
      have cHPV0 := HPV.out.2.1
      have cHPV1 := HPV.out.2.2.1
      have cHPV2 := HPV.out.2.2.2.1
      have cHAV0 := HAV.out.2.1
      have cHAV1 := HAV.out.2.2.1
      clear cHVW0 cHPV0 cHPV1 cHPV2 cHAV0 cHAV1
      refine (vnew_calls (ok := fun _ => True) _ _ s .none _ (show Slc _ (fun _ => True) _ s.length (ints s) from HS0.out.keep (Kept.below HB.out) (fun b _ _ => trivial)) (by have := HSL.out; omega) IsV.none (by trivial) (by trivial) (fun j hj => keep_below HB.out _ _ (HT0.out j hj))).mono ?_
      rintro e W20 ⟨sb, ub, rfl, _, hnb, hB⟩
      replace HB := Lib.hid (HB.out.trans (hB.mono HB.out.size))
      replace HVW := Lib.hid (HVW.out.below hB)
      replace HNI := Lib.hid (HNI.out.grow hB)
      replace HUXl := Lib.hid (HUXl.out.grow hB)
      replace HPV := Lib.hid (HPV.out.below hB)
      replace HAV := Lib.hid (HAV.out.below hB)
      obtain ⟨rfl, rfl⟩ := hnb newE_bad
      clear hnb
      clear hB
      obtain ⟨ne, hne⟩ : ∃ ne, ne = newE s .none := ⟨_, rfl⟩
      rw [← hne]
      have HNE := Lib.hid hne
      clear hne
      obtain ⟨wz, hwz⟩ : ∃ wz, wz = W20.alloc (.cells #[.slice none 0 0, .nilIface] 35) := ⟨_, rfl⟩
      have HPZ := HPV.out.below (below_new W20 (.cells #[.slice none 0 0, .nilIface] 35))
      obtain ⟨_, pz0, pz1, pz2, _⟩ := HPZ
      clear hwz
      go_wp2_with fail
      clear pz0 pz1 pz2
      obtain ⟨W21, hWn⟩ : ∃ xw9, W20.alloc (.cells #[.slice none 0 0, .nilIface] 35) = xw9 := ⟨_, rfl⟩
      have hB : Below W20.heap.size W20 W21 := by rw [← hWn]; exact below_new _ _
      have hNB : At2 W21 W20.heap.size (.slice none 0 0) (.nilIface) := by rw [← hWn]; exact At2.new _ _ _ _
      have hsz9 : W21.heap.size = W20.heap.size + 1 := by rw [← hWn]; simp
      rw [hWn]
      clear hWn
      obtain ⟨bnv, hnm⟩ : ∃ x, W20.heap.size = x := ⟨_, rfl⟩
      rw [hnm] at hNB hsz9 ⊢
      have HZW21 := Lib.hid hsz9
      clear hsz9
      replace HB := Lib.hid (HB.out.trans (hB.mono HB.out.size))
      replace HVW := Lib.hid (HVW.out.below hB)
      replace HNI := Lib.hid (HNI.out.grow hB)
      replace HUXl := Lib.hid (HUXl.out.grow hB)
      replace HPV := Lib.hid (HPV.out.below hB)
      replace HAV := Lib.hid (HAV.out.below hB)
      have HNV := Lib.hid hNB
      clear hNB hB hnm
      have cHVW0 := HVW.out.2.1
      have cHPV0 := HPV.out.2.1
      have cHPV1 := HPV.out.2.2.1
      have cHPV2 := HPV.out.2.2.2.1
      have cHAV0 := HAV.out.2.1
      have cHAV1 := HAV.out.2.2.1
      have cHNV0 := HNV.out.2.1
      have cHNV1 := HNV.out.2.2.1
      clear cHVW0 cHPV0 cHPV1 cHPV2 cHAV0 cHAV1 cHNV0 cHNV1
      refine (vCheck_calls _ (nP s l) _ 1 _ (nP_lo HWF.out) (show IsP _ (fun _ => True) _ (nP s l) from IsP.of (s := s) (l := l.map numI) (show Slc _ (fun _ => True) _ s.length (ints s) from HS0.out.keep (Kept.below HB.out) (fun b _ _ => trivial)) (HNI.out.wide (fun _ _ _ => trivial)))).mono ?_
      rintro e W22 ⟨rfl, hB⟩
      replace HB := Lib.hid (HB.out.trans (hB.mono HB.out.size))
      replace HVW := Lib.hid (HVW.out.below hB)
      replace HNI := Lib.hid (HNI.out.grow hB)
      replace HUXl := Lib.hid (HUXl.out.grow hB)
      replace HPV := Lib.hid (HPV.out.below hB)
      replace HAV := Lib.hid (HAV.out.below hB)
      replace HNV := Lib.hid (HNV.out.below hB)
      rw [HCK.out]
      clear hB
      have hce0 : (ce != 0) = true := by have := HC0.out; simp [this]
      have cHVW0 := HVW.out.2.1
      have cHPV0 := HPV.out.2.1
      have cHPV1 := HPV.out.2.2.1
      have cHPV2 := HPV.out.2.2.2.1
      have cHAV0 := HAV.out.2.1
      have cHAV1 := HAV.out.2.2.1
      have cHNV0 := HNV.out.2.1
      have cHNV1 := HNV.out.2.2.1
      go_wp2_with fail
      refine (vCheck_calls _ (nP s l) _ 1 _ (nP_lo HWF.out) (show IsP _ (fun _ => True) _ (nP s l) from IsP.of (s := s) (l := l.map numI) (show Slc _ (fun _ => True) _ s.length (ints s) from HS0.out.keep (Kept.below HB.out) (fun b _ _ => trivial)) (HNI.out.wide (fun _ _ _ => trivial)))).mono ?_
      rintro e W23 ⟨rfl, hB⟩
      clear cHVW0 cHPV0 cHPV1 cHPV2 cHAV0 cHAV1 cHNV0 cHNV1
      replace HB := Lib.hid (HB.out.trans (hB.mono HB.out.size))
      replace HVW := Lib.hid (HVW.out.below hB)
      replace HNI := Lib.hid (HNI.out.grow hB)
      replace HUXl := Lib.hid (HUXl.out.grow hB)
      replace HPV := Lib.hid (HPV.out.below hB)
      replace HAV := Lib.hid (HAV.out.below hB)
      replace HNV := Lib.hid (HNV.out.below hB)
      rw [HCK.out]
      clear hB
      have cHVW0 := HVW.out.2.1
      have cHPV0 := HPV.out.2.1
      have cHPV1 := HPV.out.2.2.1
      have cHPV2 := HPV.out.2.2.2.1
      have cHAV0 := HAV.out.2.1
      have cHAV1 := HAV.out.2.2.1
      have cHNV0 := HNV.out.2.1
      have cHNV1 := HNV.out.2.2.1
      go_wp2_with fail
      refine (kind_calls _ .none _ (IsV.none (ok := fun _ => True))).mono ?_
      rintro e W24 ⟨rfl, hB⟩
      clear cHVW0 cHPV0 cHPV1 cHPV2 cHAV0 cHAV1 cHNV0 cHNV1
      replace HB := Lib.hid (HB.out.trans (hB.mono HB.out.size))
      replace HVW := Lib.hid (HVW.out.below hB)
      replace HNI := Lib.hid (HNI.out.grow hB)
      replace HUXl := Lib.hid (HUXl.out.grow hB)
      replace HPV := Lib.hid (HPV.out.below hB)
      replace HAV := Lib.hid (HAV.out.below hB)
      replace HNV := Lib.hid (HNV.out.below hB)
      rw [show VV.kind .none = 0 from rfl]
      clear hB
      have cHVW0 := HVW.out.2.1
      have cHPV0 := HPV.out.2.1
      have cHPV1 := HPV.out.2.2.1
      have cHPV2 := HPV.out.2.2.2.1
      have cHAV0 := HAV.out.2.1
      have cHAV1 := HAV.out.2.2.1
      have cHNV0 := HNV.out.2.1
      have cHNV1 := HNV.out.2.2.1
      go_wp2_with fail
      refine (awake7_calls _ (fun j hj => keep_below HB.out _ _ (HT0.out j hj))).mono ?_
      rintro e W25 ⟨rfl, hB⟩
      clear cHVW0 cHPV0 cHPV1 cHPV2 cHAV0 cHAV1 cHNV0 cHNV1
      replace HB := Lib.hid (HB.out.trans (hB.mono HB.out.size))
      replace HVW := Lib.hid (HVW.out.below hB)
      replace HNI := Lib.hid (HNI.out.grow hB)
      replace HUXl := Lib.hid (HUXl.out.grow hB)
      replace HPV := Lib.hid (HPV.out.below hB)
      replace HAV := Lib.hid (HAV.out.below hB)
      replace HNV := Lib.hid (HNV.out.below hB)
      clear hB
      have cHVW0 := HVW.out.2.1
      have cHPV0 := HPV.out.2.1
      have cHPV1 := HPV.out.2.2.1
      have cHPV2 := HPV.out.2.2.2.1
      have cHAV0 := HAV.out.2.1
      have cHAV1 := HAV.out.2.2.1
      have cHNV0 := HNV.out.2.1
      have cHNV1 := HNV.out.2.2.1
      go_wp2_with fail
      go_ret
      exact BoolIs.mk rfl HB.out
  · have HFI := Lib.hid hfit
    clear hfit
    obtain ⟨W14, hWn⟩ : ∃ xw9, W13.alloc (.cells #[ui] 26) = xw9 := ⟨_, rfl⟩
    have hB : Below W13.heap.size W13 W14 := by rw [← hWn]; exact below_new _ _
    have hNB : At1 W14 W13.heap.size (ui) := by rw [← hWn]; exact At1.new _ _ _
    replace HB := Lib.hid (HB.out.trans (hB.mono HB.out.size))
    replace HS := Lib.hid (HS.out.below hB)
    replace HL := Lib.hid (HL.out.below hB)
    replace HT := Lib.hid (fun j hj => keep_below hB _ _ (HT.out j hj))
    replace HUV := Lib.hid (HUV.out.grow hB)
    replace HVW := Lib.hid (HVW.out.below hB)
    replace HUI := Lib.hid (HUI.out.grow hB)
    have HIW := Lib.hid hNB
    clear hNB hB
    have cHVW0 := HVW.out.2.1
    have zHVW0 := HVW.out.2.2 0
    have cHIW0 := HIW.out.2.1
    go_wp2_with fail
    clear cHVW0 zHVW0 cHIW0
    clear hWn
    have HSZW := Lib.hid (show w.heap.size ≤ W11.heap.size from Nat.le_of_not_lt (fun h => by have := HBV0.out; omega))
    obtain ⟨W15, hWn⟩ : ∃ xw9, W14.setCell ⟨W11.heap.size, 0, none⟩ ui = xw9 := ⟨_, rfl⟩
    rw [hWn]
    replace HVW := Lib.hid (show At1 W15 W11.heap.size ui by rw [← hWn]; exact At1.put1 HVW.out _)
    replace HUI := Lib.hid (show IsV W15 (fun b => b ≠ W11.heap.size) ui (V0.into kind) by rw [← hWn]; exact HUI.out.keep (Kept.setCell _ _ _ (by simp)) (fun _ _ h => h))
    replace HB := Lib.hid (show Below w.heap.size w W15 by rw [← hWn]; exact HB.out.setCell HSZW.out _)
    clear hWn
    obtain ⟨i1, i2, i3, i4, i5, i6⟩ := VV.into_spec HFK.out HFM.out HFI.out
    obtain ⟨VX, hVX⟩ : ∃ VX, VX = V0.into kind := ⟨_, rfl⟩
    rw [← hVX] at i1 i2 i3 i4 i5 i6 HUI
    have HX := Lib.hid (show VX.ok ∧ VX.nm ∧ VX.kind ≠ 0 ∧ VX.cls = 0 ∧ VX.nums = l.map ze ∧ VX.len = l.length from ⟨i4, i5, by rw [i1]; exact fit_pos HV0.out HFI.out, by rw [i3, HV0.out]; rfl, by rw [i2, HV0.out]; rfl, by rw [i6, HV0.out]; simp [VV.len]⟩)
    clear hVX i1 i2 i3 i4 i5 i6
    refine (rNums_calls (ok := fun _ => True) _ l _ (HL0.out.keep (Kept.below HB.out) (fun b _ _ => trivial)) (by have := HLL.out; omega)).mono ?_
    rintro e W16 ⟨un, rfl, hun, hB⟩
    replace HB := Lib.hid (HB.out.trans (hB.mono HB.out.size))
    replace HVW := Lib.hid (HVW.out.below hB)
    replace HUI := Lib.hid (HUI.out.grow hB)
    obtain ⟨no, nc, mo, mc, rfl, _, hni⟩ := hun.opened
    have HNI := Lib.hid (show Its W16 (fun b => b < W16.heap.size) (.slice mo (numsP l).l.length mc) (l.map numI) from hni.lt.wide (fun b _ h => h.2))
    clear hun hni
    clear hB
    have HUXl := Lib.hid (show IsV W16 (fun b => b < W16.heap.size) ui VX from HUI.out.lt.wide (fun b _ h => h.2))
    have HBB := Lib.hid (show w.heap.size ≤ W16.heap.size from HB.out.size)
    have HVN := Lib.hid HVW.out.1
    obtain ⟨W17, hWn⟩ : ∃ xw9, W16.alloc (.cells #[.slice no (numsP l).s.length nc, .slice mo (numsP l).l.length mc, .int .i64 (numsP l).f] 32) = xw9 := ⟨_, rfl⟩
    have hB : Below W16.heap.size W16 W17 := by rw [← hWn]; exact below_new _ _
    have hNB : At3 W17 W16.heap.size (.slice no (numsP l).s.length nc) (.slice mo (numsP l).l.length mc) (.int .i64 (numsP l).f) := by rw [← hWn]; exact At3.new _ _ _ _ _
    replace HB := Lib.hid (HB.out.trans (hB.mono HB.out.size))
    replace HVW := Lib.hid (HVW.out.below hB)
    replace HNI := Lib.hid (HNI.out.grow hB)
    replace HUXl := Lib.hid (HUXl.out.grow hB)
    have HPV := Lib.hid hNB
    clear hNB hB
    have cHVW0 := HVW.out.2.1
    have cHPV0 := HPV.out.2.1
    have cHPV1 := HPV.out.2.2.1
    have cHPV2 := HPV.out.2.2.2.1
    have zHPV0 := HPV.out.2.2.2.2 0
    have zHPV1 := HPV.out.2.2.2.2 1
    have zHPV2 := HPV.out.2.2.2.2 2
    have cXV : (W17.setCell ⟨W16.heap.size, 0, none⟩ (.slice so s.length sc)).cell? ⟨W11.heap.size, 0, none⟩ = some (ui) := (HVW.out.grown (grown_setCell _ ⟨W16.heap.size, 0, none⟩ _) (by have := HVN.out; simp; omega)).2.1
    go_wp2_with fail
    clear cXV
    clear cHVW0 cHPV0 cHPV1 cHPV2 zHPV0 zHPV1 zHPV2
    clear hWn
    obtain ⟨W18, hWn⟩ : ∃ xw9, W17.setCell ⟨W16.heap.size, 0, none⟩ (.slice so s.length sc) = xw9 := ⟨_, rfl⟩
    rw [hWn]
    replace HPV := Lib.hid (show At3 W18 W16.heap.size (.slice so s.length sc) (.slice mo (numsP l).l.length mc) (.int .i64 (numsP l).f) by rw [← hWn]; exact HPV.out.set0 _)
    replace HVW := Lib.hid (show At1 W18 W11.heap.size (ui) by rw [← hWn]; exact HVW.out.grown (grown_setCell _ ⟨W16.heap.size, 0, none⟩ _) (by have := HVN.out; simp; omega))
    replace HUXl := Lib.hid (show IsV W18 (fun b => b < W16.heap.size) ui VX by rw [← hWn]; exact HUXl.out.keep (Kept.setCell _ _ _ (by simp)) (fun _ _ h => h))
    replace HNI := Lib.hid (show Its W18 (fun b => b < W16.heap.size) (.slice mo (numsP l).l.length mc) (l.map numI) by rw [← hWn]; exact HNI.out.keep (Kept.setCell _ _ _ (by simp)) (fun _ _ h => h))
    replace HB := Lib.hid (show Below w.heap.size w W18 by rw [← hWn]; exact HB.out.setCell HBB.out _)
    clear hWn
    obtain ⟨ce, hce⟩ : ∃ ce, ce = newE s VX := ⟨_, rfl⟩
    have HCE := Lib.hid hce
    have HCK := Lib.hid (show chk 40 (nP s l) = ce by rw [hce]; exact (newE_nP (d := 39) HFL.out HX.out.2.2.1 HX.out.2.2.2.2.2).symm)
    clear hce
    refine (vnew_calls _ _ s VX _ (show Slc _ (fun _ => True) _ s.length (ints s) from HS0.out.keep (Kept.below HB.out) (fun b _ _ => trivial)) (by have := HSL.out; omega) HUXl.out HX.out.1 HX.out.2.1 (fun j hj => keep_below HB.out _ _ (HT0.out j hj))).mono ?_
    rintro e W19 ⟨sa, ua, rfl, hya, hna, hB⟩
    replace HB := Lib.hid (HB.out.trans (hB.mono HB.out.size))
    replace HVW := Lib.hid (HVW.out.below hB)
    replace HNI := Lib.hid (HNI.out.grow hB)
    replace HUXl := Lib.hid (HUXl.out.grow hB)
    replace HPV := Lib.hid (HPV.out.below hB)
    rw [← HCE.out] at hya hna ⊢
    have HYA := Lib.hid hya
    have HNA := Lib.hid hna
    clear hya hna
    clear hB
    by_cases hc0 : ce = 0
    · have HC0 := Lib.hid hc0
      obtain ⟨has, hau⟩ := HYA.out hc0
      obtain ⟨ao, ac, rfl, _⟩ := has.opened
      have hsa := hau.store
      have HAR := Lib.hid (show IsArr W19 (fun _ => True) (.slice ao s.length ac) ua (s, VV.sq VX) from ⟨has, hau⟩)
      clear has hau hc0
      obtain ⟨W20, hWn⟩ : ∃ xw9, W19.alloc (.cells #[.slice ao s.length ac, ua] 35) = xw9 := ⟨_, rfl⟩
      have hB : Below W19.heap.size W19 W20 := by rw [← hWn]; exact below_new _ _
      have hNB : At2 W20 W19.heap.size (.slice ao s.length ac) (ua) := by rw [← hWn]; exact At2.new _ _ _ _
      replace HB := Lib.hid (HB.out.trans (hB.mono HB.out.size))
      replace HVW := Lib.hid (HVW.out.below hB)
      replace HNI := Lib.hid (HNI.out.grow hB)
      replace HUXl := Lib.hid (HUXl.out.grow hB)
      replace HPV := Lib.hid (HPV.out.below hB)
      replace HAR := Lib.hid (HAR.out.grow hB)
      have HAV := Lib.hid hNB
      clear hNB hB
      have cHVW0 := HVW.out.2.1
      have cHPV0 := HPV.out.2.1
      have cHPV1 := HPV.out.2.2.1
      have cHPV2 := HPV.out.2.2.2.1
      have cHAV0 := HAV.out.2.1
      have cHAV1 := HAV.out.2.2.1
      go_wp2_with fail
      clear hWn
      refine (vnew_calls (ok := fun _ => True) _ _ s .none _ (show Slc _ (fun _ => True) _ s.length (ints s) from HS0.out.keep (Kept.below HB.out) (fun b _ _ => trivial)) (by have := HSL.out; omega) IsV.none (by trivial) (by trivial) (fun j hj => keep_below HB.out _ _ (HT0.out j hj))).mono ?_
      rintro e W21 ⟨sb, ub, rfl, _, hnb, hB⟩
      clear cHVW0 cHPV0 cHPV1 cHPV2 cHAV0 cHAV1
      replace HB := Lib.hid (HB.out.trans (hB.mono HB.out.size))
      replace HVW := Lib.hid (HVW.out.below hB)
      replace HNI := Lib.hid (HNI.out.grow hB)
      replace HUXl := Lib.hid (HUXl.out.grow hB)
      replace HPV := Lib.hid (HPV.out.below hB)
      replace HAR := Lib.hid (HAR.out.grow hB)
      replace HAV := Lib.hid (HAV.out.below hB)
      obtain ⟨rfl, rfl⟩ := hnb newE_bad
      clear hnb
      clear hB
      obtain ⟨ne, hne⟩ : ∃ ne, ne = newE s .none := ⟨_, rfl⟩
      rw [← hne]
      have HNE := Lib.hid hne
      clear hne
      obtain ⟨wz, hwz⟩ : ∃ wz, wz = W21.alloc (.cells #[.slice none 0 0, .nilIface] 35) := ⟨_, rfl⟩
      have HPZ := HPV.out.below (below_new W21 (.cells #[.slice none 0 0, .nilIface] 35))
      obtain ⟨_, pz0, pz1, pz2, _⟩ := HPZ
      clear hwz
      go_wp2_with fail
      clear pz0 pz1 pz2
      obtain ⟨W22, hWn⟩ : ∃ xw9, W21.alloc (.cells #[.slice none 0 0, .nilIface] 35) = xw9 := ⟨_, rfl⟩
      have hB : Below W21.heap.size W21 W22 := by rw [← hWn]; exact below_new _ _
      have hNB : At2 W22 W21.heap.size (.slice none 0 0) (.nilIface) := by rw [← hWn]; exact At2.new _ _ _ _
      have hsz9 : W22.heap.size = W21.heap.size + 1 := by rw [← hWn]; simp
      rw [hWn]
      clear hWn
      obtain ⟨bnv, hnm⟩ : ∃ x, W21.heap.size = x := ⟨_, rfl⟩
      rw [hnm] at hNB hsz9 ⊢
      have HZW22 := Lib.hid hsz9
      clear hsz9
      replace HB := Lib.hid (HB.out.trans (hB.mono HB.out.size))
      replace HVW := Lib.hid (HVW.out.below hB)
      replace HNI := Lib.hid (HNI.out.grow hB)
      replace HUXl := Lib.hid (HUXl.out.grow hB)
      replace HPV := Lib.hid (HPV.out.below hB)
      replace HAR := Lib.hid (HAR.out.grow hB)
      replace HAV := Lib.hid (HAV.out.below hB)
      have HNV := Lib.hid hNB
      clear hNB hB hnm
      have cHVW0 := HVW.out.2.1
      have cHPV0 := HPV.out.2.1
      have cHPV1 := HPV.out.2.2.1
      have cHPV2 := HPV.out.2.2.2.1
      have cHAV0 := HAV.out.2.1
      have cHAV1 := HAV.out.2.2.1
      have cHNV0 := HNV.out.2.1
      have cHNV1 := HNV.out.2.2.1
      clear cHVW0 cHPV0 cHPV1 cHPV2 cHAV0 cHAV1 cHNV0 cHNV1
      refine (vCheck_calls _ (nP s l) _ 1 _ (nP_lo HWF.out) (show IsP _ (fun _ => True) _ (nP s l) from IsP.of (s := s) (l := l.map numI) (show Slc _ (fun _ => True) _ s.length (ints s) from HS0.out.keep (Kept.below HB.out) (fun b _ _ => trivial)) (HNI.out.wide (fun _ _ _ => trivial)))).mono ?_
      rintro e W23 ⟨rfl, hB⟩
      replace HB := Lib.hid (HB.out.trans (hB.mono HB.out.size))
      replace HVW := Lib.hid (HVW.out.below hB)
      replace HNI := Lib.hid (HNI.out.grow hB)
      replace HUXl := Lib.hid (HUXl.out.grow hB)
      replace HPV := Lib.hid (HPV.out.below hB)
      replace HAR := Lib.hid (HAR.out.grow hB)
      replace HAV := Lib.hid (HAV.out.below hB)
      replace HNV := Lib.hid (HNV.out.below hB)
      rw [HCK.out]
      clear hB
      have hce0 : (ce != 0) = false := by have := HC0.out; simp [this]
      have HPR := Lib.hid (newE_zero (HCE.out.symm.trans HC0.out))
      obtain rfl : ne = 1 := by rw [HNE.out]; exact newE_none (by rw [HPR.out])
      obtain ⟨q1, q2, q3, q4, q5, q6⟩ := VV.sq_spec HX.out.1 HX.out.2.1
      have HGA := Lib.hid (show gA 40 (s, VV.sq VX) from gA_nums (d := 39) HX.out.1 HX.out.2.1 HX.out.2.2.2.1 HPR.out)
      have HPL := Lib.hid (show plA 40 (s, VV.sq VX) = .mk s (l.map fun x => (0, ze x, 0, [])) 0 from plA_nums (d := 39) (by rw [q3]; exact HX.out.2.2.2.1) (by rw [q2]; exact HX.out.2.2.2.2.1) (by rw [q6]; exact HX.out.2.2.2.2.2))
      have HTD := Lib.hid (show tidyP 40 (nP s l) = .mk s (l.map fun x => (0, ze x, 0, [])) 0 from nP_tidy 39 s l)
      have HC40 := Lib.hid (show chk 40 (nP s l) = 0 by rw [HCK.out]; exact HC0.out)
      have HNI2 := Lib.hid (show nice 40 (.mk s (l.map fun x => (0, ze x, 0, [])) 0) by rw [← HTD.out]; exact nice_tidy 40 _ HC40.out)
      have hc0 := HC0.out
      subst hc0
      clear q1 q2 q3 q4 q5 q6
      have cHVW0 := HVW.out.2.1
      have cHPV0 := HPV.out.2.1
      have cHPV1 := HPV.out.2.2.1
      have cHPV2 := HPV.out.2.2.2.1
      have cHAV0 := HAV.out.2.1
      have cHAV1 := HAV.out.2.2.1
      have cHNV0 := HNV.out.2.1
      have cHNV1 := HNV.out.2.2.1
      go_wp2_with fail
      obtain ⟨W24, hWD⟩ : ∃ xw9, W23.drew = xw9 := ⟨_, rfl⟩
      have hB : Below W23.heap.size W23 W24 := by rw [← hWD]; exact Below.drewN' (Below.refl _ _) 1
      clear cHVW0 cHPV0 cHPV1 cHPV2 cHAV0 cHAV1 cHNV0 cHNV1
      replace HB := Lib.hid (HB.out.trans (hB.mono HB.out.size))
      replace HVW := Lib.hid (HVW.out.below hB)
      replace HNI := Lib.hid (HNI.out.grow hB)
      replace HUXl := Lib.hid (HUXl.out.grow hB)
      replace HPV := Lib.hid (HPV.out.below hB)
      replace HAR := Lib.hid (HAR.out.grow hB)
      replace HAV := Lib.hid (HAV.out.below hB)
      replace HNV := Lib.hid (HNV.out.below hB)
      clear hB
      refine wp_region_held_drew (S := fun w' => w'.cell? ⟨W11.heap.size, 0, none⟩ = some (ui) ∧ w'.cell? ⟨W16.heap.size, 0, none⟩ = some (.slice so s.length sc) ∧ w'.cell? ⟨W16.heap.size, 1, none⟩ = some (.slice mo (numsP l).l.length mc) ∧ w'.cell? ⟨W16.heap.size, 2, none⟩ = some (.int .i64 (numsP l).f) ∧ w'.cell? ⟨W19.heap.size, 0, none⟩ = some (.slice ao s.length ac) ∧ w'.cell? ⟨W19.heap.size, 1, none⟩ = some (ua) ∧ w'.cell? ⟨bnv, 0, none⟩ = some (.slice none 0 0) ∧ w'.cell? ⟨bnv, 1, none⟩ = some (.nilIface)) (by kernel_rfl) (by rw [hWD]; exact ⟨HVW.out.2.1, HPV.out.2.1, HPV.out.2.2.1, HPV.out.2.2.2.1, HAV.out.2.1, HAV.out.2.2.1, HNV.out.2.1, HNV.out.2.2.1⟩) (fun hHeld => ?_)
      rw [hWD] at hHeld ⊢
      clear hWD
      refine wpAnyH_take (i := 0) (v := ?_) rfl (by kernel_rfl) (by kernel_rfl) (by kernel_rfl) (fun _ _ _ h => h) (Or.inl ⟨by rfl, ?_⟩) (by assumption) ?_
      rotate_left
      · (intro w hSw; (try dsimp only at hSw); go_simp; try with_reducible rfl)
      simp only [Act.put, List.getElem_toArray, List.getElem_cons_zero, List.setIfInBounds_toArray, List.set_cons_zero, List.set_cons_succ]
      refine wpAnyH_take (i := 1) (v := ?_) rfl (by kernel_rfl) (by kernel_rfl) (by kernel_rfl) (fun _ _ _ h => h) (Or.inl ⟨by rfl, ?_⟩) (by assumption) ?_
      rotate_left
      · (intro w hSw; (try dsimp only at hSw); go_simp; try with_reducible rfl)
      simp only [Act.put, List.getElem_toArray, List.getElem_cons_succ, List.getElem_cons_zero, List.setIfInBounds_toArray, List.set_cons_zero, List.set_cons_succ]
      refine wpAnyH_take (i := 2) (v := ?_) rfl (by kernel_rfl) (by kernel_rfl) (by kernel_rfl) (fun _ _ _ h => h) (Or.inl ⟨by rfl, ?_⟩) (by assumption) ?_
      rotate_left
      · (intro w hSw; (try dsimp only at hSw); go_simp; try with_reducible rfl)
      simp only [Act.put, List.getElem_toArray, List.getElem_cons_succ, List.getElem_cons_zero, List.setIfInBounds_toArray, List.set_cons_zero, List.set_cons_succ]
      refine wpAnyH_take (i := 3) (v := ?_) rfl (by kernel_rfl) (by kernel_rfl) (by kernel_rfl) (fun _ _ _ h => h) (Or.inl ⟨by rfl, ?_⟩) (by assumption) ?_
      rotate_left
      · (intro w hSw; (try dsimp only at hSw); go_simp; try with_reducible rfl)
      simp only [Act.put, List.getElem_toArray, List.getElem_cons_succ, List.getElem_cons_zero, List.setIfInBounds_toArray, List.set_cons_zero, List.set_cons_succ]
      refine wpAnyH_take (i := 4) (v := ?_) rfl (by kernel_rfl) (by kernel_rfl) (by kernel_rfl) (fun _ _ _ h => h) (Or.inl ⟨by rfl, ?_⟩) (by assumption) ?_
      rotate_left
      · (intro w hSw; (try dsimp only at hSw); go_simp; try with_reducible rfl)
      simp only [Act.put, List.getElem_toArray, List.getElem_cons_succ, List.getElem_cons_zero, List.setIfInBounds_toArray, List.set_cons_zero, List.set_cons_succ]
      refine wpAnyH_take (i := 5) (v := ?_) rfl (by kernel_rfl) (by kernel_rfl) (by kernel_rfl) (fun _ _ _ h => h) (Or.inl ⟨by rfl, ?_⟩) (by assumption) ?_
      rotate_left
      · (intro w hSw; (try dsimp only at hSw); go_simp; try with_reducible rfl)
      simp only [Act.put, List.getElem_toArray, List.getElem_cons_succ, List.getElem_cons_zero, List.setIfInBounds_toArray, List.set_cons_zero, List.set_cons_succ]
      refine wpAnyH_take (i := 6) (v := ?_) rfl (by kernel_rfl) (by kernel_rfl) (by kernel_rfl) (fun _ _ _ h => h) (Or.inl ⟨by rfl, ?_⟩) (by assumption) ?_
      rotate_left
      · (intro w hSw; (try dsimp only at hSw); go_simp; try with_reducible rfl)
      simp only [Act.put, List.getElem_toArray, List.getElem_cons_succ, List.getElem_cons_zero, List.setIfInBounds_toArray, List.set_cons_zero, List.set_cons_succ]
      refine wpAnyH_take (i := 7) (v := ?_) rfl (by kernel_rfl) (by kernel_rfl) (by kernel_rfl) (fun _ _ _ h => h) (Or.inl ⟨by rfl, ?_⟩) (by assumption) ?_
      rotate_left
      · (intro w hSw; (try dsimp only at hSw); go_simp; try with_reducible rfl)
      simp only [Act.put, List.getElem_toArray, List.getElem_cons_succ, List.getElem_cons_zero, List.setIfInBounds_toArray, List.set_cons_zero, List.set_cons_succ]
      refine wpAnyH_ready (rs := [8]) (by kernel_rfl) (by simp) ?_
      refine AllReadyH.cons (o := _) rfl (fun K hK => ?_) ?_
      · clear hHeld
        go_simp
        refine (good_calls (s, VV.sq VX) _ _ _ HGA.out HAR.out (fun j hj => keep_below HB.out _ _ (HT0.out j hj))).mono ?_
        rintro e W25 ⟨rfl, hB⟩
        replace HB := Lib.hid (HB.out.trans (hB.mono HB.out.size))
        replace HVW := Lib.hid (HVW.out.below hB)
        replace HNI := Lib.hid (HNI.out.grow hB)
        replace HUXl := Lib.hid (HUXl.out.grow hB)
        replace HPV := Lib.hid (HPV.out.below hB)
        replace HAR := Lib.hid (HAR.out.grow hB)
        replace HAV := Lib.hid (HAV.out.below hB)
        replace HNV := Lib.hid (HNV.out.below hB)
        clear hB
        refine hK.out _ _ ?_ (fun hHeld => ?_)
        · exact ⟨HVW.out.2.1, HPV.out.2.1, HPV.out.2.2.1, HPV.out.2.2.2.1, HAV.out.2.1, HAV.out.2.2.1, HNV.out.2.1, HNV.out.2.2.1⟩
        clear hK K
        refine wpAnyH_take (i := 9) (v := ?_) rfl (by kernel_rfl) (by kernel_rfl) (by kernel_rfl) (fun _ _ _ h => h) (Or.inl ⟨by rfl, ?_⟩) (by assumption) ?_
        rotate_left
        · (intro w hSw; (try dsimp only at hSw); go_simp; try with_reducible rfl)
        simp only [Act.put, List.getElem_toArray, List.getElem_cons_succ, List.getElem_cons_zero, List.setIfInBounds_toArray, List.set_cons_zero, List.set_cons_succ]
        refine wpAnyH_take (i := 10) (v := ?_) rfl (by kernel_rfl) (by kernel_rfl) (by kernel_rfl) (fun _ _ _ h => h) (Or.inl ⟨by rfl, ?_⟩) (by assumption) ?_
        rotate_left
        · (intro w hSw; (try dsimp only at hSw); go_simp; try with_reducible rfl)
        simp only [Act.put, List.getElem_toArray, List.getElem_cons_succ, List.getElem_cons_zero, List.setIfInBounds_toArray, List.set_cons_zero, List.set_cons_succ]
        refine wpAnyH_take (i := 11) (v := ?_) rfl (by kernel_rfl) (by kernel_rfl) (by kernel_rfl) (fun _ _ _ h => h) (Or.inl ⟨by rfl, ?_⟩) (by assumption) ?_
        rotate_left
        · (intro w hSw; (try dsimp only at hSw); go_simp; try with_reducible rfl)
        simp only [Act.put, List.getElem_toArray, List.getElem_cons_succ, List.getElem_cons_zero, List.setIfInBounds_toArray, List.set_cons_zero, List.set_cons_succ]
        refine wpAnyH_take (i := 13) (v := ?_) rfl (by kernel_rfl) (by kernel_rfl) (by kernel_rfl) (fun _ _ _ h => h) (Or.inl ⟨by rfl, ?_⟩) (by assumption) ?_
        rotate_left
        · (intro w hSw; (try dsimp only at hSw); go_simp; try with_reducible rfl)
        simp only [Act.put, List.getElem_toArray, List.getElem_cons_succ, List.getElem_cons_zero, List.setIfInBounds_toArray, List.set_cons_zero, List.set_cons_succ]
        refine wpAnyH_ready (rs := [12]) (by kernel_rfl) (by simp) ?_
        refine AllReadyH.cons (o := _) rfl (fun K hK => ?_) ?_
        · clear hHeld
          go_simp
          refine (plain_calls_at 40 _ (s, VV.sq VX) _ _ _ (gA_dA HGA.out) HAR.out).mono ?_
          rintro e W26 ⟨up, rfl, hup, hB⟩
          replace HB := Lib.hid (HB.out.trans (hB.mono HB.out.size))
          replace HVW := Lib.hid (HVW.out.below hB)
          replace HNI := Lib.hid (HNI.out.grow hB)
          replace HUXl := Lib.hid (HUXl.out.grow hB)
          replace HPV := Lib.hid (HPV.out.below hB)
          replace HAR := Lib.hid (HAR.out.grow hB)
          replace HAV := Lib.hid (HAV.out.below hB)
          replace HNV := Lib.hid (HNV.out.below hB)
          rw [HPL.out] at hup
          have HUP := Lib.hid hup
          obtain ⟨uso, usc, uio, uic, rfl, _⟩ := hup.opened
          clear hup
          clear hB
          refine hK.out _ _ ?_ (fun hHeld => ?_)
          · exact ⟨HVW.out.2.1, HPV.out.2.1, HPV.out.2.2.1, HPV.out.2.2.2.1, HAV.out.2.1, HAV.out.2.2.1, HNV.out.2.1, HNV.out.2.2.1⟩
          clear hK K
          refine wpAnyH_ready (rs := [14]) (by kernel_rfl) (by simp) ?_
          refine AllReadyH.cons (o := _) rfl (fun K hK => ?_) ?_
          · clear hHeld
            go_simp
            refine (ptidy_calls 40 _ (nP s l) _ _ HC40.out (show IsP _ (fun _ => True) _ (nP s l) from IsP.of (s := s) (l := l.map numI) (show Slc _ (fun _ => True) _ s.length (ints s) from HS0.out.keep (Kept.below HB.out) (fun b _ _ => trivial)) (HNI.out.wide (fun _ _ _ => trivial)))).mono ?_
            rintro e W27 ⟨ut, rfl, hut, hB⟩
            replace HB := Lib.hid (HB.out.trans (hB.mono HB.out.size))
            replace HVW := Lib.hid (HVW.out.below hB)
            replace HNI := Lib.hid (HNI.out.grow hB)
            replace HUXl := Lib.hid (HUXl.out.grow hB)
            replace HPV := Lib.hid (HPV.out.below hB)
            replace HAR := Lib.hid (HAR.out.grow hB)
            replace HAV := Lib.hid (HAV.out.below hB)
            replace HNV := Lib.hid (HNV.out.below hB)
            replace HUP := Lib.hid (HUP.out.grow hB)
            rw [HTD.out] at hut
            have HUT := Lib.hid hut
            obtain ⟨tso, tsc, tio, tic, rfl, _⟩ := hut.opened
            clear hut
            clear hB
            refine hK.out _ _ ?_ (fun hHeld => ?_)
            · exact ⟨HVW.out.2.1, HPV.out.2.1, HPV.out.2.2.1, HPV.out.2.2.2.1, HAV.out.2.1, HAV.out.2.2.1, HNV.out.2.1, HNV.out.2.2.1⟩
            clear hK K
            refine wpAnyH_ready (rs := [15]) (by kernel_rfl) (by simp) ?_
            refine AllReadyH.cons (o := _) rfl (fun K hK => ?_) ?_
            · clear hHeld
              go_simp
              refine (psame_calls 40 _ _ _ _ _ _ 40 _ HNI2.out HNI2.out HUP.out HUT.out).mono ?_
              rintro e W28 ⟨rfl, hB⟩
              replace HB := Lib.hid (HB.out.trans (hB.mono HB.out.size))
              replace HVW := Lib.hid (HVW.out.below hB)
              replace HNI := Lib.hid (HNI.out.grow hB)
              replace HUXl := Lib.hid (HUXl.out.grow hB)
              replace HPV := Lib.hid (HPV.out.below hB)
              replace HAR := Lib.hid (HAR.out.grow hB)
              replace HAV := Lib.hid (HAV.out.below hB)
              replace HNV := Lib.hid (HNV.out.below hB)
              replace HUP := Lib.hid (HUP.out.grow hB)
              replace HUT := Lib.hid (HUT.out.grow hB)
              rw [pq_yes rfl]
              clear hB
              refine hK.out _ _ ?_ (fun hHeld => ?_)
              · exact ⟨HVW.out.2.1, HPV.out.2.1, HPV.out.2.2.1, HPV.out.2.2.2.1, HAV.out.2.1, HAV.out.2.2.1, HNV.out.2.1, HNV.out.2.2.1⟩
              clear hK K
              refine wpAnyH_take (i := 16) (v := ?_) rfl (by kernel_rfl) (by kernel_rfl) (by kernel_rfl) (fun _ _ _ h => h) (Or.inl ⟨by rfl, ?_⟩) (by assumption) ?_
              rotate_left
              · (intro w hSw; (try dsimp only at hSw); go_simp; try with_reducible rfl)
              simp only [Act.put, List.getElem_toArray, List.getElem_cons_succ, List.getElem_cons_zero, List.setIfInBounds_toArray, List.set_cons_zero, List.set_cons_succ]
              refine wpAnyH_take (i := 17) (v := ?_) rfl (by kernel_rfl) (by kernel_rfl) (by kernel_rfl) (fun _ _ _ h => h) (Or.inl ⟨by rfl, ?_⟩) (by assumption) ?_
              rotate_left
              · (intro w hSw; (try dsimp only at hSw); go_simp; try with_reducible rfl)
              simp only [Act.put, List.getElem_toArray, List.getElem_cons_succ, List.getElem_cons_zero, List.setIfInBounds_toArray, List.set_cons_zero, List.set_cons_succ]
              refine wpAnyH_ready (rs := [18]) (by kernel_rfl) (by simp) ?_
              refine AllReadyH.cons (o := _) rfl (fun K hK => ?_) ?_
              · clear hHeld
                go_simp
                refine (awake7_calls _ (fun j hj => keep_below HB.out _ _ (HT0.out j hj))).mono ?_
                rintro e W29 ⟨rfl, hB⟩
                replace HB := Lib.hid (HB.out.trans (hB.mono HB.out.size))
                replace HVW := Lib.hid (HVW.out.below hB)
                replace HNI := Lib.hid (HNI.out.grow hB)
                replace HUXl := Lib.hid (HUXl.out.grow hB)
                replace HPV := Lib.hid (HPV.out.below hB)
                replace HAR := Lib.hid (HAR.out.grow hB)
                replace HAV := Lib.hid (HAV.out.below hB)
                replace HNV := Lib.hid (HNV.out.below hB)
                replace HUP := Lib.hid (HUP.out.grow hB)
                replace HUT := Lib.hid (HUT.out.grow hB)
                clear hB
                refine hK.out _ _ ?_ (fun hHeld => ?_)
                · exact ⟨HVW.out.2.1, HPV.out.2.1, HPV.out.2.2.1, HPV.out.2.2.2.1, HAV.out.2.1, HAV.out.2.2.1, HNV.out.2.1, HNV.out.2.2.1⟩
                clear hK K
                refine wpAnyH_take (i := 19) (v := ?_) rfl (by kernel_rfl) (by kernel_rfl) (by kernel_rfl) (fun _ _ _ h => h) (Or.inl ⟨by rfl, ?_⟩) (by assumption) ?_
                rotate_left
                · (intro w hSw; (try dsimp only at hSw); go_simp; try with_reducible rfl)
                simp only [Act.put, List.getElem_toArray, List.getElem_cons_succ, List.getElem_cons_zero, List.setIfInBounds_toArray, List.set_cons_zero, List.set_cons_succ]
                refine wpAnyH_take (i := 20) (v := ?_) rfl (by kernel_rfl) (by kernel_rfl) (by kernel_rfl) (fun _ _ _ h => h) (Or.inl ⟨by rfl, ?_⟩) (by assumption) ?_
                rotate_left
                · (intro w hSw; (try dsimp only at hSw); go_simp; try with_reducible rfl)
                simp only [Act.put, List.getElem_toArray, List.getElem_cons_succ, List.getElem_cons_zero, List.setIfInBounds_toArray, List.set_cons_zero, List.set_cons_succ]
                refine wpAnyH_done (by kernel_rfl) ?_ _
                clear hHeld
                have cHVW0 := HVW.out.2.1
                have cHPV0 := HPV.out.2.1
                have cHPV1 := HPV.out.2.2.1
                have cHPV2 := HPV.out.2.2.2.1
                have cHAV0 := HAV.out.2.1
                have cHAV1 := HAV.out.2.2.1
                have cHNV0 := HNV.out.2.1
                have cHNV1 := HNV.out.2.2.1
                go_wp2_with fail
                go_ret
                exact BoolIs.mk rfl HB.out
              exact AllReadyH.nil
            exact AllReadyH.nil
          exact AllReadyH.nil
        exact AllReadyH.nil
      exact AllReadyH.nil
    · have HC0 := Lib.hid hc0
      obtain ⟨rfl, rfl⟩ := HNA.out hc0
      clear hc0
      go_wp2_with fail
      obtain ⟨W20, hWn⟩ : ∃ xw9, W19.alloc (.cells #[.slice none 0 0, .nilIface] 35) = xw9 := ⟨_, rfl⟩
      have hB : Below W19.heap.size W19 W20 := by rw [← hWn]; exact below_new _ _
      have hNB : At2 W20 W19.heap.size (.slice none 0 0) (.nilIface) := by rw [← hWn]; exact At2.new _ _ _ _
      have hsz9 : W20.heap.size = W19.heap.size + 1 := by rw [← hWn]; simp
      rw [hWn]
      clear hWn
      obtain ⟨bav, hnm⟩ : ∃ x, W19.heap.size = x := ⟨_, rfl⟩
      rw [hnm] at hNB hsz9 ⊢
      have HZW20 := Lib.hid hsz9
      clear hsz9
      replace HB := Lib.hid (HB.out.trans (hB.mono HB.out.size))
      replace HVW := Lib.hid (HVW.out.below hB)
      replace HNI := Lib.hid (HNI.out.grow hB)
      replace HUXl := Lib.hid (HUXl.out.grow hB)
      replace HPV := Lib.hid (HPV.out.below hB)
      have HAV := Lib.hid hNB
      clear hNB hB hnm
      have cHVW0 := HVW.out.2.1
      have cHPV0 := HPV.out.2.1
      have cHPV1 := HPV.out.2.2.1
      have cHPV2 := HPV.out.2.2.2.1
      have cHAV0 := HAV.out.2.1
      have cHAV1 := HAV.out.2.2.1
      clear cHVW0 cHPV0 cHPV1 cHPV2 cHAV0 cHAV1
      refine (vnew_calls (ok := fun _ => True) _ _ s .none _ (show Slc _ (fun _ => True) _ s.length (ints s) from HS0.out.keep (Kept.below HB.out) (fun b _ _ => trivial)) (by have := HSL.out; omega) IsV.none (by trivial) (by trivial) (fun j hj => keep_below HB.out _ _ (HT0.out j hj))).mono ?_
      rintro e W21 ⟨sb, ub, rfl, _, hnb, hB⟩
      replace HB := Lib.hid (HB.out.trans (hB.mono HB.out.size))
      replace HVW := Lib.hid (HVW.out.below hB)
      replace HNI := Lib.hid (HNI.out.grow hB)
      replace HUXl := Lib.hid (HUXl.out.grow hB)
      replace HPV := Lib.hid (HPV.out.below hB)
      replace HAV := Lib.hid (HAV.out.below hB)
      obtain ⟨rfl, rfl⟩ := hnb newE_bad
      clear hnb
      clear hB
      obtain ⟨ne, hne⟩ : ∃ ne, ne = newE s .none := ⟨_, rfl⟩
      rw [← hne]
      have HNE := Lib.hid hne
      clear hne
      obtain ⟨wz, hwz⟩ : ∃ wz, wz = W21.alloc (.cells #[.slice none 0 0, .nilIface] 35) := ⟨_, rfl⟩
      have HPZ := HPV.out.below (below_new W21 (.cells #[.slice none 0 0, .nilIface] 35))
      obtain ⟨_, pz0, pz1, pz2, _⟩ := HPZ
      clear hwz
      go_wp2_with fail
      clear pz0 pz1 pz2
      obtain ⟨W22, hWn⟩ : ∃ xw9, W21.alloc (.cells #[.slice none 0 0, .nilIface] 35) = xw9 := ⟨_, rfl⟩
      have hB : Below W21.heap.size W21 W22 := by rw [← hWn]; exact below_new _ _
      have hNB : At2 W22 W21.heap.size (.slice none 0 0) (.nilIface) := by rw [← hWn]; exact At2.new _ _ _ _
      have hsz9 : W22.heap.size = W21.heap.size + 1 := by rw [← hWn]; simp
      rw [hWn]
      clear hWn
      obtain ⟨bnv, hnm⟩ : ∃ x, W21.heap.size = x := ⟨_, rfl⟩
      rw [hnm] at hNB hsz9 ⊢
      have HZW22 := Lib.hid hsz9
      clear hsz9
      replace HB := Lib.hid (HB.out.trans (hB.mono HB.out.size))
      replace HVW := Lib.hid (HVW.out.below hB)
      replace HNI := Lib.hid (HNI.out.grow hB)
      replace HUXl := Lib.hid (HUXl.out.grow hB)
      replace HPV := Lib.hid (HPV.out.below hB)
      replace HAV := Lib.hid (HAV.out.below hB)
      have HNV := Lib.hid hNB
      clear hNB hB hnm
      have cHVW0 := HVW.out.2.1
      have cHPV0 := HPV.out.2.1
      have cHPV1 := HPV.out.2.2.1
      have cHPV2 := HPV.out.2.2.2.1
      have cHAV0 := HAV.out.2.1
      have cHAV1 := HAV.out.2.2.1
      have cHNV0 := HNV.out.2.1
      have cHNV1 := HNV.out.2.2.1
      clear cHVW0 cHPV0 cHPV1 cHPV2 cHAV0 cHAV1 cHNV0 cHNV1
      refine (vCheck_calls _ (nP s l) _ 1 _ (nP_lo HWF.out) (show IsP _ (fun _ => True) _ (nP s l) from IsP.of (s := s) (l := l.map numI) (show Slc _ (fun _ => True) _ s.length (ints s) from HS0.out.keep (Kept.below HB.out) (fun b _ _ => trivial)) (HNI.out.wide (fun _ _ _ => trivial)))).mono ?_
      rintro e W23 ⟨rfl, hB⟩
      replace HB := Lib.hid (HB.out.trans (hB.mono HB.out.size))
      replace HVW := Lib.hid (HVW.out.below hB)
      replace HNI := Lib.hid (HNI.out.grow hB)
      replace HUXl := Lib.hid (HUXl.out.grow hB)
      replace HPV := Lib.hid (HPV.out.below hB)
      replace HAV := Lib.hid (HAV.out.below hB)
      replace HNV := Lib.hid (HNV.out.below hB)
      rw [HCK.out]
      clear hB
      have hce0 : (ce != 0) = true := by have := HC0.out; simp [this]
      have cHVW0 := HVW.out.2.1
      have cHPV0 := HPV.out.2.1
      have cHPV1 := HPV.out.2.2.1
      have cHPV2 := HPV.out.2.2.2.1
      have cHAV0 := HAV.out.2.1
      have cHAV1 := HAV.out.2.2.1
      have cHNV0 := HNV.out.2.1
      have cHNV1 := HNV.out.2.2.1
      go_wp2_with fail
      refine (vCheck_calls _ (nP s l) _ 1 _ (nP_lo HWF.out) (show IsP _ (fun _ => True) _ (nP s l) from IsP.of (s := s) (l := l.map numI) (show Slc _ (fun _ => True) _ s.length (ints s) from HS0.out.keep (Kept.below HB.out) (fun b _ _ => trivial)) (HNI.out.wide (fun _ _ _ => trivial)))).mono ?_
      rintro e W24 ⟨rfl, hB⟩
      clear cHVW0 cHPV0 cHPV1 cHPV2 cHAV0 cHAV1 cHNV0 cHNV1
      replace HB := Lib.hid (HB.out.trans (hB.mono HB.out.size))
      replace HVW := Lib.hid (HVW.out.below hB)
      replace HNI := Lib.hid (HNI.out.grow hB)
      replace HUXl := Lib.hid (HUXl.out.grow hB)
      replace HPV := Lib.hid (HPV.out.below hB)
      replace HAV := Lib.hid (HAV.out.below hB)
      replace HNV := Lib.hid (HNV.out.below hB)
      rw [HCK.out]
      clear hB
      have cHVW0 := HVW.out.2.1
      have cHPV0 := HPV.out.2.1
      have cHPV1 := HPV.out.2.2.1
      have cHPV2 := HPV.out.2.2.2.1
      have cHAV0 := HAV.out.2.1
      have cHAV1 := HAV.out.2.2.1
      have cHNV0 := HNV.out.2.1
      have cHNV1 := HNV.out.2.2.1
      go_wp2_with fail
      refine (kind_calls _ .none _ (IsV.none (ok := fun _ => True))).mono ?_
      rintro e W25 ⟨rfl, hB⟩
      clear cHVW0 cHPV0 cHPV1 cHPV2 cHAV0 cHAV1 cHNV0 cHNV1
      replace HB := Lib.hid (HB.out.trans (hB.mono HB.out.size))
      replace HVW := Lib.hid (HVW.out.below hB)
      replace HNI := Lib.hid (HNI.out.grow hB)
      replace HUXl := Lib.hid (HUXl.out.grow hB)
      replace HPV := Lib.hid (HPV.out.below hB)
      replace HAV := Lib.hid (HAV.out.below hB)
      replace HNV := Lib.hid (HNV.out.below hB)
      rw [show VV.kind .none = 0 from rfl]
      clear hB
      have cHVW0 := HVW.out.2.1
      have cHPV0 := HPV.out.2.1
      have cHPV1 := HPV.out.2.2.1
      have cHPV2 := HPV.out.2.2.2.1
      have cHAV0 := HAV.out.2.1
      have cHAV1 := HAV.out.2.2.1
      have cHNV0 := HNV.out.2.1
      have cHNV1 := HNV.out.2.2.1
      go_wp2_with fail
      refine (awake7_calls _ (fun j hj => keep_below HB.out _ _ (HT0.out j hj))).mono ?_
      rintro e W26 ⟨rfl, hB⟩
      clear cHVW0 cHPV0 cHPV1 cHPV2 cHAV0 cHAV1 cHNV0 cHNV1
      replace HB := Lib.hid (HB.out.trans (hB.mono HB.out.size))
      replace HVW := Lib.hid (HVW.out.below hB)
      replace HNI := Lib.hid (HNI.out.grow hB)
      replace HUXl := Lib.hid (HUXl.out.grow hB)
      replace HPV := Lib.hid (HPV.out.below hB)
      replace HAV := Lib.hid (HAV.out.below hB)
      replace HNV := Lib.hid (HNV.out.below hB)
      clear hB
      have cHVW0 := HVW.out.2.1
      have cHPV0 := HPV.out.2.1
      have cHPV1 := HPV.out.2.2.1
      have cHPV2 := HPV.out.2.2.2.1
      have cHAV0 := HAV.out.2.1
      have cHAV1 := HAV.out.2.2.1
      have cHNV0 := HNV.out.2.1
      have cHNV1 := HNV.out.2.2.1
      go_wp2_with fail
      go_ret
      exact BoolIs.mk rfl HB.out

theorem valueNew_frame (w : World) (v : Value) (s : List Int) (hr : RowC w v (s.map (Value.int .i64))) (_ : ∀ z ∈ s, (Lit.int .i64 z).wf = true) (_ : s.length ≤ maxLen) (v2 : Value) (l : List Nat) (hr2 : RowC w v2 (l.map (Value.float .f64))) (hz2 : ∀ z ∈ l, (Lit.float .f64 z).wf = true) (_ : l.length ≤ maxLen) (kind : Int) (_ : (Lit.int .i64 kind).wf = true) (hT : TabAt w) :
    Calls Tryd.prog 3 #[v, v2, .int .i64 kind] w fun e w' => e = .returned (.bool true) ∧ Below w.heap.size w w' :=
  valueNew_walk v s v2 l kind w (by have := hr.slc; rw [List.length_map] at this; exact this) (by have := hr2.slc; rw [List.length_map] at this; exact this) (fun z h => wf_f64 (hz2 z h)) hT
end Go.Proofs.YtohjomhiibkobaaDoor

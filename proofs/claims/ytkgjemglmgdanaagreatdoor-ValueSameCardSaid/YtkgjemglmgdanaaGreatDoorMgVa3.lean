/- Merged: VaX. -/
import Derived.Test.YtkgjemglmgdanaaGreatDoorMgVa2
/- Package value's law: ValueSame. -/
namespace Go.Proofs.YtkgjemglmgdanaaGreatDoor
open Go.RowKit Fl
set_option linter.unusedVariables false
set_option maxRecDepth 8000

set_option maxHeartbeats 8000000 in
theorem valueSame_true (p q : PA) (u v : Value) (n m : Nat) (w : World) (hl : lo n p) (hm : lo m q) (hp : IsP w (fun _ => True) u p) (hq : IsP w (fun _ => True) v q) (hT : TabAt w) (hsv : pq (tidyP 40 p) (tidyP 40 q) = true) : Calls Tryz.prog 3 #[u, v] w (BoolIs true w) := by
  have HSMV := Lib.hid hsv
  clear hsv
  have HP := Lib.hid hp
  have HQ := Lib.hid hq
  obtain ⟨so, sc, io, ic, rfl, hs, hit⟩ := hp.opened
  obtain ⟨so2, sc2, io2, ic2, rfl, hs2, hit2⟩ := hq.opened
  have HL := Lib.hid (And.intro hl hm)
  obtain ⟨W1, hW1⟩ : ∃ W1, W1 = (w.alloc (.cells #[.slice so p.s.length sc, .slice io p.l.length ic, .int .i64 p.f] 25)).alloc (.cells #[.slice so2 q.s.length sc2, .slice io2 q.l.length ic2, .int .i64 q.f] 25) := ⟨_, rfl⟩
  have HA := Lib.hid (show At3 W1 w.heap.size (.slice so p.s.length sc) (.slice io p.l.length ic) (.int .i64 p.f) by rw [hW1]; exact (At3.new w _ _ _ _).below (below_new _ _))
  have HA2 := Lib.hid (show At3 W1 (w.heap.size + 1) (.slice so2 q.s.length sc2) (.slice io2 q.l.length ic2) (.int .i64 q.f) by rw [hW1]; have := At3.new (w.alloc (.cells #[.slice so p.s.length sc, .slice io p.l.length ic, .int .i64 p.f] 25)) (.slice so2 q.s.length sc2) (.slice io2 q.l.length ic2) (.int .i64 q.f) 25; simpa using this)
  have HB := Lib.hid (show Below w.heap.size w W1 by rw [hW1]; exact (below_new _ _).alloc (by simp) _)
  have HI := Lib.hid (show IsP W1 (fun b => b < w.heap.size) _ p from (HP.out.wide (fun b h _ => h)).grow HB.out)
  have HI2 := Lib.hid (show IsP W1 (fun b => b < w.heap.size) _ q from (HQ.out.wide (fun b h _ => h)).grow HB.out)
  have HLW := Lib.hid HB.out.size
  have HT := Lib.hid (show TabAt W1 from fun j hj => keep_below HB.out _ _ (hT j hj))
  obtain ⟨c, hc⟩ : ∃ c, c = chk 40 p := ⟨_, rfl⟩
  obtain ⟨c', hc'⟩ : ∃ c', c' = chk 40 q := ⟨_, rfl⟩
  have HC := Lib.hid (And.intro hc hc')
  obtain ⟨A, hA⟩ : ∃ A, A = arrP 40 p := ⟨_, rfl⟩
  obtain ⟨B, hB⟩ : ∃ B, B = arrP 40 q := ⟨_, rfl⟩
  have HAE := Lib.hid (And.intro hA hB)
  obtain ⟨X, hX⟩ : ∃ X, X = tidyP 40 p := ⟨_, rfl⟩
  obtain ⟨Y, hY⟩ : ∃ Y, Y = tidyP 40 q := ⟨_, rfl⟩
  have HXE := Lib.hid (And.intro hX hY)
  have HFW := Lib.hid hW1.symm
  clear hs hit hp hl hs2 hit2 hq hm hT hW1 hc hc' hA hB hX hY
  go_enter Tryz.func3, Tryz.ntmps3
  go_wp2_with fail
  rw [HFW.out]
  refine (pcount_calls n _ p _ _ _ HL.out.1 HI.out).mono ?_
  rintro e W11 ⟨cn, rfl, hB⟩
  replace HA := Lib.hid (HA.out.below hB)
  replace HA2 := Lib.hid (HA2.out.below hB)
  replace HB := Lib.hid (HB.out.trans (hB.mono HB.out.size))
  replace HI := Lib.hid (HI.out.grow hB)
  replace HI2 := Lib.hid (HI2.out.grow hB)
  replace HT := Lib.hid (fun j hj => keep_below hB _ _ (HT.out j hj))
  clear hB
  have cHA0 := HA.out.2.1
  have cHA1 := HA.out.2.2.1
  have cHA2 := HA.out.2.2.2.1
  have cHA20 := HA2.out.2.1
  have cHA21 := HA2.out.2.2.1
  have cHA22 := HA2.out.2.2.2.1
  by_cases hcn : 2000 < cn
  · go_wp2_with fail
    refine (awake7_calls _ HT.out).mono ?_
    rintro e W12 ⟨rfl, hB⟩
    clear cHA0 cHA1 cHA2 cHA20 cHA21 cHA22
    replace HA := Lib.hid (HA.out.below hB)
    replace HA2 := Lib.hid (HA2.out.below hB)
    replace HB := Lib.hid (HB.out.trans (hB.mono HB.out.size))
    replace HI := Lib.hid (HI.out.grow hB)
    replace HI2 := Lib.hid (HI2.out.grow hB)
    replace HT := Lib.hid (fun j hj => keep_below hB _ _ (HT.out j hj))
    clear hB
    have cHA0 := HA.out.2.1
    have cHA1 := HA.out.2.2.1
    have cHA2 := HA.out.2.2.2.1
    have cHA20 := HA2.out.2.1
    have cHA21 := HA2.out.2.2.1
    have cHA22 := HA2.out.2.2.2.1
    go_wp2_with fail
    go_ret
    exact BoolIs.mk rfl HB.out
  go_wp2_with fail
  refine (pcount_calls m _ q _ _ _ HL.out.2 HI2.out).mono ?_
  rintro e W12 ⟨cm, rfl, hB⟩
  clear cHA0 cHA1 cHA2 cHA20 cHA21 cHA22
  replace HA := Lib.hid (HA.out.below hB)
  replace HA2 := Lib.hid (HA2.out.below hB)
  replace HB := Lib.hid (HB.out.trans (hB.mono HB.out.size))
  replace HI := Lib.hid (HI.out.grow hB)
  replace HI2 := Lib.hid (HI2.out.grow hB)
  replace HT := Lib.hid (fun j hj => keep_below hB _ _ (HT.out j hj))
  clear hB
  have cHA0 := HA.out.2.1
  have cHA1 := HA.out.2.2.1
  have cHA2 := HA.out.2.2.2.1
  have cHA20 := HA2.out.2.1
  have cHA21 := HA2.out.2.2.1
  have cHA22 := HA2.out.2.2.2.1
  by_cases hcm : 2000 < cm
  · go_wp2_with fail
    refine (awake7_calls _ HT.out).mono ?_
    rintro e W13 ⟨rfl, hB⟩
    clear cHA0 cHA1 cHA2 cHA20 cHA21 cHA22
    replace HA := Lib.hid (HA.out.below hB)
    replace HA2 := Lib.hid (HA2.out.below hB)
    replace HB := Lib.hid (HB.out.trans (hB.mono HB.out.size))
    replace HI := Lib.hid (HI.out.grow hB)
    replace HI2 := Lib.hid (HI2.out.grow hB)
    replace HT := Lib.hid (fun j hj => keep_below hB _ _ (HT.out j hj))
    clear hB
    have cHA0 := HA.out.2.1
    have cHA1 := HA.out.2.2.1
    have cHA2 := HA.out.2.2.2.1
    have cHA20 := HA2.out.2.1
    have cHA21 := HA2.out.2.2.1
    have cHA22 := HA2.out.2.2.2.1
    go_wp2_with fail
    go_ret
    exact BoolIs.mk rfl HB.out
  go_wp2_with fail
  refine (vCheck_calls _ p _ n _ HL.out.1 HI.out).mono ?_
  rintro e W13 ⟨rfl, hB⟩
  clear cHA0 cHA1 cHA2 cHA20 cHA21 cHA22
  replace HA := Lib.hid (HA.out.below hB)
  replace HA2 := Lib.hid (HA2.out.below hB)
  replace HB := Lib.hid (HB.out.trans (hB.mono HB.out.size))
  replace HI := Lib.hid (HI.out.grow hB)
  replace HI2 := Lib.hid (HI2.out.grow hB)
  replace HT := Lib.hid (fun j hj => keep_below hB _ _ (HT.out j hj))
  rw [← HC.out.1]
  clear hB
  have cHA0 := HA.out.2.1
  have cHA1 := HA.out.2.2.1
  have cHA2 := HA.out.2.2.2.1
  have cHA20 := HA2.out.2.1
  have cHA21 := HA2.out.2.2.1
  have cHA22 := HA2.out.2.2.2.1
  by_cases hc0 : c = 0
  rotate_left
  · have hce : (c != 0) = true := by simpa using hc0
    clear hc0
    go_wp2_with fail
    refine (awake7_calls _ HT.out).mono ?_
    rintro e W14 ⟨rfl, hB⟩
    clear cHA0 cHA1 cHA2 cHA20 cHA21 cHA22
    replace HA := Lib.hid (HA.out.below hB)
    replace HA2 := Lib.hid (HA2.out.below hB)
    replace HB := Lib.hid (HB.out.trans (hB.mono HB.out.size))
    replace HI := Lib.hid (HI.out.grow hB)
    replace HI2 := Lib.hid (HI2.out.grow hB)
    replace HT := Lib.hid (fun j hj => keep_below hB _ _ (HT.out j hj))
    clear hB
    have cHA0 := HA.out.2.1
    have cHA1 := HA.out.2.2.1
    have cHA2 := HA.out.2.2.2.1
    have cHA20 := HA2.out.2.1
    have cHA21 := HA2.out.2.2.1
    have cHA22 := HA2.out.2.2.2.1
    go_wp2_with fail
    go_ret
    exact BoolIs.mk rfl HB.out
  have hce : (c != 0) = false := by simpa using hc0
  go_wp2_with fail
  refine (vCheck_calls _ q _ m _ HL.out.2 HI2.out).mono ?_
  rintro e W14 ⟨rfl, hB⟩
  clear cHA0 cHA1 cHA2 cHA20 cHA21 cHA22
  replace HA := Lib.hid (HA.out.below hB)
  replace HA2 := Lib.hid (HA2.out.below hB)
  replace HB := Lib.hid (HB.out.trans (hB.mono HB.out.size))
  replace HI := Lib.hid (HI.out.grow hB)
  replace HI2 := Lib.hid (HI2.out.grow hB)
  replace HT := Lib.hid (fun j hj => keep_below hB _ _ (HT.out j hj))
  rw [← HC.out.2]
  clear hB
  have cHA0 := HA.out.2.1
  have cHA1 := HA.out.2.2.1
  have cHA2 := HA.out.2.2.2.1
  have cHA20 := HA2.out.2.1
  have cHA21 := HA2.out.2.2.1
  have cHA22 := HA2.out.2.2.2.1
  by_cases hc0' : c' = 0
  rotate_left
  · have hce' : (c' != 0) = true := by simpa using hc0'
    clear hc0'
    go_wp2_with fail
    refine (awake7_calls _ HT.out).mono ?_
    rintro e W15 ⟨rfl, hB⟩
    clear cHA0 cHA1 cHA2 cHA20 cHA21 cHA22
    replace HA := Lib.hid (HA.out.below hB)
    replace HA2 := Lib.hid (HA2.out.below hB)
    replace HB := Lib.hid (HB.out.trans (hB.mono HB.out.size))
    replace HI := Lib.hid (HI.out.grow hB)
    replace HI2 := Lib.hid (HI2.out.grow hB)
    replace HT := Lib.hid (fun j hj => keep_below hB _ _ (HT.out j hj))
    clear hB
    have cHA0 := HA.out.2.1
    have cHA1 := HA.out.2.2.1
    have cHA2 := HA.out.2.2.2.1
    have cHA20 := HA2.out.2.1
    have cHA21 := HA2.out.2.2.1
    have cHA22 := HA2.out.2.2.2.1
    go_wp2_with fail
    go_ret
    exact BoolIs.mk rfl HB.out
  have hce' : (c' != 0) = false := by simpa using hc0'
  have HCP := Lib.hid (show chk 40 p = 0 by rw [← HC.out.1]; exact hc0)
  have HCQ := Lib.hid (show chk 40 q = 0 by rw [← HC.out.2]; exact hc0')
  go_wp2_with fail
  clear hce hce' hc0 hc0' hcn hcm
  obtain ⟨w0, hw0⟩ : ∃ w0, w0 = W14 := ⟨_, rfl⟩
  clear cHA0 cHA1 cHA2 cHA20 cHA21 cHA22
  rw [← hw0]
  rw [← hw0] at HA HA2 HB HI HI2 HT
  clear hw0
  refine wp_mid (fun a a' w' => ∃ (ba bb : Nat) (soA soB : Option Addr) (scA scB : Nat) (uA uB : Value), a' = ((((((a.put (some 30) (.agg #[.slice so p.s.length sc, .slice io p.l.length ic, .int .i64 p.f])).put (some 31) (.agg #[.slice soA A.1.length scA, uA])).put (some 32) (.agg #[.slice so2 q.s.length sc2, .slice io2 q.l.length ic2, .int .i64 q.f])).put (some 33) (.agg #[.slice soB B.1.length scB, uB])).put (some 5) (.pointer (some ⟨ba, 0, none⟩))).put (some 6) (.pointer (some ⟨bb, 0, none⟩))) ∧ At2 w' ba (.slice soA A.1.length scA) uA ∧ At2 w' bb (.slice soB B.1.length scB) uB ∧ IsArr w' (fun _ => True) (.slice soA A.1.length scA) uA A ∧ IsArr w' (fun _ => True) (.slice soB B.1.length scB) uB B ∧ Below w0.heap.size w0 w') ?_ ?_
  · have HWW := Lib.hid HB.out.size
    have HZ := Lib.hid (And.intro HB.out.size (Nat.le_refl w0.heap.size))
    have HW0 := Lib.hid (Below.refl w0.heap.size w0)
    have HHL := Lib.hid (show ∀ wx, Below w0.heap.size w0 wx → (fun w' => w'.cell? ⟨w.heap.size, 0, none⟩ = some (.slice so p.s.length sc) ∧ w'.cell? ⟨w.heap.size, 1, none⟩ = some (.slice io p.l.length ic) ∧ w'.cell? ⟨w.heap.size, 2, none⟩ = some (.int .i64 p.f) ∧ w'.cell? ⟨w.heap.size + 1, 0, none⟩ = some (.slice so2 q.s.length sc2) ∧ w'.cell? ⟨w.heap.size + 1, 1, none⟩ = some (.slice io2 q.l.length ic2) ∧ w'.cell? ⟨w.heap.size + 1, 2, none⟩ = some (.int .i64 q.f)) wx from fun wx HW0 => ⟨(HA.out.below HW0).2.1, (HA.out.below HW0).2.2.1, (HA.out.below HW0).2.2.2.1, (HA2.out.below HW0).2.1, (HA2.out.below HW0).2.2.1, (HA2.out.below HW0).2.2.2.1⟩)
    obtain ⟨W15, hWD⟩ : ∃ xw9, w0.drew = xw9 := ⟨_, rfl⟩
    have hB : Below w0.heap.size w0 W15 := by rw [← hWD]; exact Below.drewN' (Below.refl _ _) 1
    replace HZ := Lib.hid (And.intro HZ.out hB.size)
    replace HW0 := Lib.hid (HW0.out.trans (hB.mono HW0.out.size))
    clear hB
    refine wp_region_held_drew (S := fun w' => w'.cell? ⟨w.heap.size, 0, none⟩ = some (.slice so p.s.length sc) ∧ w'.cell? ⟨w.heap.size, 1, none⟩ = some (.slice io p.l.length ic) ∧ w'.cell? ⟨w.heap.size, 2, none⟩ = some (.int .i64 p.f) ∧ w'.cell? ⟨w.heap.size + 1, 0, none⟩ = some (.slice so2 q.s.length sc2) ∧ w'.cell? ⟨w.heap.size + 1, 1, none⟩ = some (.slice io2 q.l.length ic2) ∧ w'.cell? ⟨w.heap.size + 1, 2, none⟩ = some (.int .i64 q.f)) (by kernel_rfl) (by rw [hWD]; exact HHL.out _ HW0.out) (fun hHeld => ?_)
    rw [hWD] at hHeld ⊢
    clear hWD
    refine wpAnyH_take (i := 0) (v := ?_) rfl (by kernel_rfl) (by kernel_rfl) (by kernel_rfl) (fun _ _ _ h => absurd h.1 (by simp)) (Or.inl ⟨by rfl, ?_⟩) (by assumption) ?_
    rotate_left
    · (intro w hSw; (try dsimp only at hSw); go_simp; try with_reducible rfl)
    simp only [Act.put, List.getElem_toArray, List.getElem_cons_zero, List.setIfInBounds_toArray, List.set_cons_zero, List.set_cons_succ]
    refine wpAnyH_take (i := 2) (v := ?_) rfl (by kernel_rfl) (by kernel_rfl) (by kernel_rfl) (fun _ _ _ h => absurd h.1 (by simp)) (Or.inl ⟨by rfl, ?_⟩) (by assumption) ?_
    rotate_left
    · (intro w hSw; (try dsimp only at hSw); go_simp; try with_reducible rfl)
    simp only [Act.put, List.getElem_toArray, List.getElem_cons_succ, List.getElem_cons_zero, List.setIfInBounds_toArray, List.set_cons_zero, List.set_cons_succ]
    refine wpAnyH_ready (rs := [1, 4, 5]) (by kernel_rfl) (by simp) ?_
    refine AllReadyH.cons (o := _) rfl (fun K hK => ?_) ?_
    · clear hHeld
      go_simp
      refine (lof_calls _ p _ n _ HL.out.1 (HI.out.grow HW0.out) (fun j hj => keep_below HW0.out _ _ (HT.out j hj)) HCP.out).mono ?_
      rintro e W16 ⟨soA, scA, uA, rfl, hAA, hB⟩
      replace HZ := Lib.hid (And.intro HZ.out hB.size)
      replace HW0 := Lib.hid (HW0.out.trans (hB.mono HW0.out.size))
      rw [← HAE.out.1] at hAA ⊢
      have HAR := Lib.hid (show IsArr W16 (fun b => W15.heap.size ≤ b ∧ b < W16.heap.size) (.slice soA A.1.length scA) uA A from hAA.wide (fun b h1 h2 => ⟨h2, h1⟩))
      have hsA := hAA.2.store
      clear hAA
      clear hB
      try go_simp
      refine hK.out _ _ ?_ (fun hHeld => ?_)
      · exact HHL.out _ HW0.out
      clear hK K
      refine wpAnyH_ready (rs := [3, 4, 5]) (by kernel_rfl) (by simp) ?_
      refine AllReadyH.cons (o := _) rfl (fun K hK => ?_) ?_
      · clear hHeld
        go_simp
        refine (lof_calls _ q _ m _ HL.out.2 (HI2.out.grow HW0.out) (fun j hj => keep_below HW0.out _ _ (HT.out j hj)) HCQ.out).mono ?_
        rintro e W17 ⟨soB, scB, uB, rfl, hBB, hB⟩
        replace HZ := Lib.hid (And.intro HZ.out hB.size)
        replace HW0 := Lib.hid (HW0.out.trans (hB.mono HW0.out.size))
        replace HAR := Lib.hid (HAR.out.grow hB)
        rw [← HAE.out.2] at hBB ⊢
        have HBR := Lib.hid (show IsArr W17 (fun b => W16.heap.size ≤ b ∧ b < W17.heap.size) (.slice soB B.1.length scB) uB B from hBB.wide (fun b h1 h2 => ⟨h2, h1⟩))
        have hsB := hBB.2.store
        clear hBB
        clear hB
        try go_simp
        refine hK.out _ _ ?_ (fun hHeld => ?_)
        · exact HHL.out _ HW0.out
        clear hK K
        refine wpAnyH_ready (rs := [4, 5]) (by kernel_rfl) (by simp) ?_
        refine AllReadyH.cons (o := _) rfl (fun K hK => ?_) ?_
        · clear hHeld
          go_simp
          obtain ⟨W18, hWn⟩ : ∃ xw9, W17.alloc (.cells #[.slice none 0 0, .nilIface] 32) = xw9 := ⟨_, rfl⟩
          have hB : Below W17.heap.size W17 W18 := by rw [← hWn]; exact below_new _ _
          have hNB : At2 W18 W17.heap.size (.slice none 0 0) (.nilIface) := by rw [← hWn]; exact At2.new _ _ _ _
          rw [hWn]
          clear hWn
          obtain ⟨ba, hnm⟩ : ∃ x, W17.heap.size = x := ⟨_, rfl⟩
          rw [hnm] at hNB ⊢
          replace HZ := Lib.hid (And.intro HZ.out (And.intro hnm hNB.1))
          replace HW0 := Lib.hid (HW0.out.trans (hB.mono HW0.out.size))
          replace HAR := Lib.hid (HAR.out.grow hB)
          replace HBR := Lib.hid (HBR.out.grow hB)
          have HVA := Lib.hid hNB
          clear hNB hB hnm
          have HG0 := Lib.hid (show w0.heap.size ≤ ba by (have := HZ.out; omega))
          replace HZ := Lib.hid (And.intro HZ.out HG0.out)
          refine hK.out _ _ ?_ (fun hHeld => ?_)
          · exact HHL.out _ HW0.out
          clear hK K
          refine wpAnyH_ready (rs := [5]) (by kernel_rfl) (by simp) ?_
          refine AllReadyH.cons (o := _) rfl (fun K hK => ?_) ?_
          · clear hHeld
            go_simp
            obtain ⟨W19, hWn⟩ : ∃ xw9, W18.alloc (.cells #[.slice none 0 0, .nilIface] 32) = xw9 := ⟨_, rfl⟩
            have hB : Below W18.heap.size W18 W19 := by rw [← hWn]; exact below_new _ _
            have hNB : At2 W19 W18.heap.size (.slice none 0 0) (.nilIface) := by rw [← hWn]; exact At2.new _ _ _ _
            rw [hWn]
            clear hWn
            obtain ⟨bb, hnm⟩ : ∃ x, W18.heap.size = x := ⟨_, rfl⟩
            rw [hnm] at hNB ⊢
            replace HZ := Lib.hid (And.intro HZ.out (And.intro hnm hNB.1))
            replace HW0 := Lib.hid (HW0.out.trans (hB.mono HW0.out.size))
            replace HAR := Lib.hid (HAR.out.grow hB)
            replace HBR := Lib.hid (HBR.out.grow hB)
            replace HVA := Lib.hid (HVA.out.below hB)
            have HVB := Lib.hid hNB
            clear hNB hB hnm
            have HG1 := Lib.hid (show w0.heap.size ≤ bb by (have := HZ.out; omega))
            replace HZ := Lib.hid (And.intro HZ.out HG1.out)
            refine hK.out _ _ ?_ (fun hHeld => ?_)
            · exact HHL.out _ HW0.out
            clear hK K
            refine wpAnyH_ready (rs := [6]) (by kernel_rfl) (by simp) ?_
            refine AllReadyH.cons (o := _) rfl (fun K hK => ?_) ?_
            · clear hHeld
              have s0 := HVA.out.2.1
              have s1 := HVA.out.2.2.1
              have t0 := HVA.out.2.2.2 0
              have t1 := HVA.out.2.2.2 1
              go_simp
              clear s0 t0 s1 t1
              obtain ⟨W20, hWn⟩ : ∃ xw9, ((W19.setCell ⟨ba, 0, none⟩ (.slice soA A.1.length scA)).setCell ⟨ba, 1, none⟩ (uA)) = xw9 := ⟨_, rfl⟩
              rw [hWn]
              have HNE := Lib.hid (show bb ≠ ba by (have := HZ.out; omega))
              replace HVA := Lib.hid (show At2 W20 ba (.slice soA A.1.length scA) (uA) by rw [← hWn]; exact At2.put2 HVA.out _ _)
              replace HVB := Lib.hid (show At2 W20 bb (.slice none 0 0) (.nilIface) by rw [← hWn]; exact ((HVB.out.grown (grown_setCell _ ⟨ba, 0, none⟩ _) (by simpa using HNE.out)).grown (grown_setCell _ ⟨ba, 1, none⟩ _) (by simpa using HNE.out)))
              replace HAR := Lib.hid (show IsArr W20 (fun b => W15.heap.size ≤ b ∧ b < W16.heap.size) (.slice soA A.1.length scA) uA A by
                have hno : ¬ (W15.heap.size ≤ ba ∧ ba < W16.heap.size) := by (have := HZ.out; omega)
                rw [← hWn]; exact HAR.out.keep ((Kept.setCell _ _ _ hno).trans (Kept.setCell _ _ _ hno)) (fun _ _ h => h))
              replace HBR := Lib.hid (show IsArr W20 (fun b => W16.heap.size ≤ b ∧ b < W17.heap.size) (.slice soB B.1.length scB) uB B by
                have hno : ¬ (W16.heap.size ≤ ba ∧ ba < W17.heap.size) := by (have := HZ.out; omega)
                rw [← hWn]; exact HBR.out.keep ((Kept.setCell _ _ _ hno).trans (Kept.setCell _ _ _ hno)) (fun _ _ h => h))
              replace HW0 := Lib.hid (show Below w0.heap.size w0 W20 by rw [← hWn]; exact ((HW0.out.setCell (by show w0.heap.size ≤ ba; exact HG0.out) _).setCell (by show w0.heap.size ≤ ba; exact HG0.out) _))
              clear hWn HNE
              refine hK.out _ _ ?_ (fun hHeld => ?_)
              · exact HHL.out _ HW0.out
              clear hK K
              refine wpAnyH_ready (rs := [7]) (by kernel_rfl) (by simp) ?_
              refine AllReadyH.cons (o := _) rfl (fun K hK => ?_) ?_
              · clear hHeld
                have s0 := HVB.out.2.1
                have s1 := HVB.out.2.2.1
                have t0 := HVB.out.2.2.2 0
                have t1 := HVB.out.2.2.2 1
                go_simp
                clear s0 t0 s1 t1
                obtain ⟨W21, hWn⟩ : ∃ xw9, ((W20.setCell ⟨bb, 0, none⟩ (.slice soB B.1.length scB)).setCell ⟨bb, 1, none⟩ (uB)) = xw9 := ⟨_, rfl⟩
                rw [hWn]
                have HNE := Lib.hid (show ba ≠ bb by (have := HZ.out; omega))
                replace HVB := Lib.hid (show At2 W21 bb (.slice soB B.1.length scB) (uB) by rw [← hWn]; exact At2.put2 HVB.out _ _)
                replace HVA := Lib.hid (show At2 W21 ba (.slice soA A.1.length scA) (uA) by rw [← hWn]; exact ((HVA.out.grown (grown_setCell _ ⟨bb, 0, none⟩ _) (by simpa using HNE.out)).grown (grown_setCell _ ⟨bb, 1, none⟩ _) (by simpa using HNE.out)))
                replace HAR := Lib.hid (show IsArr W21 (fun b => W15.heap.size ≤ b ∧ b < W16.heap.size) (.slice soA A.1.length scA) uA A by
                  have hno : ¬ (W15.heap.size ≤ bb ∧ bb < W16.heap.size) := by (have := HZ.out; omega)
                  rw [← hWn]; exact HAR.out.keep ((Kept.setCell _ _ _ hno).trans (Kept.setCell _ _ _ hno)) (fun _ _ h => h))
                replace HBR := Lib.hid (show IsArr W21 (fun b => W16.heap.size ≤ b ∧ b < W17.heap.size) (.slice soB B.1.length scB) uB B by
                  have hno : ¬ (W16.heap.size ≤ bb ∧ bb < W17.heap.size) := by (have := HZ.out; omega)
                  rw [← hWn]; exact HBR.out.keep ((Kept.setCell _ _ _ hno).trans (Kept.setCell _ _ _ hno)) (fun _ _ h => h))
                replace HW0 := Lib.hid (show Below w0.heap.size w0 W21 by rw [← hWn]; exact ((HW0.out.setCell (by show w0.heap.size ≤ bb; exact HG1.out) _).setCell (by show w0.heap.size ≤ bb; exact HG1.out) _))
                clear hWn HNE
                refine hK.out _ _ ?_ (fun hHeld => ?_)
                · exact HHL.out _ HW0.out
                clear hK K
                refine wpAnyH_done (by kernel_rfl) ?_ _
                clear hHeld
                exact ⟨rfl, ba, bb, soA, soB, scA, scB, uA, uB, rfl, HVA.out, HVB.out, HAR.out.wide (fun _ _ _ => trivial), HBR.out.wide (fun _ _ _ => trivial), HW0.out⟩
              exact AllReadyH.nil
            exact AllReadyH.nil
          exact AllReadyH.nil
        refine AllReadyH.cons (o := _) rfl (fun K hK => ?_) ?_
        · clear hHeld
          go_simp
          obtain ⟨W18, hWn⟩ : ∃ xw9, W17.alloc (.cells #[.slice none 0 0, .nilIface] 32) = xw9 := ⟨_, rfl⟩
          have hB : Below W17.heap.size W17 W18 := by rw [← hWn]; exact below_new _ _
          have hNB : At2 W18 W17.heap.size (.slice none 0 0) (.nilIface) := by rw [← hWn]; exact At2.new _ _ _ _
          rw [hWn]
          clear hWn
          obtain ⟨bb, hnm⟩ : ∃ x, W17.heap.size = x := ⟨_, rfl⟩
          rw [hnm] at hNB ⊢
          replace HZ := Lib.hid (And.intro HZ.out (And.intro hnm hNB.1))
          replace HW0 := Lib.hid (HW0.out.trans (hB.mono HW0.out.size))
          replace HAR := Lib.hid (HAR.out.grow hB)
          replace HBR := Lib.hid (HBR.out.grow hB)
          have HVB := Lib.hid hNB
          clear hNB hB hnm
          have HG1 := Lib.hid (show w0.heap.size ≤ bb by (have := HZ.out; omega))
          replace HZ := Lib.hid (And.intro HZ.out HG1.out)
          refine hK.out _ _ ?_ (fun hHeld => ?_)
          · exact HHL.out _ HW0.out
          clear hK K
          refine wpAnyH_ready (rs := [4]) (by kernel_rfl) (by simp) ?_
          refine AllReadyH.cons (o := _) rfl (fun K hK => ?_) ?_
          · clear hHeld
            go_simp
            obtain ⟨W19, hWn⟩ : ∃ xw9, W18.alloc (.cells #[.slice none 0 0, .nilIface] 32) = xw9 := ⟨_, rfl⟩
            have hB : Below W18.heap.size W18 W19 := by rw [← hWn]; exact below_new _ _
            have hNB : At2 W19 W18.heap.size (.slice none 0 0) (.nilIface) := by rw [← hWn]; exact At2.new _ _ _ _
            rw [hWn]
            clear hWn
            obtain ⟨ba, hnm⟩ : ∃ x, W18.heap.size = x := ⟨_, rfl⟩
            rw [hnm] at hNB ⊢
            replace HZ := Lib.hid (And.intro HZ.out (And.intro hnm hNB.1))
            replace HW0 := Lib.hid (HW0.out.trans (hB.mono HW0.out.size))
            replace HAR := Lib.hid (HAR.out.grow hB)
            replace HBR := Lib.hid (HBR.out.grow hB)
            replace HVB := Lib.hid (HVB.out.below hB)
            have HVA := Lib.hid hNB
            clear hNB hB hnm
            have HG0 := Lib.hid (show w0.heap.size ≤ ba by (have := HZ.out; omega))
            replace HZ := Lib.hid (And.intro HZ.out HG0.out)
            refine hK.out _ _ ?_ (fun hHeld => ?_)
            · exact HHL.out _ HW0.out
            clear hK K
            refine wpAnyH_ready (rs := [6]) (by kernel_rfl) (by simp) ?_
            refine AllReadyH.cons (o := _) rfl (fun K hK => ?_) ?_
            · clear hHeld
              have s0 := HVA.out.2.1
              have s1 := HVA.out.2.2.1
              have t0 := HVA.out.2.2.2 0
              have t1 := HVA.out.2.2.2 1
              go_simp
              clear s0 t0 s1 t1
              obtain ⟨W20, hWn⟩ : ∃ xw9, ((W19.setCell ⟨ba, 0, none⟩ (.slice soA A.1.length scA)).setCell ⟨ba, 1, none⟩ (uA)) = xw9 := ⟨_, rfl⟩
              rw [hWn]
              have HNE := Lib.hid (show bb ≠ ba by (have := HZ.out; omega))
              replace HVA := Lib.hid (show At2 W20 ba (.slice soA A.1.length scA) (uA) by rw [← hWn]; exact At2.put2 HVA.out _ _)
              replace HVB := Lib.hid (show At2 W20 bb (.slice none 0 0) (.nilIface) by rw [← hWn]; exact ((HVB.out.grown (grown_setCell _ ⟨ba, 0, none⟩ _) (by simpa using HNE.out)).grown (grown_setCell _ ⟨ba, 1, none⟩ _) (by simpa using HNE.out)))
              replace HAR := Lib.hid (show IsArr W20 (fun b => W15.heap.size ≤ b ∧ b < W16.heap.size) (.slice soA A.1.length scA) uA A by
                have hno : ¬ (W15.heap.size ≤ ba ∧ ba < W16.heap.size) := by (have := HZ.out; omega)
                rw [← hWn]; exact HAR.out.keep ((Kept.setCell _ _ _ hno).trans (Kept.setCell _ _ _ hno)) (fun _ _ h => h))
              replace HBR := Lib.hid (show IsArr W20 (fun b => W16.heap.size ≤ b ∧ b < W17.heap.size) (.slice soB B.1.length scB) uB B by
                have hno : ¬ (W16.heap.size ≤ ba ∧ ba < W17.heap.size) := by (have := HZ.out; omega)
                rw [← hWn]; exact HBR.out.keep ((Kept.setCell _ _ _ hno).trans (Kept.setCell _ _ _ hno)) (fun _ _ h => h))
              replace HW0 := Lib.hid (show Below w0.heap.size w0 W20 by rw [← hWn]; exact ((HW0.out.setCell (by show w0.heap.size ≤ ba; exact HG0.out) _).setCell (by show w0.heap.size ≤ ba; exact HG0.out) _))
              clear hWn HNE
              refine hK.out _ _ ?_ (fun hHeld => ?_)
              · exact HHL.out _ HW0.out
              clear hK K
              refine wpAnyH_ready (rs := [7]) (by kernel_rfl) (by simp) ?_
              refine AllReadyH.cons (o := _) rfl (fun K hK => ?_) ?_
              · clear hHeld
                have s0 := HVB.out.2.1
                have s1 := HVB.out.2.2.1
                have t0 := HVB.out.2.2.2 0
                have t1 := HVB.out.2.2.2 1
                go_simp
                clear s0 t0 s1 t1
                obtain ⟨W21, hWn⟩ : ∃ xw9, ((W20.setCell ⟨bb, 0, none⟩ (.slice soB B.1.length scB)).setCell ⟨bb, 1, none⟩ (uB)) = xw9 := ⟨_, rfl⟩
                rw [hWn]
                have HNE := Lib.hid (show ba ≠ bb by (have := HZ.out; omega))
                replace HVB := Lib.hid (show At2 W21 bb (.slice soB B.1.length scB) (uB) by rw [← hWn]; exact At2.put2 HVB.out _ _)
                replace HVA := Lib.hid (show At2 W21 ba (.slice soA A.1.length scA) (uA) by rw [← hWn]; exact ((HVA.out.grown (grown_setCell _ ⟨bb, 0, none⟩ _) (by simpa using HNE.out)).grown (grown_setCell _ ⟨bb, 1, none⟩ _) (by simpa using HNE.out)))
                replace HAR := Lib.hid (show IsArr W21 (fun b => W15.heap.size ≤ b ∧ b < W16.heap.size) (.slice soA A.1.length scA) uA A by
                  have hno : ¬ (W15.heap.size ≤ bb ∧ bb < W16.heap.size) := by (have := HZ.out; omega)
                  rw [← hWn]; exact HAR.out.keep ((Kept.setCell _ _ _ hno).trans (Kept.setCell _ _ _ hno)) (fun _ _ h => h))
                replace HBR := Lib.hid (show IsArr W21 (fun b => W16.heap.size ≤ b ∧ b < W17.heap.size) (.slice soB B.1.length scB) uB B by
                  have hno : ¬ (W16.heap.size ≤ bb ∧ bb < W17.heap.size) := by (have := HZ.out; omega)
                  rw [← hWn]; exact HBR.out.keep ((Kept.setCell _ _ _ hno).trans (Kept.setCell _ _ _ hno)) (fun _ _ h => h))
                replace HW0 := Lib.hid (show Below w0.heap.size w0 W21 by rw [← hWn]; exact ((HW0.out.setCell (by show w0.heap.size ≤ bb; exact HG1.out) _).setCell (by show w0.heap.size ≤ bb; exact HG1.out) _))
                clear hWn HNE
                refine hK.out _ _ ?_ (fun hHeld => ?_)
                · exact HHL.out _ HW0.out
                clear hK K
                refine wpAnyH_done (by kernel_rfl) ?_ _
                clear hHeld
                exact ⟨rfl, ba, bb, soA, soB, scA, scB, uA, uB, rfl, HVA.out, HVB.out, HAR.out.wide (fun _ _ _ => trivial), HBR.out.wide (fun _ _ _ => trivial), HW0.out⟩
              exact AllReadyH.nil
            exact AllReadyH.nil
          exact AllReadyH.nil
        exact AllReadyH.nil
      refine AllReadyH.cons (o := _) rfl (fun K hK => ?_) ?_
      · clear hHeld
        go_simp
        obtain ⟨W17, hWn⟩ : ∃ xw9, W16.alloc (.cells #[.slice none 0 0, .nilIface] 32) = xw9 := ⟨_, rfl⟩
        have hB : Below W16.heap.size W16 W17 := by rw [← hWn]; exact below_new _ _
        have hNB : At2 W17 W16.heap.size (.slice none 0 0) (.nilIface) := by rw [← hWn]; exact At2.new _ _ _ _
        rw [hWn]
        clear hWn
        obtain ⟨ba, hnm⟩ : ∃ x, W16.heap.size = x := ⟨_, rfl⟩
        rw [hnm] at hNB ⊢
        replace HZ := Lib.hid (And.intro HZ.out (And.intro hnm hNB.1))
        replace HW0 := Lib.hid (HW0.out.trans (hB.mono HW0.out.size))
        replace HAR := Lib.hid (HAR.out.grow hB)
        have HVA := Lib.hid hNB
        clear hNB hB hnm
        have HG0 := Lib.hid (show w0.heap.size ≤ ba by (have := HZ.out; omega))
        replace HZ := Lib.hid (And.intro HZ.out HG0.out)
        refine hK.out _ _ ?_ (fun hHeld => ?_)
        · exact HHL.out _ HW0.out
        clear hK K
        refine wpAnyH_ready (rs := [3, 5]) (by kernel_rfl) (by simp) ?_
        refine AllReadyH.cons (o := _) rfl (fun K hK => ?_) ?_
        · clear hHeld
          go_simp
          refine (lof_calls _ q _ m _ HL.out.2 (HI2.out.grow HW0.out) (fun j hj => keep_below HW0.out _ _ (HT.out j hj)) HCQ.out).mono ?_
          rintro e W18 ⟨soB, scB, uB, rfl, hBB, hB⟩
          replace HZ := Lib.hid (And.intro HZ.out hB.size)
          replace HW0 := Lib.hid (HW0.out.trans (hB.mono HW0.out.size))
          replace HAR := Lib.hid (HAR.out.grow hB)
          replace HVA := Lib.hid (HVA.out.below hB)
          rw [← HAE.out.2] at hBB ⊢
          have HBR := Lib.hid (show IsArr W18 (fun b => W17.heap.size ≤ b ∧ b < W18.heap.size) (.slice soB B.1.length scB) uB B from hBB.wide (fun b h1 h2 => ⟨h2, h1⟩))
          have hsB := hBB.2.store
          clear hBB
          clear hB
          try go_simp
          refine hK.out _ _ ?_ (fun hHeld => ?_)
          · exact HHL.out _ HW0.out
          clear hK K
          refine wpAnyH_ready (rs := [5]) (by kernel_rfl) (by simp) ?_
          refine AllReadyH.cons (o := _) rfl (fun K hK => ?_) ?_
          · clear hHeld
            go_simp
            obtain ⟨W19, hWn⟩ : ∃ xw9, W18.alloc (.cells #[.slice none 0 0, .nilIface] 32) = xw9 := ⟨_, rfl⟩
            have hB : Below W18.heap.size W18 W19 := by rw [← hWn]; exact below_new _ _
            have hNB : At2 W19 W18.heap.size (.slice none 0 0) (.nilIface) := by rw [← hWn]; exact At2.new _ _ _ _
            rw [hWn]
            clear hWn
            obtain ⟨bb, hnm⟩ : ∃ x, W18.heap.size = x := ⟨_, rfl⟩
            rw [hnm] at hNB ⊢
            replace HZ := Lib.hid (And.intro HZ.out (And.intro hnm hNB.1))
            replace HW0 := Lib.hid (HW0.out.trans (hB.mono HW0.out.size))
            replace HAR := Lib.hid (HAR.out.grow hB)
            replace HVA := Lib.hid (HVA.out.below hB)
            replace HBR := Lib.hid (HBR.out.grow hB)
            have HVB := Lib.hid hNB
            clear hNB hB hnm
            have HG1 := Lib.hid (show w0.heap.size ≤ bb by (have := HZ.out; omega))
            replace HZ := Lib.hid (And.intro HZ.out HG1.out)
            refine hK.out _ _ ?_ (fun hHeld => ?_)
            · exact HHL.out _ HW0.out
            clear hK K
            refine wpAnyH_ready (rs := [6]) (by kernel_rfl) (by simp) ?_
            refine AllReadyH.cons (o := _) rfl (fun K hK => ?_) ?_
            · clear hHeld
              have s0 := HVA.out.2.1
              have s1 := HVA.out.2.2.1
              have t0 := HVA.out.2.2.2 0
              have t1 := HVA.out.2.2.2 1
              go_simp
              clear s0 t0 s1 t1
              obtain ⟨W20, hWn⟩ : ∃ xw9, ((W19.setCell ⟨ba, 0, none⟩ (.slice soA A.1.length scA)).setCell ⟨ba, 1, none⟩ (uA)) = xw9 := ⟨_, rfl⟩
              rw [hWn]
              have HNE := Lib.hid (show bb ≠ ba by (have := HZ.out; omega))
              replace HVA := Lib.hid (show At2 W20 ba (.slice soA A.1.length scA) (uA) by rw [← hWn]; exact At2.put2 HVA.out _ _)
              replace HVB := Lib.hid (show At2 W20 bb (.slice none 0 0) (.nilIface) by rw [← hWn]; exact ((HVB.out.grown (grown_setCell _ ⟨ba, 0, none⟩ _) (by simpa using HNE.out)).grown (grown_setCell _ ⟨ba, 1, none⟩ _) (by simpa using HNE.out)))
              replace HAR := Lib.hid (show IsArr W20 (fun b => W15.heap.size ≤ b ∧ b < W16.heap.size) (.slice soA A.1.length scA) uA A by
                have hno : ¬ (W15.heap.size ≤ ba ∧ ba < W16.heap.size) := by (have := HZ.out; omega)
                rw [← hWn]; exact HAR.out.keep ((Kept.setCell _ _ _ hno).trans (Kept.setCell _ _ _ hno)) (fun _ _ h => h))
              replace HBR := Lib.hid (show IsArr W20 (fun b => W17.heap.size ≤ b ∧ b < W18.heap.size) (.slice soB B.1.length scB) uB B by
                have hno : ¬ (W17.heap.size ≤ ba ∧ ba < W18.heap.size) := by (have := HZ.out; omega)
                rw [← hWn]; exact HBR.out.keep ((Kept.setCell _ _ _ hno).trans (Kept.setCell _ _ _ hno)) (fun _ _ h => h))
              replace HW0 := Lib.hid (show Below w0.heap.size w0 W20 by rw [← hWn]; exact ((HW0.out.setCell (by show w0.heap.size ≤ ba; exact HG0.out) _).setCell (by show w0.heap.size ≤ ba; exact HG0.out) _))
              clear hWn HNE
              refine hK.out _ _ ?_ (fun hHeld => ?_)
              · exact HHL.out _ HW0.out
              clear hK K
              refine wpAnyH_ready (rs := [7]) (by kernel_rfl) (by simp) ?_
              refine AllReadyH.cons (o := _) rfl (fun K hK => ?_) ?_
              · clear hHeld
                have s0 := HVB.out.2.1
                have s1 := HVB.out.2.2.1
                have t0 := HVB.out.2.2.2 0
                have t1 := HVB.out.2.2.2 1
                go_simp
                clear s0 t0 s1 t1
                obtain ⟨W21, hWn⟩ : ∃ xw9, ((W20.setCell ⟨bb, 0, none⟩ (.slice soB B.1.length scB)).setCell ⟨bb, 1, none⟩ (uB)) = xw9 := ⟨_, rfl⟩
                rw [hWn]
                have HNE := Lib.hid (show ba ≠ bb by (have := HZ.out; omega))
                replace HVB := Lib.hid (show At2 W21 bb (.slice soB B.1.length scB) (uB) by rw [← hWn]; exact At2.put2 HVB.out _ _)
                replace HVA := Lib.hid (show At2 W21 ba (.slice soA A.1.length scA) (uA) by rw [← hWn]; exact ((HVA.out.grown (grown_setCell _ ⟨bb, 0, none⟩ _) (by simpa using HNE.out)).grown (grown_setCell _ ⟨bb, 1, none⟩ _) (by simpa using HNE.out)))
                replace HAR := Lib.hid (show IsArr W21 (fun b => W15.heap.size ≤ b ∧ b < W16.heap.size) (.slice soA A.1.length scA) uA A by
                  have hno : ¬ (W15.heap.size ≤ bb ∧ bb < W16.heap.size) := by (have := HZ.out; omega)
                  rw [← hWn]; exact HAR.out.keep ((Kept.setCell _ _ _ hno).trans (Kept.setCell _ _ _ hno)) (fun _ _ h => h))
                replace HBR := Lib.hid (show IsArr W21 (fun b => W17.heap.size ≤ b ∧ b < W18.heap.size) (.slice soB B.1.length scB) uB B by
                  have hno : ¬ (W17.heap.size ≤ bb ∧ bb < W18.heap.size) := by (have := HZ.out; omega)
                  rw [← hWn]; exact HBR.out.keep ((Kept.setCell _ _ _ hno).trans (Kept.setCell _ _ _ hno)) (fun _ _ h => h))
                replace HW0 := Lib.hid (show Below w0.heap.size w0 W21 by rw [← hWn]; exact ((HW0.out.setCell (by show w0.heap.size ≤ bb; exact HG1.out) _).setCell (by show w0.heap.size ≤ bb; exact HG1.out) _))
                clear hWn HNE
                refine hK.out _ _ ?_ (fun hHeld => ?_)
                · exact HHL.out _ HW0.out
                clear hK K
                refine wpAnyH_done (by kernel_rfl) ?_ _
                clear hHeld
                exact ⟨rfl, ba, bb, soA, soB, scA, scB, uA, uB, rfl, HVA.out, HVB.out, HAR.out.wide (fun _ _ _ => trivial), HBR.out.wide (fun _ _ _ => trivial), HW0.out⟩
              exact AllReadyH.nil
            exact AllReadyH.nil
          exact AllReadyH.nil
        refine AllReadyH.cons (o := _) rfl (fun K hK => ?_) ?_
        · clear hHeld
          go_simp
          obtain ⟨W18, hWn⟩ : ∃ xw9, W17.alloc (.cells #[.slice none 0 0, .nilIface] 32) = xw9 := ⟨_, rfl⟩
          have hB : Below W17.heap.size W17 W18 := by rw [← hWn]; exact below_new _ _
          have hNB : At2 W18 W17.heap.size (.slice none 0 0) (.nilIface) := by rw [← hWn]; exact At2.new _ _ _ _
          rw [hWn]
          clear hWn
          obtain ⟨bb, hnm⟩ : ∃ x, W17.heap.size = x := ⟨_, rfl⟩
          rw [hnm] at hNB ⊢
          replace HZ := Lib.hid (And.intro HZ.out (And.intro hnm hNB.1))
          replace HW0 := Lib.hid (HW0.out.trans (hB.mono HW0.out.size))
          replace HAR := Lib.hid (HAR.out.grow hB)
          replace HVA := Lib.hid (HVA.out.below hB)
          have HVB := Lib.hid hNB
          clear hNB hB hnm
          have HG1 := Lib.hid (show w0.heap.size ≤ bb by (have := HZ.out; omega))
          replace HZ := Lib.hid (And.intro HZ.out HG1.out)
          refine hK.out _ _ ?_ (fun hHeld => ?_)
          · exact HHL.out _ HW0.out
          clear hK K
          refine wpAnyH_ready (rs := [3]) (by kernel_rfl) (by simp) ?_
          refine AllReadyH.cons (o := _) rfl (fun K hK => ?_) ?_
          · clear hHeld
            go_simp
            refine (lof_calls _ q _ m _ HL.out.2 (HI2.out.grow HW0.out) (fun j hj => keep_below HW0.out _ _ (HT.out j hj)) HCQ.out).mono ?_
            rintro e W19 ⟨soB, scB, uB, rfl, hBB, hB⟩
            replace HZ := Lib.hid (And.intro HZ.out hB.size)
            replace HW0 := Lib.hid (HW0.out.trans (hB.mono HW0.out.size))
            replace HAR := Lib.hid (HAR.out.grow hB)
            replace HVA := Lib.hid (HVA.out.below hB)
            replace HVB := Lib.hid (HVB.out.below hB)
            rw [← HAE.out.2] at hBB ⊢
            have HBR := Lib.hid (show IsArr W19 (fun b => W18.heap.size ≤ b ∧ b < W19.heap.size) (.slice soB B.1.length scB) uB B from hBB.wide (fun b h1 h2 => ⟨h2, h1⟩))
            have hsB := hBB.2.store
            clear hBB
            clear hB
            try go_simp
            refine hK.out _ _ ?_ (fun hHeld => ?_)
            · exact HHL.out _ HW0.out
            clear hK K
            refine wpAnyH_ready (rs := [6]) (by kernel_rfl) (by simp) ?_
            refine AllReadyH.cons (o := _) rfl (fun K hK => ?_) ?_
            · clear hHeld
              have s0 := HVA.out.2.1
              have s1 := HVA.out.2.2.1
              have t0 := HVA.out.2.2.2 0
              have t1 := HVA.out.2.2.2 1
              go_simp
              clear s0 t0 s1 t1
              obtain ⟨W20, hWn⟩ : ∃ xw9, ((W19.setCell ⟨ba, 0, none⟩ (.slice soA A.1.length scA)).setCell ⟨ba, 1, none⟩ (uA)) = xw9 := ⟨_, rfl⟩
              rw [hWn]
              have HNE := Lib.hid (show bb ≠ ba by (have := HZ.out; omega))
              replace HVA := Lib.hid (show At2 W20 ba (.slice soA A.1.length scA) (uA) by rw [← hWn]; exact At2.put2 HVA.out _ _)
              replace HVB := Lib.hid (show At2 W20 bb (.slice none 0 0) (.nilIface) by rw [← hWn]; exact ((HVB.out.grown (grown_setCell _ ⟨ba, 0, none⟩ _) (by simpa using HNE.out)).grown (grown_setCell _ ⟨ba, 1, none⟩ _) (by simpa using HNE.out)))
              replace HAR := Lib.hid (show IsArr W20 (fun b => W15.heap.size ≤ b ∧ b < W16.heap.size) (.slice soA A.1.length scA) uA A by
                have hno : ¬ (W15.heap.size ≤ ba ∧ ba < W16.heap.size) := by (have := HZ.out; omega)
                rw [← hWn]; exact HAR.out.keep ((Kept.setCell _ _ _ hno).trans (Kept.setCell _ _ _ hno)) (fun _ _ h => h))
              replace HBR := Lib.hid (show IsArr W20 (fun b => W18.heap.size ≤ b ∧ b < W19.heap.size) (.slice soB B.1.length scB) uB B by
                have hno : ¬ (W18.heap.size ≤ ba ∧ ba < W19.heap.size) := by (have := HZ.out; omega)
                rw [← hWn]; exact HBR.out.keep ((Kept.setCell _ _ _ hno).trans (Kept.setCell _ _ _ hno)) (fun _ _ h => h))
              replace HW0 := Lib.hid (show Below w0.heap.size w0 W20 by rw [← hWn]; exact ((HW0.out.setCell (by show w0.heap.size ≤ ba; exact HG0.out) _).setCell (by show w0.heap.size ≤ ba; exact HG0.out) _))
              clear hWn HNE
              refine hK.out _ _ ?_ (fun hHeld => ?_)
              · exact HHL.out _ HW0.out
              clear hK K
              refine wpAnyH_ready (rs := [7]) (by kernel_rfl) (by simp) ?_
              refine AllReadyH.cons (o := _) rfl (fun K hK => ?_) ?_
              · clear hHeld
                have s0 := HVB.out.2.1
                have s1 := HVB.out.2.2.1
                have t0 := HVB.out.2.2.2 0
                have t1 := HVB.out.2.2.2 1
                go_simp
                clear s0 t0 s1 t1
                obtain ⟨W21, hWn⟩ : ∃ xw9, ((W20.setCell ⟨bb, 0, none⟩ (.slice soB B.1.length scB)).setCell ⟨bb, 1, none⟩ (uB)) = xw9 := ⟨_, rfl⟩
                rw [hWn]
                have HNE := Lib.hid (show ba ≠ bb by (have := HZ.out; omega))
                replace HVB := Lib.hid (show At2 W21 bb (.slice soB B.1.length scB) (uB) by rw [← hWn]; exact At2.put2 HVB.out _ _)
                replace HVA := Lib.hid (show At2 W21 ba (.slice soA A.1.length scA) (uA) by rw [← hWn]; exact ((HVA.out.grown (grown_setCell _ ⟨bb, 0, none⟩ _) (by simpa using HNE.out)).grown (grown_setCell _ ⟨bb, 1, none⟩ _) (by simpa using HNE.out)))
                replace HAR := Lib.hid (show IsArr W21 (fun b => W15.heap.size ≤ b ∧ b < W16.heap.size) (.slice soA A.1.length scA) uA A by
                  have hno : ¬ (W15.heap.size ≤ bb ∧ bb < W16.heap.size) := by (have := HZ.out; omega)
                  rw [← hWn]; exact HAR.out.keep ((Kept.setCell _ _ _ hno).trans (Kept.setCell _ _ _ hno)) (fun _ _ h => h))
                replace HBR := Lib.hid (show IsArr W21 (fun b => W18.heap.size ≤ b ∧ b < W19.heap.size) (.slice soB B.1.length scB) uB B by
                  have hno : ¬ (W18.heap.size ≤ bb ∧ bb < W19.heap.size) := by (have := HZ.out; omega)
                  rw [← hWn]; exact HBR.out.keep ((Kept.setCell _ _ _ hno).trans (Kept.setCell _ _ _ hno)) (fun _ _ h => h))
                replace HW0 := Lib.hid (show Below w0.heap.size w0 W21 by rw [← hWn]; exact ((HW0.out.setCell (by show w0.heap.size ≤ bb; exact HG1.out) _).setCell (by show w0.heap.size ≤ bb; exact HG1.out) _))
                clear hWn HNE
                refine hK.out _ _ ?_ (fun hHeld => ?_)
                · exact HHL.out _ HW0.out
                clear hK K
                refine wpAnyH_done (by kernel_rfl) ?_ _
                clear hHeld
                exact ⟨rfl, ba, bb, soA, soB, scA, scB, uA, uB, rfl, HVA.out, HVB.out, HAR.out.wide (fun _ _ _ => trivial), HBR.out.wide (fun _ _ _ => trivial), HW0.out⟩
              exact AllReadyH.nil
            exact AllReadyH.nil
          exact AllReadyH.nil
        exact AllReadyH.nil
      refine AllReadyH.cons (o := _) rfl (fun K hK => ?_) ?_
      · clear hHeld
        go_simp
        obtain ⟨W17, hWn⟩ : ∃ xw9, W16.alloc (.cells #[.slice none 0 0, .nilIface] 32) = xw9 := ⟨_, rfl⟩
        have hB : Below W16.heap.size W16 W17 := by rw [← hWn]; exact below_new _ _
        have hNB : At2 W17 W16.heap.size (.slice none 0 0) (.nilIface) := by rw [← hWn]; exact At2.new _ _ _ _
        rw [hWn]
        clear hWn
        obtain ⟨bb, hnm⟩ : ∃ x, W16.heap.size = x := ⟨_, rfl⟩
        rw [hnm] at hNB ⊢
        replace HZ := Lib.hid (And.intro HZ.out (And.intro hnm hNB.1))
        replace HW0 := Lib.hid (HW0.out.trans (hB.mono HW0.out.size))
        replace HAR := Lib.hid (HAR.out.grow hB)
        have HVB := Lib.hid hNB
        clear hNB hB hnm
        have HG1 := Lib.hid (show w0.heap.size ≤ bb by (have := HZ.out; omega))
        replace HZ := Lib.hid (And.intro HZ.out HG1.out)
        refine hK.out _ _ ?_ (fun hHeld => ?_)
        · exact HHL.out _ HW0.out
        clear hK K
        refine wpAnyH_ready (rs := [3, 4]) (by kernel_rfl) (by simp) ?_
        refine AllReadyH.cons (o := _) rfl (fun K hK => ?_) ?_
        · clear hHeld
          go_simp
          refine (lof_calls _ q _ m _ HL.out.2 (HI2.out.grow HW0.out) (fun j hj => keep_below HW0.out _ _ (HT.out j hj)) HCQ.out).mono ?_
          rintro e W18 ⟨soB, scB, uB, rfl, hBB, hB⟩
          replace HZ := Lib.hid (And.intro HZ.out hB.size)
          replace HW0 := Lib.hid (HW0.out.trans (hB.mono HW0.out.size))
          replace HAR := Lib.hid (HAR.out.grow hB)
          replace HVB := Lib.hid (HVB.out.below hB)
          rw [← HAE.out.2] at hBB ⊢
          have HBR := Lib.hid (show IsArr W18 (fun b => W17.heap.size ≤ b ∧ b < W18.heap.size) (.slice soB B.1.length scB) uB B from hBB.wide (fun b h1 h2 => ⟨h2, h1⟩))
          have hsB := hBB.2.store
          clear hBB
          clear hB
          try go_simp
          refine hK.out _ _ ?_ (fun hHeld => ?_)
          · exact HHL.out _ HW0.out
          clear hK K
          refine wpAnyH_ready (rs := [4]) (by kernel_rfl) (by simp) ?_
          refine AllReadyH.cons (o := _) rfl (fun K hK => ?_) ?_
          · clear hHeld
            go_simp
            obtain ⟨W19, hWn⟩ : ∃ xw9, W18.alloc (.cells #[.slice none 0 0, .nilIface] 32) = xw9 := ⟨_, rfl⟩
            have hB : Below W18.heap.size W18 W19 := by rw [← hWn]; exact below_new _ _
            have hNB : At2 W19 W18.heap.size (.slice none 0 0) (.nilIface) := by rw [← hWn]; exact At2.new _ _ _ _
            rw [hWn]
            clear hWn
            obtain ⟨ba, hnm⟩ : ∃ x, W18.heap.size = x := ⟨_, rfl⟩
            rw [hnm] at hNB ⊢
            replace HZ := Lib.hid (And.intro HZ.out (And.intro hnm hNB.1))
            replace HW0 := Lib.hid (HW0.out.trans (hB.mono HW0.out.size))
            replace HAR := Lib.hid (HAR.out.grow hB)
            replace HVB := Lib.hid (HVB.out.below hB)
            replace HBR := Lib.hid (HBR.out.grow hB)
            have HVA := Lib.hid hNB
            clear hNB hB hnm
            have HG0 := Lib.hid (show w0.heap.size ≤ ba by (have := HZ.out; omega))
            replace HZ := Lib.hid (And.intro HZ.out HG0.out)
            refine hK.out _ _ ?_ (fun hHeld => ?_)
            · exact HHL.out _ HW0.out
            clear hK K
            refine wpAnyH_ready (rs := [6]) (by kernel_rfl) (by simp) ?_
            refine AllReadyH.cons (o := _) rfl (fun K hK => ?_) ?_
            · clear hHeld
              have s0 := HVA.out.2.1
              have s1 := HVA.out.2.2.1
              have t0 := HVA.out.2.2.2 0
              have t1 := HVA.out.2.2.2 1
              go_simp
              clear s0 t0 s1 t1
              obtain ⟨W20, hWn⟩ : ∃ xw9, ((W19.setCell ⟨ba, 0, none⟩ (.slice soA A.1.length scA)).setCell ⟨ba, 1, none⟩ (uA)) = xw9 := ⟨_, rfl⟩
              rw [hWn]
              have HNE := Lib.hid (show bb ≠ ba by (have := HZ.out; omega))
              replace HVA := Lib.hid (show At2 W20 ba (.slice soA A.1.length scA) (uA) by rw [← hWn]; exact At2.put2 HVA.out _ _)
              replace HVB := Lib.hid (show At2 W20 bb (.slice none 0 0) (.nilIface) by rw [← hWn]; exact ((HVB.out.grown (grown_setCell _ ⟨ba, 0, none⟩ _) (by simpa using HNE.out)).grown (grown_setCell _ ⟨ba, 1, none⟩ _) (by simpa using HNE.out)))
              replace HAR := Lib.hid (show IsArr W20 (fun b => W15.heap.size ≤ b ∧ b < W16.heap.size) (.slice soA A.1.length scA) uA A by
                have hno : ¬ (W15.heap.size ≤ ba ∧ ba < W16.heap.size) := by (have := HZ.out; omega)
                rw [← hWn]; exact HAR.out.keep ((Kept.setCell _ _ _ hno).trans (Kept.setCell _ _ _ hno)) (fun _ _ h => h))
              replace HBR := Lib.hid (show IsArr W20 (fun b => W17.heap.size ≤ b ∧ b < W18.heap.size) (.slice soB B.1.length scB) uB B by
                have hno : ¬ (W17.heap.size ≤ ba ∧ ba < W18.heap.size) := by (have := HZ.out; omega)
                rw [← hWn]; exact HBR.out.keep ((Kept.setCell _ _ _ hno).trans (Kept.setCell _ _ _ hno)) (fun _ _ h => h))
              replace HW0 := Lib.hid (show Below w0.heap.size w0 W20 by rw [← hWn]; exact ((HW0.out.setCell (by show w0.heap.size ≤ ba; exact HG0.out) _).setCell (by show w0.heap.size ≤ ba; exact HG0.out) _))
              clear hWn HNE
              refine hK.out _ _ ?_ (fun hHeld => ?_)
              · exact HHL.out _ HW0.out
              clear hK K
              refine wpAnyH_ready (rs := [7]) (by kernel_rfl) (by simp) ?_
              refine AllReadyH.cons (o := _) rfl (fun K hK => ?_) ?_
              · clear hHeld
                have s0 := HVB.out.2.1
                have s1 := HVB.out.2.2.1
                have t0 := HVB.out.2.2.2 0
                have t1 := HVB.out.2.2.2 1
                go_simp
                clear s0 t0 s1 t1
                obtain ⟨W21, hWn⟩ : ∃ xw9, ((W20.setCell ⟨bb, 0, none⟩ (.slice soB B.1.length scB)).setCell ⟨bb, 1, none⟩ (uB)) = xw9 := ⟨_, rfl⟩
                rw [hWn]
                have HNE := Lib.hid (show ba ≠ bb by (have := HZ.out; omega))
                replace HVB := Lib.hid (show At2 W21 bb (.slice soB B.1.length scB) (uB) by rw [← hWn]; exact At2.put2 HVB.out _ _)
                replace HVA := Lib.hid (show At2 W21 ba (.slice soA A.1.length scA) (uA) by rw [← hWn]; exact ((HVA.out.grown (grown_setCell _ ⟨bb, 0, none⟩ _) (by simpa using HNE.out)).grown (grown_setCell _ ⟨bb, 1, none⟩ _) (by simpa using HNE.out)))
                replace HAR := Lib.hid (show IsArr W21 (fun b => W15.heap.size ≤ b ∧ b < W16.heap.size) (.slice soA A.1.length scA) uA A by
                  have hno : ¬ (W15.heap.size ≤ bb ∧ bb < W16.heap.size) := by (have := HZ.out; omega)
                  rw [← hWn]; exact HAR.out.keep ((Kept.setCell _ _ _ hno).trans (Kept.setCell _ _ _ hno)) (fun _ _ h => h))
                replace HBR := Lib.hid (show IsArr W21 (fun b => W17.heap.size ≤ b ∧ b < W18.heap.size) (.slice soB B.1.length scB) uB B by
                  have hno : ¬ (W17.heap.size ≤ bb ∧ bb < W18.heap.size) := by (have := HZ.out; omega)
                  rw [← hWn]; exact HBR.out.keep ((Kept.setCell _ _ _ hno).trans (Kept.setCell _ _ _ hno)) (fun _ _ h => h))
                replace HW0 := Lib.hid (show Below w0.heap.size w0 W21 by rw [← hWn]; exact ((HW0.out.setCell (by show w0.heap.size ≤ bb; exact HG1.out) _).setCell (by show w0.heap.size ≤ bb; exact HG1.out) _))
                clear hWn HNE
                refine hK.out _ _ ?_ (fun hHeld => ?_)
                · exact HHL.out _ HW0.out
                clear hK K
                refine wpAnyH_done (by kernel_rfl) ?_ _
                clear hHeld
                exact ⟨rfl, ba, bb, soA, soB, scA, scB, uA, uB, rfl, HVA.out, HVB.out, HAR.out.wide (fun _ _ _ => trivial), HBR.out.wide (fun _ _ _ => trivial), HW0.out⟩
              exact AllReadyH.nil
            exact AllReadyH.nil
          exact AllReadyH.nil
        refine AllReadyH.cons (o := _) rfl (fun K hK => ?_) ?_
        · clear hHeld
          go_simp
          obtain ⟨W18, hWn⟩ : ∃ xw9, W17.alloc (.cells #[.slice none 0 0, .nilIface] 32) = xw9 := ⟨_, rfl⟩
          have hB : Below W17.heap.size W17 W18 := by rw [← hWn]; exact below_new _ _
          have hNB : At2 W18 W17.heap.size (.slice none 0 0) (.nilIface) := by rw [← hWn]; exact At2.new _ _ _ _
          rw [hWn]
          clear hWn
          obtain ⟨ba, hnm⟩ : ∃ x, W17.heap.size = x := ⟨_, rfl⟩
          rw [hnm] at hNB ⊢
          replace HZ := Lib.hid (And.intro HZ.out (And.intro hnm hNB.1))
          replace HW0 := Lib.hid (HW0.out.trans (hB.mono HW0.out.size))
          replace HAR := Lib.hid (HAR.out.grow hB)
          replace HVB := Lib.hid (HVB.out.below hB)
          have HVA := Lib.hid hNB
          clear hNB hB hnm
          have HG0 := Lib.hid (show w0.heap.size ≤ ba by (have := HZ.out; omega))
          replace HZ := Lib.hid (And.intro HZ.out HG0.out)
          refine hK.out _ _ ?_ (fun hHeld => ?_)
          · exact HHL.out _ HW0.out
          clear hK K
          refine wpAnyH_ready (rs := [3]) (by kernel_rfl) (by simp) ?_
          refine AllReadyH.cons (o := _) rfl (fun K hK => ?_) ?_
          · clear hHeld
            go_simp
            refine (lof_calls _ q _ m _ HL.out.2 (HI2.out.grow HW0.out) (fun j hj => keep_below HW0.out _ _ (HT.out j hj)) HCQ.out).mono ?_
            rintro e W19 ⟨soB, scB, uB, rfl, hBB, hB⟩
            replace HZ := Lib.hid (And.intro HZ.out hB.size)
            replace HW0 := Lib.hid (HW0.out.trans (hB.mono HW0.out.size))
            replace HAR := Lib.hid (HAR.out.grow hB)
            replace HVB := Lib.hid (HVB.out.below hB)
            replace HVA := Lib.hid (HVA.out.below hB)
            rw [← HAE.out.2] at hBB ⊢
            have HBR := Lib.hid (show IsArr W19 (fun b => W18.heap.size ≤ b ∧ b < W19.heap.size) (.slice soB B.1.length scB) uB B from hBB.wide (fun b h1 h2 => ⟨h2, h1⟩))
            have hsB := hBB.2.store
            clear hBB
            clear hB
            try go_simp
            refine hK.out _ _ ?_ (fun hHeld => ?_)
            · exact HHL.out _ HW0.out
            clear hK K
            refine wpAnyH_ready (rs := [6]) (by kernel_rfl) (by simp) ?_
            refine AllReadyH.cons (o := _) rfl (fun K hK => ?_) ?_
            · clear hHeld
              have s0 := HVA.out.2.1
              have s1 := HVA.out.2.2.1
              have t0 := HVA.out.2.2.2 0
              have t1 := HVA.out.2.2.2 1
              go_simp
              clear s0 t0 s1 t1
              obtain ⟨W20, hWn⟩ : ∃ xw9, ((W19.setCell ⟨ba, 0, none⟩ (.slice soA A.1.length scA)).setCell ⟨ba, 1, none⟩ (uA)) = xw9 := ⟨_, rfl⟩
              rw [hWn]
              have HNE := Lib.hid (show bb ≠ ba by (have := HZ.out; omega))
              replace HVA := Lib.hid (show At2 W20 ba (.slice soA A.1.length scA) (uA) by rw [← hWn]; exact At2.put2 HVA.out _ _)
              replace HVB := Lib.hid (show At2 W20 bb (.slice none 0 0) (.nilIface) by rw [← hWn]; exact ((HVB.out.grown (grown_setCell _ ⟨ba, 0, none⟩ _) (by simpa using HNE.out)).grown (grown_setCell _ ⟨ba, 1, none⟩ _) (by simpa using HNE.out)))
              replace HAR := Lib.hid (show IsArr W20 (fun b => W15.heap.size ≤ b ∧ b < W16.heap.size) (.slice soA A.1.length scA) uA A by
                have hno : ¬ (W15.heap.size ≤ ba ∧ ba < W16.heap.size) := by (have := HZ.out; omega)
                rw [← hWn]; exact HAR.out.keep ((Kept.setCell _ _ _ hno).trans (Kept.setCell _ _ _ hno)) (fun _ _ h => h))
              replace HBR := Lib.hid (show IsArr W20 (fun b => W18.heap.size ≤ b ∧ b < W19.heap.size) (.slice soB B.1.length scB) uB B by
                have hno : ¬ (W18.heap.size ≤ ba ∧ ba < W19.heap.size) := by (have := HZ.out; omega)
                rw [← hWn]; exact HBR.out.keep ((Kept.setCell _ _ _ hno).trans (Kept.setCell _ _ _ hno)) (fun _ _ h => h))
              replace HW0 := Lib.hid (show Below w0.heap.size w0 W20 by rw [← hWn]; exact ((HW0.out.setCell (by show w0.heap.size ≤ ba; exact HG0.out) _).setCell (by show w0.heap.size ≤ ba; exact HG0.out) _))
              clear hWn HNE
              refine hK.out _ _ ?_ (fun hHeld => ?_)
              · exact HHL.out _ HW0.out
              clear hK K
              refine wpAnyH_ready (rs := [7]) (by kernel_rfl) (by simp) ?_
              refine AllReadyH.cons (o := _) rfl (fun K hK => ?_) ?_
              · clear hHeld
                have s0 := HVB.out.2.1
                have s1 := HVB.out.2.2.1
                have t0 := HVB.out.2.2.2 0
                have t1 := HVB.out.2.2.2 1
                go_simp
                clear s0 t0 s1 t1
                obtain ⟨W21, hWn⟩ : ∃ xw9, ((W20.setCell ⟨bb, 0, none⟩ (.slice soB B.1.length scB)).setCell ⟨bb, 1, none⟩ (uB)) = xw9 := ⟨_, rfl⟩
                rw [hWn]
                have HNE := Lib.hid (show ba ≠ bb by (have := HZ.out; omega))
                replace HVB := Lib.hid (show At2 W21 bb (.slice soB B.1.length scB) (uB) by rw [← hWn]; exact At2.put2 HVB.out _ _)
                replace HVA := Lib.hid (show At2 W21 ba (.slice soA A.1.length scA) (uA) by rw [← hWn]; exact ((HVA.out.grown (grown_setCell _ ⟨bb, 0, none⟩ _) (by simpa using HNE.out)).grown (grown_setCell _ ⟨bb, 1, none⟩ _) (by simpa using HNE.out)))
                replace HAR := Lib.hid (show IsArr W21 (fun b => W15.heap.size ≤ b ∧ b < W16.heap.size) (.slice soA A.1.length scA) uA A by
                  have hno : ¬ (W15.heap.size ≤ bb ∧ bb < W16.heap.size) := by (have := HZ.out; omega)
                  rw [← hWn]; exact HAR.out.keep ((Kept.setCell _ _ _ hno).trans (Kept.setCell _ _ _ hno)) (fun _ _ h => h))
                replace HBR := Lib.hid (show IsArr W21 (fun b => W18.heap.size ≤ b ∧ b < W19.heap.size) (.slice soB B.1.length scB) uB B by
                  have hno : ¬ (W18.heap.size ≤ bb ∧ bb < W19.heap.size) := by (have := HZ.out; omega)
                  rw [← hWn]; exact HBR.out.keep ((Kept.setCell _ _ _ hno).trans (Kept.setCell _ _ _ hno)) (fun _ _ h => h))
                replace HW0 := Lib.hid (show Below w0.heap.size w0 W21 by rw [← hWn]; exact ((HW0.out.setCell (by show w0.heap.size ≤ bb; exact HG1.out) _).setCell (by show w0.heap.size ≤ bb; exact HG1.out) _))
                clear hWn HNE
                refine hK.out _ _ ?_ (fun hHeld => ?_)
                · exact HHL.out _ HW0.out
                clear hK K
                refine wpAnyH_done (by kernel_rfl) ?_ _
                clear hHeld
                exact ⟨rfl, ba, bb, soA, soB, scA, scB, uA, uB, rfl, HVA.out, HVB.out, HAR.out.wide (fun _ _ _ => trivial), HBR.out.wide (fun _ _ _ => trivial), HW0.out⟩
              exact AllReadyH.nil
            exact AllReadyH.nil
          exact AllReadyH.nil
        exact AllReadyH.nil
      exact AllReadyH.nil
    refine AllReadyH.cons (o := _) rfl (fun K hK => ?_) ?_
    · clear hHeld
      go_simp
      obtain ⟨W16, hWn⟩ : ∃ xw9, W15.alloc (.cells #[.slice none 0 0, .nilIface] 32) = xw9 := ⟨_, rfl⟩
      have hB : Below W15.heap.size W15 W16 := by rw [← hWn]; exact below_new _ _
      have hNB : At2 W16 W15.heap.size (.slice none 0 0) (.nilIface) := by rw [← hWn]; exact At2.new _ _ _ _
      rw [hWn]
      clear hWn
      obtain ⟨ba, hnm⟩ : ∃ x, W15.heap.size = x := ⟨_, rfl⟩
      rw [hnm] at hNB ⊢
      replace HZ := Lib.hid (And.intro HZ.out (And.intro hnm hNB.1))
      replace HW0 := Lib.hid (HW0.out.trans (hB.mono HW0.out.size))
      have HVA := Lib.hid hNB
      clear hNB hB hnm
      have HG0 := Lib.hid (show w0.heap.size ≤ ba by (have := HZ.out; omega))
      replace HZ := Lib.hid (And.intro HZ.out HG0.out)
      refine hK.out _ _ ?_ (fun hHeld => ?_)
      · exact HHL.out _ HW0.out
      clear hK K
      refine wpAnyH_ready (rs := [1, 5]) (by kernel_rfl) (by simp) ?_
      refine AllReadyH.cons (o := _) rfl (fun K hK => ?_) ?_
      · clear hHeld
        go_simp
        refine (lof_calls _ p _ n _ HL.out.1 (HI.out.grow HW0.out) (fun j hj => keep_below HW0.out _ _ (HT.out j hj)) HCP.out).mono ?_
        rintro e W17 ⟨soA, scA, uA, rfl, hAA, hB⟩
        replace HZ := Lib.hid (And.intro HZ.out hB.size)
        replace HW0 := Lib.hid (HW0.out.trans (hB.mono HW0.out.size))
        replace HVA := Lib.hid (HVA.out.below hB)
        rw [← HAE.out.1] at hAA ⊢
        have HAR := Lib.hid (show IsArr W17 (fun b => W16.heap.size ≤ b ∧ b < W17.heap.size) (.slice soA A.1.length scA) uA A from hAA.wide (fun b h1 h2 => ⟨h2, h1⟩))
        have hsA := hAA.2.store
        clear hAA
        clear hB
        try go_simp
        refine hK.out _ _ ?_ (fun hHeld => ?_)
        · exact HHL.out _ HW0.out
        clear hK K
        refine wpAnyH_ready (rs := [3, 5]) (by kernel_rfl) (by simp) ?_
        refine AllReadyH.cons (o := _) rfl (fun K hK => ?_) ?_
        · clear hHeld
          go_simp
          refine (lof_calls _ q _ m _ HL.out.2 (HI2.out.grow HW0.out) (fun j hj => keep_below HW0.out _ _ (HT.out j hj)) HCQ.out).mono ?_
          rintro e W18 ⟨soB, scB, uB, rfl, hBB, hB⟩
          replace HZ := Lib.hid (And.intro HZ.out hB.size)
          replace HW0 := Lib.hid (HW0.out.trans (hB.mono HW0.out.size))
          replace HVA := Lib.hid (HVA.out.below hB)
          replace HAR := Lib.hid (HAR.out.grow hB)
          rw [← HAE.out.2] at hBB ⊢
          have HBR := Lib.hid (show IsArr W18 (fun b => W17.heap.size ≤ b ∧ b < W18.heap.size) (.slice soB B.1.length scB) uB B from hBB.wide (fun b h1 h2 => ⟨h2, h1⟩))
          have hsB := hBB.2.store
          clear hBB
          clear hB
          try go_simp
          refine hK.out _ _ ?_ (fun hHeld => ?_)
          · exact HHL.out _ HW0.out
          clear hK K
          refine wpAnyH_ready (rs := [5]) (by kernel_rfl) (by simp) ?_
          refine AllReadyH.cons (o := _) rfl (fun K hK => ?_) ?_
          · clear hHeld
            go_simp
            obtain ⟨W19, hWn⟩ : ∃ xw9, W18.alloc (.cells #[.slice none 0 0, .nilIface] 32) = xw9 := ⟨_, rfl⟩
            have hB : Below W18.heap.size W18 W19 := by rw [← hWn]; exact below_new _ _
            have hNB : At2 W19 W18.heap.size (.slice none 0 0) (.nilIface) := by rw [← hWn]; exact At2.new _ _ _ _
            rw [hWn]
            clear hWn
            obtain ⟨bb, hnm⟩ : ∃ x, W18.heap.size = x := ⟨_, rfl⟩
            rw [hnm] at hNB ⊢
            replace HZ := Lib.hid (And.intro HZ.out (And.intro hnm hNB.1))
            replace HW0 := Lib.hid (HW0.out.trans (hB.mono HW0.out.size))
            replace HVA := Lib.hid (HVA.out.below hB)
            replace HAR := Lib.hid (HAR.out.grow hB)
            replace HBR := Lib.hid (HBR.out.grow hB)
            have HVB := Lib.hid hNB
            clear hNB hB hnm
            have HG1 := Lib.hid (show w0.heap.size ≤ bb by (have := HZ.out; omega))
            replace HZ := Lib.hid (And.intro HZ.out HG1.out)
            refine hK.out _ _ ?_ (fun hHeld => ?_)
            · exact HHL.out _ HW0.out
            clear hK K
            refine wpAnyH_ready (rs := [6]) (by kernel_rfl) (by simp) ?_
            refine AllReadyH.cons (o := _) rfl (fun K hK => ?_) ?_
            · clear hHeld
              have s0 := HVA.out.2.1
              have s1 := HVA.out.2.2.1
              have t0 := HVA.out.2.2.2 0
              have t1 := HVA.out.2.2.2 1
              go_simp
              clear s0 t0 s1 t1
              obtain ⟨W20, hWn⟩ : ∃ xw9, ((W19.setCell ⟨ba, 0, none⟩ (.slice soA A.1.length scA)).setCell ⟨ba, 1, none⟩ (uA)) = xw9 := ⟨_, rfl⟩
              rw [hWn]
              have HNE := Lib.hid (show bb ≠ ba by (have := HZ.out; omega))
              replace HVA := Lib.hid (show At2 W20 ba (.slice soA A.1.length scA) (uA) by rw [← hWn]; exact At2.put2 HVA.out _ _)
              replace HVB := Lib.hid (show At2 W20 bb (.slice none 0 0) (.nilIface) by rw [← hWn]; exact ((HVB.out.grown (grown_setCell _ ⟨ba, 0, none⟩ _) (by simpa using HNE.out)).grown (grown_setCell _ ⟨ba, 1, none⟩ _) (by simpa using HNE.out)))
              replace HAR := Lib.hid (show IsArr W20 (fun b => W16.heap.size ≤ b ∧ b < W17.heap.size) (.slice soA A.1.length scA) uA A by
                have hno : ¬ (W16.heap.size ≤ ba ∧ ba < W17.heap.size) := by (have := HZ.out; omega)
                rw [← hWn]; exact HAR.out.keep ((Kept.setCell _ _ _ hno).trans (Kept.setCell _ _ _ hno)) (fun _ _ h => h))
              replace HBR := Lib.hid (show IsArr W20 (fun b => W17.heap.size ≤ b ∧ b < W18.heap.size) (.slice soB B.1.length scB) uB B by
                have hno : ¬ (W17.heap.size ≤ ba ∧ ba < W18.heap.size) := by (have := HZ.out; omega)
                rw [← hWn]; exact HBR.out.keep ((Kept.setCell _ _ _ hno).trans (Kept.setCell _ _ _ hno)) (fun _ _ h => h))
              replace HW0 := Lib.hid (show Below w0.heap.size w0 W20 by rw [← hWn]; exact ((HW0.out.setCell (by show w0.heap.size ≤ ba; exact HG0.out) _).setCell (by show w0.heap.size ≤ ba; exact HG0.out) _))
              clear hWn HNE
              refine hK.out _ _ ?_ (fun hHeld => ?_)
              · exact HHL.out _ HW0.out
              clear hK K
              refine wpAnyH_ready (rs := [7]) (by kernel_rfl) (by simp) ?_
              refine AllReadyH.cons (o := _) rfl (fun K hK => ?_) ?_
              · clear hHeld
                have s0 := HVB.out.2.1
                have s1 := HVB.out.2.2.1
                have t0 := HVB.out.2.2.2 0
                have t1 := HVB.out.2.2.2 1
                go_simp
                clear s0 t0 s1 t1
                obtain ⟨W21, hWn⟩ : ∃ xw9, ((W20.setCell ⟨bb, 0, none⟩ (.slice soB B.1.length scB)).setCell ⟨bb, 1, none⟩ (uB)) = xw9 := ⟨_, rfl⟩
                rw [hWn]
                have HNE := Lib.hid (show ba ≠ bb by (have := HZ.out; omega))
                replace HVB := Lib.hid (show At2 W21 bb (.slice soB B.1.length scB) (uB) by rw [← hWn]; exact At2.put2 HVB.out _ _)
                replace HVA := Lib.hid (show At2 W21 ba (.slice soA A.1.length scA) (uA) by rw [← hWn]; exact ((HVA.out.grown (grown_setCell _ ⟨bb, 0, none⟩ _) (by simpa using HNE.out)).grown (grown_setCell _ ⟨bb, 1, none⟩ _) (by simpa using HNE.out)))
                replace HAR := Lib.hid (show IsArr W21 (fun b => W16.heap.size ≤ b ∧ b < W17.heap.size) (.slice soA A.1.length scA) uA A by
                  have hno : ¬ (W16.heap.size ≤ bb ∧ bb < W17.heap.size) := by (have := HZ.out; omega)
                  rw [← hWn]; exact HAR.out.keep ((Kept.setCell _ _ _ hno).trans (Kept.setCell _ _ _ hno)) (fun _ _ h => h))
                replace HBR := Lib.hid (show IsArr W21 (fun b => W17.heap.size ≤ b ∧ b < W18.heap.size) (.slice soB B.1.length scB) uB B by
                  have hno : ¬ (W17.heap.size ≤ bb ∧ bb < W18.heap.size) := by (have := HZ.out; omega)
                  rw [← hWn]; exact HBR.out.keep ((Kept.setCell _ _ _ hno).trans (Kept.setCell _ _ _ hno)) (fun _ _ h => h))
                replace HW0 := Lib.hid (show Below w0.heap.size w0 W21 by rw [← hWn]; exact ((HW0.out.setCell (by show w0.heap.size ≤ bb; exact HG1.out) _).setCell (by show w0.heap.size ≤ bb; exact HG1.out) _))
                clear hWn HNE
                refine hK.out _ _ ?_ (fun hHeld => ?_)
                · exact HHL.out _ HW0.out
                clear hK K
                refine wpAnyH_done (by kernel_rfl) ?_ _
                clear hHeld
                exact ⟨rfl, ba, bb, soA, soB, scA, scB, uA, uB, rfl, HVA.out, HVB.out, HAR.out.wide (fun _ _ _ => trivial), HBR.out.wide (fun _ _ _ => trivial), HW0.out⟩
              exact AllReadyH.nil
            exact AllReadyH.nil
          exact AllReadyH.nil
        refine AllReadyH.cons (o := _) rfl (fun K hK => ?_) ?_
        · clear hHeld
          go_simp
          obtain ⟨W18, hWn⟩ : ∃ xw9, W17.alloc (.cells #[.slice none 0 0, .nilIface] 32) = xw9 := ⟨_, rfl⟩
          have hB : Below W17.heap.size W17 W18 := by rw [← hWn]; exact below_new _ _
          have hNB : At2 W18 W17.heap.size (.slice none 0 0) (.nilIface) := by rw [← hWn]; exact At2.new _ _ _ _
          rw [hWn]
          clear hWn
          obtain ⟨bb, hnm⟩ : ∃ x, W17.heap.size = x := ⟨_, rfl⟩
          rw [hnm] at hNB ⊢
          replace HZ := Lib.hid (And.intro HZ.out (And.intro hnm hNB.1))
          replace HW0 := Lib.hid (HW0.out.trans (hB.mono HW0.out.size))
          replace HVA := Lib.hid (HVA.out.below hB)
          replace HAR := Lib.hid (HAR.out.grow hB)
          have HVB := Lib.hid hNB
          clear hNB hB hnm
          have HG1 := Lib.hid (show w0.heap.size ≤ bb by (have := HZ.out; omega))
          replace HZ := Lib.hid (And.intro HZ.out HG1.out)
          refine hK.out _ _ ?_ (fun hHeld => ?_)
          · exact HHL.out _ HW0.out
          clear hK K
          refine wpAnyH_ready (rs := [3]) (by kernel_rfl) (by simp) ?_
          refine AllReadyH.cons (o := _) rfl (fun K hK => ?_) ?_
          · clear hHeld
            go_simp
            refine (lof_calls _ q _ m _ HL.out.2 (HI2.out.grow HW0.out) (fun j hj => keep_below HW0.out _ _ (HT.out j hj)) HCQ.out).mono ?_
            rintro e W19 ⟨soB, scB, uB, rfl, hBB, hB⟩
            replace HZ := Lib.hid (And.intro HZ.out hB.size)
            replace HW0 := Lib.hid (HW0.out.trans (hB.mono HW0.out.size))
            replace HVA := Lib.hid (HVA.out.below hB)
            replace HAR := Lib.hid (HAR.out.grow hB)
            replace HVB := Lib.hid (HVB.out.below hB)
            rw [← HAE.out.2] at hBB ⊢
            have HBR := Lib.hid (show IsArr W19 (fun b => W18.heap.size ≤ b ∧ b < W19.heap.size) (.slice soB B.1.length scB) uB B from hBB.wide (fun b h1 h2 => ⟨h2, h1⟩))
            have hsB := hBB.2.store
            clear hBB
            clear hB
            try go_simp
            refine hK.out _ _ ?_ (fun hHeld => ?_)
            · exact HHL.out _ HW0.out
            clear hK K
            refine wpAnyH_ready (rs := [6]) (by kernel_rfl) (by simp) ?_
            refine AllReadyH.cons (o := _) rfl (fun K hK => ?_) ?_
            · clear hHeld
              have s0 := HVA.out.2.1
              have s1 := HVA.out.2.2.1
              have t0 := HVA.out.2.2.2 0
              have t1 := HVA.out.2.2.2 1
              go_simp
              clear s0 t0 s1 t1
              obtain ⟨W20, hWn⟩ : ∃ xw9, ((W19.setCell ⟨ba, 0, none⟩ (.slice soA A.1.length scA)).setCell ⟨ba, 1, none⟩ (uA)) = xw9 := ⟨_, rfl⟩
              rw [hWn]
              have HNE := Lib.hid (show bb ≠ ba by (have := HZ.out; omega))
              replace HVA := Lib.hid (show At2 W20 ba (.slice soA A.1.length scA) (uA) by rw [← hWn]; exact At2.put2 HVA.out _ _)
              replace HVB := Lib.hid (show At2 W20 bb (.slice none 0 0) (.nilIface) by rw [← hWn]; exact ((HVB.out.grown (grown_setCell _ ⟨ba, 0, none⟩ _) (by simpa using HNE.out)).grown (grown_setCell _ ⟨ba, 1, none⟩ _) (by simpa using HNE.out)))
              replace HAR := Lib.hid (show IsArr W20 (fun b => W16.heap.size ≤ b ∧ b < W17.heap.size) (.slice soA A.1.length scA) uA A by
                have hno : ¬ (W16.heap.size ≤ ba ∧ ba < W17.heap.size) := by (have := HZ.out; omega)
                rw [← hWn]; exact HAR.out.keep ((Kept.setCell _ _ _ hno).trans (Kept.setCell _ _ _ hno)) (fun _ _ h => h))
              replace HBR := Lib.hid (show IsArr W20 (fun b => W18.heap.size ≤ b ∧ b < W19.heap.size) (.slice soB B.1.length scB) uB B by
                have hno : ¬ (W18.heap.size ≤ ba ∧ ba < W19.heap.size) := by (have := HZ.out; omega)
                rw [← hWn]; exact HBR.out.keep ((Kept.setCell _ _ _ hno).trans (Kept.setCell _ _ _ hno)) (fun _ _ h => h))
              replace HW0 := Lib.hid (show Below w0.heap.size w0 W20 by rw [← hWn]; exact ((HW0.out.setCell (by show w0.heap.size ≤ ba; exact HG0.out) _).setCell (by show w0.heap.size ≤ ba; exact HG0.out) _))
              clear hWn HNE
              refine hK.out _ _ ?_ (fun hHeld => ?_)
              · exact HHL.out _ HW0.out
              clear hK K
              refine wpAnyH_ready (rs := [7]) (by kernel_rfl) (by simp) ?_
              refine AllReadyH.cons (o := _) rfl (fun K hK => ?_) ?_
              · clear hHeld
                have s0 := HVB.out.2.1
                have s1 := HVB.out.2.2.1
                have t0 := HVB.out.2.2.2 0
                have t1 := HVB.out.2.2.2 1
                go_simp
                clear s0 t0 s1 t1
                obtain ⟨W21, hWn⟩ : ∃ xw9, ((W20.setCell ⟨bb, 0, none⟩ (.slice soB B.1.length scB)).setCell ⟨bb, 1, none⟩ (uB)) = xw9 := ⟨_, rfl⟩
                rw [hWn]
                have HNE := Lib.hid (show ba ≠ bb by (have := HZ.out; omega))
                replace HVB := Lib.hid (show At2 W21 bb (.slice soB B.1.length scB) (uB) by rw [← hWn]; exact At2.put2 HVB.out _ _)
                replace HVA := Lib.hid (show At2 W21 ba (.slice soA A.1.length scA) (uA) by rw [← hWn]; exact ((HVA.out.grown (grown_setCell _ ⟨bb, 0, none⟩ _) (by simpa using HNE.out)).grown (grown_setCell _ ⟨bb, 1, none⟩ _) (by simpa using HNE.out)))
                replace HAR := Lib.hid (show IsArr W21 (fun b => W16.heap.size ≤ b ∧ b < W17.heap.size) (.slice soA A.1.length scA) uA A by
                  have hno : ¬ (W16.heap.size ≤ bb ∧ bb < W17.heap.size) := by (have := HZ.out; omega)
                  rw [← hWn]; exact HAR.out.keep ((Kept.setCell _ _ _ hno).trans (Kept.setCell _ _ _ hno)) (fun _ _ h => h))
                replace HBR := Lib.hid (show IsArr W21 (fun b => W18.heap.size ≤ b ∧ b < W19.heap.size) (.slice soB B.1.length scB) uB B by
                  have hno : ¬ (W18.heap.size ≤ bb ∧ bb < W19.heap.size) := by (have := HZ.out; omega)
                  rw [← hWn]; exact HBR.out.keep ((Kept.setCell _ _ _ hno).trans (Kept.setCell _ _ _ hno)) (fun _ _ h => h))
                replace HW0 := Lib.hid (show Below w0.heap.size w0 W21 by rw [← hWn]; exact ((HW0.out.setCell (by show w0.heap.size ≤ bb; exact HG1.out) _).setCell (by show w0.heap.size ≤ bb; exact HG1.out) _))
                clear hWn HNE
                refine hK.out _ _ ?_ (fun hHeld => ?_)
                · exact HHL.out _ HW0.out
                clear hK K
                refine wpAnyH_done (by kernel_rfl) ?_ _
                clear hHeld
                exact ⟨rfl, ba, bb, soA, soB, scA, scB, uA, uB, rfl, HVA.out, HVB.out, HAR.out.wide (fun _ _ _ => trivial), HBR.out.wide (fun _ _ _ => trivial), HW0.out⟩
              exact AllReadyH.nil
            exact AllReadyH.nil
          exact AllReadyH.nil
        exact AllReadyH.nil
      refine AllReadyH.cons (o := _) rfl (fun K hK => ?_) ?_
      · clear hHeld
        go_simp
        obtain ⟨W17, hWn⟩ : ∃ xw9, W16.alloc (.cells #[.slice none 0 0, .nilIface] 32) = xw9 := ⟨_, rfl⟩
        have hB : Below W16.heap.size W16 W17 := by rw [← hWn]; exact below_new _ _
        have hNB : At2 W17 W16.heap.size (.slice none 0 0) (.nilIface) := by rw [← hWn]; exact At2.new _ _ _ _
        rw [hWn]
        clear hWn
        obtain ⟨bb, hnm⟩ : ∃ x, W16.heap.size = x := ⟨_, rfl⟩
        rw [hnm] at hNB ⊢
        replace HZ := Lib.hid (And.intro HZ.out (And.intro hnm hNB.1))
        replace HW0 := Lib.hid (HW0.out.trans (hB.mono HW0.out.size))
        replace HVA := Lib.hid (HVA.out.below hB)
        have HVB := Lib.hid hNB
        clear hNB hB hnm
        have HG1 := Lib.hid (show w0.heap.size ≤ bb by (have := HZ.out; omega))
        replace HZ := Lib.hid (And.intro HZ.out HG1.out)
        refine hK.out _ _ ?_ (fun hHeld => ?_)
        · exact HHL.out _ HW0.out
        clear hK K
        refine wpAnyH_ready (rs := [1]) (by kernel_rfl) (by simp) ?_
        refine AllReadyH.cons (o := _) rfl (fun K hK => ?_) ?_
        · clear hHeld
          go_simp
          refine (lof_calls _ p _ n _ HL.out.1 (HI.out.grow HW0.out) (fun j hj => keep_below HW0.out _ _ (HT.out j hj)) HCP.out).mono ?_
          rintro e W18 ⟨soA, scA, uA, rfl, hAA, hB⟩
          replace HZ := Lib.hid (And.intro HZ.out hB.size)
          replace HW0 := Lib.hid (HW0.out.trans (hB.mono HW0.out.size))
          replace HVA := Lib.hid (HVA.out.below hB)
          replace HVB := Lib.hid (HVB.out.below hB)
          rw [← HAE.out.1] at hAA ⊢
          have HAR := Lib.hid (show IsArr W18 (fun b => W17.heap.size ≤ b ∧ b < W18.heap.size) (.slice soA A.1.length scA) uA A from hAA.wide (fun b h1 h2 => ⟨h2, h1⟩))
          have hsA := hAA.2.store
          clear hAA
          clear hB
          try go_simp
          refine hK.out _ _ ?_ (fun hHeld => ?_)
          · exact HHL.out _ HW0.out
          clear hK K
          refine wpAnyH_ready (rs := [3]) (by kernel_rfl) (by simp) ?_
          refine AllReadyH.cons (o := _) rfl (fun K hK => ?_) ?_
          · clear hHeld
            go_simp
            refine (lof_calls _ q _ m _ HL.out.2 (HI2.out.grow HW0.out) (fun j hj => keep_below HW0.out _ _ (HT.out j hj)) HCQ.out).mono ?_
            rintro e W19 ⟨soB, scB, uB, rfl, hBB, hB⟩
            replace HZ := Lib.hid (And.intro HZ.out hB.size)
            replace HW0 := Lib.hid (HW0.out.trans (hB.mono HW0.out.size))
            replace HVA := Lib.hid (HVA.out.below hB)
            replace HVB := Lib.hid (HVB.out.below hB)
            replace HAR := Lib.hid (HAR.out.grow hB)
            rw [← HAE.out.2] at hBB ⊢
            have HBR := Lib.hid (show IsArr W19 (fun b => W18.heap.size ≤ b ∧ b < W19.heap.size) (.slice soB B.1.length scB) uB B from hBB.wide (fun b h1 h2 => ⟨h2, h1⟩))
            have hsB := hBB.2.store
            clear hBB
            clear hB
            try go_simp
            refine hK.out _ _ ?_ (fun hHeld => ?_)
            · exact HHL.out _ HW0.out
            clear hK K
            refine wpAnyH_ready (rs := [6]) (by kernel_rfl) (by simp) ?_
            refine AllReadyH.cons (o := _) rfl (fun K hK => ?_) ?_
            · clear hHeld
              have s0 := HVA.out.2.1
              have s1 := HVA.out.2.2.1
              have t0 := HVA.out.2.2.2 0
              have t1 := HVA.out.2.2.2 1
              go_simp
              clear s0 t0 s1 t1
              obtain ⟨W20, hWn⟩ : ∃ xw9, ((W19.setCell ⟨ba, 0, none⟩ (.slice soA A.1.length scA)).setCell ⟨ba, 1, none⟩ (uA)) = xw9 := ⟨_, rfl⟩
              rw [hWn]
              have HNE := Lib.hid (show bb ≠ ba by (have := HZ.out; omega))
              replace HVA := Lib.hid (show At2 W20 ba (.slice soA A.1.length scA) (uA) by rw [← hWn]; exact At2.put2 HVA.out _ _)
              replace HVB := Lib.hid (show At2 W20 bb (.slice none 0 0) (.nilIface) by rw [← hWn]; exact ((HVB.out.grown (grown_setCell _ ⟨ba, 0, none⟩ _) (by simpa using HNE.out)).grown (grown_setCell _ ⟨ba, 1, none⟩ _) (by simpa using HNE.out)))
              replace HAR := Lib.hid (show IsArr W20 (fun b => W17.heap.size ≤ b ∧ b < W18.heap.size) (.slice soA A.1.length scA) uA A by
                have hno : ¬ (W17.heap.size ≤ ba ∧ ba < W18.heap.size) := by (have := HZ.out; omega)
                rw [← hWn]; exact HAR.out.keep ((Kept.setCell _ _ _ hno).trans (Kept.setCell _ _ _ hno)) (fun _ _ h => h))
              replace HBR := Lib.hid (show IsArr W20 (fun b => W18.heap.size ≤ b ∧ b < W19.heap.size) (.slice soB B.1.length scB) uB B by
                have hno : ¬ (W18.heap.size ≤ ba ∧ ba < W19.heap.size) := by (have := HZ.out; omega)
                rw [← hWn]; exact HBR.out.keep ((Kept.setCell _ _ _ hno).trans (Kept.setCell _ _ _ hno)) (fun _ _ h => h))
              replace HW0 := Lib.hid (show Below w0.heap.size w0 W20 by rw [← hWn]; exact ((HW0.out.setCell (by show w0.heap.size ≤ ba; exact HG0.out) _).setCell (by show w0.heap.size ≤ ba; exact HG0.out) _))
              clear hWn HNE
              refine hK.out _ _ ?_ (fun hHeld => ?_)
              · exact HHL.out _ HW0.out
              clear hK K
              refine wpAnyH_ready (rs := [7]) (by kernel_rfl) (by simp) ?_
              refine AllReadyH.cons (o := _) rfl (fun K hK => ?_) ?_
              · clear hHeld
                have s0 := HVB.out.2.1
                have s1 := HVB.out.2.2.1
                have t0 := HVB.out.2.2.2 0
                have t1 := HVB.out.2.2.2 1
                go_simp
                clear s0 t0 s1 t1
                obtain ⟨W21, hWn⟩ : ∃ xw9, ((W20.setCell ⟨bb, 0, none⟩ (.slice soB B.1.length scB)).setCell ⟨bb, 1, none⟩ (uB)) = xw9 := ⟨_, rfl⟩
                rw [hWn]
                have HNE := Lib.hid (show ba ≠ bb by (have := HZ.out; omega))
                replace HVB := Lib.hid (show At2 W21 bb (.slice soB B.1.length scB) (uB) by rw [← hWn]; exact At2.put2 HVB.out _ _)
                replace HVA := Lib.hid (show At2 W21 ba (.slice soA A.1.length scA) (uA) by rw [← hWn]; exact ((HVA.out.grown (grown_setCell _ ⟨bb, 0, none⟩ _) (by simpa using HNE.out)).grown (grown_setCell _ ⟨bb, 1, none⟩ _) (by simpa using HNE.out)))
                replace HAR := Lib.hid (show IsArr W21 (fun b => W17.heap.size ≤ b ∧ b < W18.heap.size) (.slice soA A.1.length scA) uA A by
                  have hno : ¬ (W17.heap.size ≤ bb ∧ bb < W18.heap.size) := by (have := HZ.out; omega)
                  rw [← hWn]; exact HAR.out.keep ((Kept.setCell _ _ _ hno).trans (Kept.setCell _ _ _ hno)) (fun _ _ h => h))
                replace HBR := Lib.hid (show IsArr W21 (fun b => W18.heap.size ≤ b ∧ b < W19.heap.size) (.slice soB B.1.length scB) uB B by
                  have hno : ¬ (W18.heap.size ≤ bb ∧ bb < W19.heap.size) := by (have := HZ.out; omega)
                  rw [← hWn]; exact HBR.out.keep ((Kept.setCell _ _ _ hno).trans (Kept.setCell _ _ _ hno)) (fun _ _ h => h))
                replace HW0 := Lib.hid (show Below w0.heap.size w0 W21 by rw [← hWn]; exact ((HW0.out.setCell (by show w0.heap.size ≤ bb; exact HG1.out) _).setCell (by show w0.heap.size ≤ bb; exact HG1.out) _))
                clear hWn HNE
                refine hK.out _ _ ?_ (fun hHeld => ?_)
                · exact HHL.out _ HW0.out
                clear hK K
                refine wpAnyH_done (by kernel_rfl) ?_ _
                clear hHeld
                exact ⟨rfl, ba, bb, soA, soB, scA, scB, uA, uB, rfl, HVA.out, HVB.out, HAR.out.wide (fun _ _ _ => trivial), HBR.out.wide (fun _ _ _ => trivial), HW0.out⟩
              exact AllReadyH.nil
            exact AllReadyH.nil
          exact AllReadyH.nil
        exact AllReadyH.nil
      exact AllReadyH.nil
    refine AllReadyH.cons (o := _) rfl (fun K hK => ?_) ?_
    · clear hHeld
      go_simp
      obtain ⟨W16, hWn⟩ : ∃ xw9, W15.alloc (.cells #[.slice none 0 0, .nilIface] 32) = xw9 := ⟨_, rfl⟩
      have hB : Below W15.heap.size W15 W16 := by rw [← hWn]; exact below_new _ _
      have hNB : At2 W16 W15.heap.size (.slice none 0 0) (.nilIface) := by rw [← hWn]; exact At2.new _ _ _ _
      rw [hWn]
      clear hWn
      obtain ⟨bb, hnm⟩ : ∃ x, W15.heap.size = x := ⟨_, rfl⟩
      rw [hnm] at hNB ⊢
      replace HZ := Lib.hid (And.intro HZ.out (And.intro hnm hNB.1))
      replace HW0 := Lib.hid (HW0.out.trans (hB.mono HW0.out.size))
      have HVB := Lib.hid hNB
      clear hNB hB hnm
      have HG1 := Lib.hid (show w0.heap.size ≤ bb by (have := HZ.out; omega))
      replace HZ := Lib.hid (And.intro HZ.out HG1.out)
      refine hK.out _ _ ?_ (fun hHeld => ?_)
      · exact HHL.out _ HW0.out
      clear hK K
      refine wpAnyH_ready (rs := [1, 4]) (by kernel_rfl) (by simp) ?_
      refine AllReadyH.cons (o := _) rfl (fun K hK => ?_) ?_
      · clear hHeld
        go_simp
        refine (lof_calls _ p _ n _ HL.out.1 (HI.out.grow HW0.out) (fun j hj => keep_below HW0.out _ _ (HT.out j hj)) HCP.out).mono ?_
        rintro e W17 ⟨soA, scA, uA, rfl, hAA, hB⟩
        replace HZ := Lib.hid (And.intro HZ.out hB.size)
        replace HW0 := Lib.hid (HW0.out.trans (hB.mono HW0.out.size))
        replace HVB := Lib.hid (HVB.out.below hB)
        rw [← HAE.out.1] at hAA ⊢
        have HAR := Lib.hid (show IsArr W17 (fun b => W16.heap.size ≤ b ∧ b < W17.heap.size) (.slice soA A.1.length scA) uA A from hAA.wide (fun b h1 h2 => ⟨h2, h1⟩))
        have hsA := hAA.2.store
        clear hAA
        clear hB
        try go_simp
        refine hK.out _ _ ?_ (fun hHeld => ?_)
        · exact HHL.out _ HW0.out
        clear hK K
        refine wpAnyH_ready (rs := [3, 4]) (by kernel_rfl) (by simp) ?_
        refine AllReadyH.cons (o := _) rfl (fun K hK => ?_) ?_
        · clear hHeld
          go_simp
          refine (lof_calls _ q _ m _ HL.out.2 (HI2.out.grow HW0.out) (fun j hj => keep_below HW0.out _ _ (HT.out j hj)) HCQ.out).mono ?_
          rintro e W18 ⟨soB, scB, uB, rfl, hBB, hB⟩
          replace HZ := Lib.hid (And.intro HZ.out hB.size)
          replace HW0 := Lib.hid (HW0.out.trans (hB.mono HW0.out.size))
          replace HVB := Lib.hid (HVB.out.below hB)
          replace HAR := Lib.hid (HAR.out.grow hB)
          rw [← HAE.out.2] at hBB ⊢
          have HBR := Lib.hid (show IsArr W18 (fun b => W17.heap.size ≤ b ∧ b < W18.heap.size) (.slice soB B.1.length scB) uB B from hBB.wide (fun b h1 h2 => ⟨h2, h1⟩))
          have hsB := hBB.2.store
          clear hBB
          clear hB
          try go_simp
          refine hK.out _ _ ?_ (fun hHeld => ?_)
          · exact HHL.out _ HW0.out
          clear hK K
          refine wpAnyH_ready (rs := [4]) (by kernel_rfl) (by simp) ?_
          refine AllReadyH.cons (o := _) rfl (fun K hK => ?_) ?_
          · clear hHeld
            go_simp
            obtain ⟨W19, hWn⟩ : ∃ xw9, W18.alloc (.cells #[.slice none 0 0, .nilIface] 32) = xw9 := ⟨_, rfl⟩
            have hB : Below W18.heap.size W18 W19 := by rw [← hWn]; exact below_new _ _
            have hNB : At2 W19 W18.heap.size (.slice none 0 0) (.nilIface) := by rw [← hWn]; exact At2.new _ _ _ _
            rw [hWn]
            clear hWn
            obtain ⟨ba, hnm⟩ : ∃ x, W18.heap.size = x := ⟨_, rfl⟩
            rw [hnm] at hNB ⊢
            replace HZ := Lib.hid (And.intro HZ.out (And.intro hnm hNB.1))
            replace HW0 := Lib.hid (HW0.out.trans (hB.mono HW0.out.size))
            replace HVB := Lib.hid (HVB.out.below hB)
            replace HAR := Lib.hid (HAR.out.grow hB)
            replace HBR := Lib.hid (HBR.out.grow hB)
            have HVA := Lib.hid hNB
            clear hNB hB hnm
            have HG0 := Lib.hid (show w0.heap.size ≤ ba by (have := HZ.out; omega))
            replace HZ := Lib.hid (And.intro HZ.out HG0.out)
            refine hK.out _ _ ?_ (fun hHeld => ?_)
            · exact HHL.out _ HW0.out
            clear hK K
            refine wpAnyH_ready (rs := [6]) (by kernel_rfl) (by simp) ?_
            refine AllReadyH.cons (o := _) rfl (fun K hK => ?_) ?_
            · clear hHeld
              have s0 := HVA.out.2.1
              have s1 := HVA.out.2.2.1
              have t0 := HVA.out.2.2.2 0
              have t1 := HVA.out.2.2.2 1
              go_simp
              clear s0 t0 s1 t1
              obtain ⟨W20, hWn⟩ : ∃ xw9, ((W19.setCell ⟨ba, 0, none⟩ (.slice soA A.1.length scA)).setCell ⟨ba, 1, none⟩ (uA)) = xw9 := ⟨_, rfl⟩
              rw [hWn]
              have HNE := Lib.hid (show bb ≠ ba by (have := HZ.out; omega))
              replace HVA := Lib.hid (show At2 W20 ba (.slice soA A.1.length scA) (uA) by rw [← hWn]; exact At2.put2 HVA.out _ _)
              replace HVB := Lib.hid (show At2 W20 bb (.slice none 0 0) (.nilIface) by rw [← hWn]; exact ((HVB.out.grown (grown_setCell _ ⟨ba, 0, none⟩ _) (by simpa using HNE.out)).grown (grown_setCell _ ⟨ba, 1, none⟩ _) (by simpa using HNE.out)))
              replace HAR := Lib.hid (show IsArr W20 (fun b => W16.heap.size ≤ b ∧ b < W17.heap.size) (.slice soA A.1.length scA) uA A by
                have hno : ¬ (W16.heap.size ≤ ba ∧ ba < W17.heap.size) := by (have := HZ.out; omega)
                rw [← hWn]; exact HAR.out.keep ((Kept.setCell _ _ _ hno).trans (Kept.setCell _ _ _ hno)) (fun _ _ h => h))
              replace HBR := Lib.hid (show IsArr W20 (fun b => W17.heap.size ≤ b ∧ b < W18.heap.size) (.slice soB B.1.length scB) uB B by
                have hno : ¬ (W17.heap.size ≤ ba ∧ ba < W18.heap.size) := by (have := HZ.out; omega)
                rw [← hWn]; exact HBR.out.keep ((Kept.setCell _ _ _ hno).trans (Kept.setCell _ _ _ hno)) (fun _ _ h => h))
              replace HW0 := Lib.hid (show Below w0.heap.size w0 W20 by rw [← hWn]; exact ((HW0.out.setCell (by show w0.heap.size ≤ ba; exact HG0.out) _).setCell (by show w0.heap.size ≤ ba; exact HG0.out) _))
              clear hWn HNE
              refine hK.out _ _ ?_ (fun hHeld => ?_)
              · exact HHL.out _ HW0.out
              clear hK K
              refine wpAnyH_ready (rs := [7]) (by kernel_rfl) (by simp) ?_
              refine AllReadyH.cons (o := _) rfl (fun K hK => ?_) ?_
              · clear hHeld
                have s0 := HVB.out.2.1
                have s1 := HVB.out.2.2.1
                have t0 := HVB.out.2.2.2 0
                have t1 := HVB.out.2.2.2 1
                go_simp
                clear s0 t0 s1 t1
                obtain ⟨W21, hWn⟩ : ∃ xw9, ((W20.setCell ⟨bb, 0, none⟩ (.slice soB B.1.length scB)).setCell ⟨bb, 1, none⟩ (uB)) = xw9 := ⟨_, rfl⟩
                rw [hWn]
                have HNE := Lib.hid (show ba ≠ bb by (have := HZ.out; omega))
                replace HVB := Lib.hid (show At2 W21 bb (.slice soB B.1.length scB) (uB) by rw [← hWn]; exact At2.put2 HVB.out _ _)
                replace HVA := Lib.hid (show At2 W21 ba (.slice soA A.1.length scA) (uA) by rw [← hWn]; exact ((HVA.out.grown (grown_setCell _ ⟨bb, 0, none⟩ _) (by simpa using HNE.out)).grown (grown_setCell _ ⟨bb, 1, none⟩ _) (by simpa using HNE.out)))
                replace HAR := Lib.hid (show IsArr W21 (fun b => W16.heap.size ≤ b ∧ b < W17.heap.size) (.slice soA A.1.length scA) uA A by
                  have hno : ¬ (W16.heap.size ≤ bb ∧ bb < W17.heap.size) := by (have := HZ.out; omega)
                  rw [← hWn]; exact HAR.out.keep ((Kept.setCell _ _ _ hno).trans (Kept.setCell _ _ _ hno)) (fun _ _ h => h))
                replace HBR := Lib.hid (show IsArr W21 (fun b => W17.heap.size ≤ b ∧ b < W18.heap.size) (.slice soB B.1.length scB) uB B by
                  have hno : ¬ (W17.heap.size ≤ bb ∧ bb < W18.heap.size) := by (have := HZ.out; omega)
                  rw [← hWn]; exact HBR.out.keep ((Kept.setCell _ _ _ hno).trans (Kept.setCell _ _ _ hno)) (fun _ _ h => h))
                replace HW0 := Lib.hid (show Below w0.heap.size w0 W21 by rw [← hWn]; exact ((HW0.out.setCell (by show w0.heap.size ≤ bb; exact HG1.out) _).setCell (by show w0.heap.size ≤ bb; exact HG1.out) _))
                clear hWn HNE
                refine hK.out _ _ ?_ (fun hHeld => ?_)
                · exact HHL.out _ HW0.out
                clear hK K
                refine wpAnyH_done (by kernel_rfl) ?_ _
                clear hHeld
                exact ⟨rfl, ba, bb, soA, soB, scA, scB, uA, uB, rfl, HVA.out, HVB.out, HAR.out.wide (fun _ _ _ => trivial), HBR.out.wide (fun _ _ _ => trivial), HW0.out⟩
              exact AllReadyH.nil
            exact AllReadyH.nil
          exact AllReadyH.nil
        refine AllReadyH.cons (o := _) rfl (fun K hK => ?_) ?_
        · clear hHeld
          go_simp
          obtain ⟨W18, hWn⟩ : ∃ xw9, W17.alloc (.cells #[.slice none 0 0, .nilIface] 32) = xw9 := ⟨_, rfl⟩
          have hB : Below W17.heap.size W17 W18 := by rw [← hWn]; exact below_new _ _
          have hNB : At2 W18 W17.heap.size (.slice none 0 0) (.nilIface) := by rw [← hWn]; exact At2.new _ _ _ _
          rw [hWn]
          clear hWn
          obtain ⟨ba, hnm⟩ : ∃ x, W17.heap.size = x := ⟨_, rfl⟩
          rw [hnm] at hNB ⊢
          replace HZ := Lib.hid (And.intro HZ.out (And.intro hnm hNB.1))
          replace HW0 := Lib.hid (HW0.out.trans (hB.mono HW0.out.size))
          replace HVB := Lib.hid (HVB.out.below hB)
          replace HAR := Lib.hid (HAR.out.grow hB)
          have HVA := Lib.hid hNB
          clear hNB hB hnm
          have HG0 := Lib.hid (show w0.heap.size ≤ ba by (have := HZ.out; omega))
          replace HZ := Lib.hid (And.intro HZ.out HG0.out)
          refine hK.out _ _ ?_ (fun hHeld => ?_)
          · exact HHL.out _ HW0.out
          clear hK K
          refine wpAnyH_ready (rs := [3]) (by kernel_rfl) (by simp) ?_
          refine AllReadyH.cons (o := _) rfl (fun K hK => ?_) ?_
          · clear hHeld
            go_simp
            refine (lof_calls _ q _ m _ HL.out.2 (HI2.out.grow HW0.out) (fun j hj => keep_below HW0.out _ _ (HT.out j hj)) HCQ.out).mono ?_
            rintro e W19 ⟨soB, scB, uB, rfl, hBB, hB⟩
            replace HZ := Lib.hid (And.intro HZ.out hB.size)
            replace HW0 := Lib.hid (HW0.out.trans (hB.mono HW0.out.size))
            replace HVB := Lib.hid (HVB.out.below hB)
            replace HAR := Lib.hid (HAR.out.grow hB)
            replace HVA := Lib.hid (HVA.out.below hB)
            rw [← HAE.out.2] at hBB ⊢
            have HBR := Lib.hid (show IsArr W19 (fun b => W18.heap.size ≤ b ∧ b < W19.heap.size) (.slice soB B.1.length scB) uB B from hBB.wide (fun b h1 h2 => ⟨h2, h1⟩))
            have hsB := hBB.2.store
            clear hBB
            clear hB
            try go_simp
            refine hK.out _ _ ?_ (fun hHeld => ?_)
            · exact HHL.out _ HW0.out
            clear hK K
            refine wpAnyH_ready (rs := [6]) (by kernel_rfl) (by simp) ?_
            refine AllReadyH.cons (o := _) rfl (fun K hK => ?_) ?_
            · clear hHeld
              have s0 := HVA.out.2.1
              have s1 := HVA.out.2.2.1
              have t0 := HVA.out.2.2.2 0
              have t1 := HVA.out.2.2.2 1
              go_simp
              clear s0 t0 s1 t1
              obtain ⟨W20, hWn⟩ : ∃ xw9, ((W19.setCell ⟨ba, 0, none⟩ (.slice soA A.1.length scA)).setCell ⟨ba, 1, none⟩ (uA)) = xw9 := ⟨_, rfl⟩
              rw [hWn]
              have HNE := Lib.hid (show bb ≠ ba by (have := HZ.out; omega))
              replace HVA := Lib.hid (show At2 W20 ba (.slice soA A.1.length scA) (uA) by rw [← hWn]; exact At2.put2 HVA.out _ _)
              replace HVB := Lib.hid (show At2 W20 bb (.slice none 0 0) (.nilIface) by rw [← hWn]; exact ((HVB.out.grown (grown_setCell _ ⟨ba, 0, none⟩ _) (by simpa using HNE.out)).grown (grown_setCell _ ⟨ba, 1, none⟩ _) (by simpa using HNE.out)))
              replace HAR := Lib.hid (show IsArr W20 (fun b => W16.heap.size ≤ b ∧ b < W17.heap.size) (.slice soA A.1.length scA) uA A by
                have hno : ¬ (W16.heap.size ≤ ba ∧ ba < W17.heap.size) := by (have := HZ.out; omega)
                rw [← hWn]; exact HAR.out.keep ((Kept.setCell _ _ _ hno).trans (Kept.setCell _ _ _ hno)) (fun _ _ h => h))
              replace HBR := Lib.hid (show IsArr W20 (fun b => W18.heap.size ≤ b ∧ b < W19.heap.size) (.slice soB B.1.length scB) uB B by
                have hno : ¬ (W18.heap.size ≤ ba ∧ ba < W19.heap.size) := by (have := HZ.out; omega)
                rw [← hWn]; exact HBR.out.keep ((Kept.setCell _ _ _ hno).trans (Kept.setCell _ _ _ hno)) (fun _ _ h => h))
              replace HW0 := Lib.hid (show Below w0.heap.size w0 W20 by rw [← hWn]; exact ((HW0.out.setCell (by show w0.heap.size ≤ ba; exact HG0.out) _).setCell (by show w0.heap.size ≤ ba; exact HG0.out) _))
              clear hWn HNE
              refine hK.out _ _ ?_ (fun hHeld => ?_)
              · exact HHL.out _ HW0.out
              clear hK K
              refine wpAnyH_ready (rs := [7]) (by kernel_rfl) (by simp) ?_
              refine AllReadyH.cons (o := _) rfl (fun K hK => ?_) ?_
              · clear hHeld
                have s0 := HVB.out.2.1
                have s1 := HVB.out.2.2.1
                have t0 := HVB.out.2.2.2 0
                have t1 := HVB.out.2.2.2 1
                go_simp
                clear s0 t0 s1 t1
                obtain ⟨W21, hWn⟩ : ∃ xw9, ((W20.setCell ⟨bb, 0, none⟩ (.slice soB B.1.length scB)).setCell ⟨bb, 1, none⟩ (uB)) = xw9 := ⟨_, rfl⟩
                rw [hWn]
                have HNE := Lib.hid (show ba ≠ bb by (have := HZ.out; omega))
                replace HVB := Lib.hid (show At2 W21 bb (.slice soB B.1.length scB) (uB) by rw [← hWn]; exact At2.put2 HVB.out _ _)
                replace HVA := Lib.hid (show At2 W21 ba (.slice soA A.1.length scA) (uA) by rw [← hWn]; exact ((HVA.out.grown (grown_setCell _ ⟨bb, 0, none⟩ _) (by simpa using HNE.out)).grown (grown_setCell _ ⟨bb, 1, none⟩ _) (by simpa using HNE.out)))
                replace HAR := Lib.hid (show IsArr W21 (fun b => W16.heap.size ≤ b ∧ b < W17.heap.size) (.slice soA A.1.length scA) uA A by
                  have hno : ¬ (W16.heap.size ≤ bb ∧ bb < W17.heap.size) := by (have := HZ.out; omega)
                  rw [← hWn]; exact HAR.out.keep ((Kept.setCell _ _ _ hno).trans (Kept.setCell _ _ _ hno)) (fun _ _ h => h))
                replace HBR := Lib.hid (show IsArr W21 (fun b => W18.heap.size ≤ b ∧ b < W19.heap.size) (.slice soB B.1.length scB) uB B by
                  have hno : ¬ (W18.heap.size ≤ bb ∧ bb < W19.heap.size) := by (have := HZ.out; omega)
                  rw [← hWn]; exact HBR.out.keep ((Kept.setCell _ _ _ hno).trans (Kept.setCell _ _ _ hno)) (fun _ _ h => h))
                replace HW0 := Lib.hid (show Below w0.heap.size w0 W21 by rw [← hWn]; exact ((HW0.out.setCell (by show w0.heap.size ≤ bb; exact HG1.out) _).setCell (by show w0.heap.size ≤ bb; exact HG1.out) _))
                clear hWn HNE
                refine hK.out _ _ ?_ (fun hHeld => ?_)
                · exact HHL.out _ HW0.out
                clear hK K
                refine wpAnyH_done (by kernel_rfl) ?_ _
                clear hHeld
                exact ⟨rfl, ba, bb, soA, soB, scA, scB, uA, uB, rfl, HVA.out, HVB.out, HAR.out.wide (fun _ _ _ => trivial), HBR.out.wide (fun _ _ _ => trivial), HW0.out⟩
              exact AllReadyH.nil
            exact AllReadyH.nil
          exact AllReadyH.nil
        exact AllReadyH.nil
      refine AllReadyH.cons (o := _) rfl (fun K hK => ?_) ?_
      · clear hHeld
        go_simp
        obtain ⟨W17, hWn⟩ : ∃ xw9, W16.alloc (.cells #[.slice none 0 0, .nilIface] 32) = xw9 := ⟨_, rfl⟩
        have hB : Below W16.heap.size W16 W17 := by rw [← hWn]; exact below_new _ _
        have hNB : At2 W17 W16.heap.size (.slice none 0 0) (.nilIface) := by rw [← hWn]; exact At2.new _ _ _ _
        rw [hWn]
        clear hWn
        obtain ⟨ba, hnm⟩ : ∃ x, W16.heap.size = x := ⟨_, rfl⟩
        rw [hnm] at hNB ⊢
        replace HZ := Lib.hid (And.intro HZ.out (And.intro hnm hNB.1))
        replace HW0 := Lib.hid (HW0.out.trans (hB.mono HW0.out.size))
        replace HVB := Lib.hid (HVB.out.below hB)
        have HVA := Lib.hid hNB
        clear hNB hB hnm
        have HG0 := Lib.hid (show w0.heap.size ≤ ba by (have := HZ.out; omega))
        replace HZ := Lib.hid (And.intro HZ.out HG0.out)
        refine hK.out _ _ ?_ (fun hHeld => ?_)
        · exact HHL.out _ HW0.out
        clear hK K
        refine wpAnyH_ready (rs := [1]) (by kernel_rfl) (by simp) ?_
        refine AllReadyH.cons (o := _) rfl (fun K hK => ?_) ?_
        · clear hHeld
          go_simp
          refine (lof_calls _ p _ n _ HL.out.1 (HI.out.grow HW0.out) (fun j hj => keep_below HW0.out _ _ (HT.out j hj)) HCP.out).mono ?_
          rintro e W18 ⟨soA, scA, uA, rfl, hAA, hB⟩
          replace HZ := Lib.hid (And.intro HZ.out hB.size)
          replace HW0 := Lib.hid (HW0.out.trans (hB.mono HW0.out.size))
          replace HVB := Lib.hid (HVB.out.below hB)
          replace HVA := Lib.hid (HVA.out.below hB)
          rw [← HAE.out.1] at hAA ⊢
          have HAR := Lib.hid (show IsArr W18 (fun b => W17.heap.size ≤ b ∧ b < W18.heap.size) (.slice soA A.1.length scA) uA A from hAA.wide (fun b h1 h2 => ⟨h2, h1⟩))
          have hsA := hAA.2.store
          clear hAA
          clear hB
          try go_simp
          refine hK.out _ _ ?_ (fun hHeld => ?_)
          · exact HHL.out _ HW0.out
          clear hK K
          refine wpAnyH_ready (rs := [3]) (by kernel_rfl) (by simp) ?_
          refine AllReadyH.cons (o := _) rfl (fun K hK => ?_) ?_
          · clear hHeld
            go_simp
            refine (lof_calls _ q _ m _ HL.out.2 (HI2.out.grow HW0.out) (fun j hj => keep_below HW0.out _ _ (HT.out j hj)) HCQ.out).mono ?_
            rintro e W19 ⟨soB, scB, uB, rfl, hBB, hB⟩
            replace HZ := Lib.hid (And.intro HZ.out hB.size)
            replace HW0 := Lib.hid (HW0.out.trans (hB.mono HW0.out.size))
            replace HVB := Lib.hid (HVB.out.below hB)
            replace HVA := Lib.hid (HVA.out.below hB)
            replace HAR := Lib.hid (HAR.out.grow hB)
            rw [← HAE.out.2] at hBB ⊢
            have HBR := Lib.hid (show IsArr W19 (fun b => W18.heap.size ≤ b ∧ b < W19.heap.size) (.slice soB B.1.length scB) uB B from hBB.wide (fun b h1 h2 => ⟨h2, h1⟩))
            have hsB := hBB.2.store
            clear hBB
            clear hB
            try go_simp
            refine hK.out _ _ ?_ (fun hHeld => ?_)
            · exact HHL.out _ HW0.out
            clear hK K
            refine wpAnyH_ready (rs := [6]) (by kernel_rfl) (by simp) ?_
            refine AllReadyH.cons (o := _) rfl (fun K hK => ?_) ?_
            · clear hHeld
              have s0 := HVA.out.2.1
              have s1 := HVA.out.2.2.1
              have t0 := HVA.out.2.2.2 0
              have t1 := HVA.out.2.2.2 1
              go_simp
              clear s0 t0 s1 t1
              obtain ⟨W20, hWn⟩ : ∃ xw9, ((W19.setCell ⟨ba, 0, none⟩ (.slice soA A.1.length scA)).setCell ⟨ba, 1, none⟩ (uA)) = xw9 := ⟨_, rfl⟩
              rw [hWn]
              have HNE := Lib.hid (show bb ≠ ba by (have := HZ.out; omega))
              replace HVA := Lib.hid (show At2 W20 ba (.slice soA A.1.length scA) (uA) by rw [← hWn]; exact At2.put2 HVA.out _ _)
              replace HVB := Lib.hid (show At2 W20 bb (.slice none 0 0) (.nilIface) by rw [← hWn]; exact ((HVB.out.grown (grown_setCell _ ⟨ba, 0, none⟩ _) (by simpa using HNE.out)).grown (grown_setCell _ ⟨ba, 1, none⟩ _) (by simpa using HNE.out)))
              replace HAR := Lib.hid (show IsArr W20 (fun b => W17.heap.size ≤ b ∧ b < W18.heap.size) (.slice soA A.1.length scA) uA A by
                have hno : ¬ (W17.heap.size ≤ ba ∧ ba < W18.heap.size) := by (have := HZ.out; omega)
                rw [← hWn]; exact HAR.out.keep ((Kept.setCell _ _ _ hno).trans (Kept.setCell _ _ _ hno)) (fun _ _ h => h))
              replace HBR := Lib.hid (show IsArr W20 (fun b => W18.heap.size ≤ b ∧ b < W19.heap.size) (.slice soB B.1.length scB) uB B by
                have hno : ¬ (W18.heap.size ≤ ba ∧ ba < W19.heap.size) := by (have := HZ.out; omega)
                rw [← hWn]; exact HBR.out.keep ((Kept.setCell _ _ _ hno).trans (Kept.setCell _ _ _ hno)) (fun _ _ h => h))
              replace HW0 := Lib.hid (show Below w0.heap.size w0 W20 by rw [← hWn]; exact ((HW0.out.setCell (by show w0.heap.size ≤ ba; exact HG0.out) _).setCell (by show w0.heap.size ≤ ba; exact HG0.out) _))
              clear hWn HNE
              refine hK.out _ _ ?_ (fun hHeld => ?_)
              · exact HHL.out _ HW0.out
              clear hK K
              refine wpAnyH_ready (rs := [7]) (by kernel_rfl) (by simp) ?_
              refine AllReadyH.cons (o := _) rfl (fun K hK => ?_) ?_
              · clear hHeld
                have s0 := HVB.out.2.1
                have s1 := HVB.out.2.2.1
                have t0 := HVB.out.2.2.2 0
                have t1 := HVB.out.2.2.2 1
                go_simp
                clear s0 t0 s1 t1
                obtain ⟨W21, hWn⟩ : ∃ xw9, ((W20.setCell ⟨bb, 0, none⟩ (.slice soB B.1.length scB)).setCell ⟨bb, 1, none⟩ (uB)) = xw9 := ⟨_, rfl⟩
                rw [hWn]
                have HNE := Lib.hid (show ba ≠ bb by (have := HZ.out; omega))
                replace HVB := Lib.hid (show At2 W21 bb (.slice soB B.1.length scB) (uB) by rw [← hWn]; exact At2.put2 HVB.out _ _)
                replace HVA := Lib.hid (show At2 W21 ba (.slice soA A.1.length scA) (uA) by rw [← hWn]; exact ((HVA.out.grown (grown_setCell _ ⟨bb, 0, none⟩ _) (by simpa using HNE.out)).grown (grown_setCell _ ⟨bb, 1, none⟩ _) (by simpa using HNE.out)))
                replace HAR := Lib.hid (show IsArr W21 (fun b => W17.heap.size ≤ b ∧ b < W18.heap.size) (.slice soA A.1.length scA) uA A by
                  have hno : ¬ (W17.heap.size ≤ bb ∧ bb < W18.heap.size) := by (have := HZ.out; omega)
                  rw [← hWn]; exact HAR.out.keep ((Kept.setCell _ _ _ hno).trans (Kept.setCell _ _ _ hno)) (fun _ _ h => h))
                replace HBR := Lib.hid (show IsArr W21 (fun b => W18.heap.size ≤ b ∧ b < W19.heap.size) (.slice soB B.1.length scB) uB B by
                  have hno : ¬ (W18.heap.size ≤ bb ∧ bb < W19.heap.size) := by (have := HZ.out; omega)
                  rw [← hWn]; exact HBR.out.keep ((Kept.setCell _ _ _ hno).trans (Kept.setCell _ _ _ hno)) (fun _ _ h => h))
                replace HW0 := Lib.hid (show Below w0.heap.size w0 W21 by rw [← hWn]; exact ((HW0.out.setCell (by show w0.heap.size ≤ bb; exact HG1.out) _).setCell (by show w0.heap.size ≤ bb; exact HG1.out) _))
                clear hWn HNE
                refine hK.out _ _ ?_ (fun hHeld => ?_)
                · exact HHL.out _ HW0.out
                clear hK K
                refine wpAnyH_done (by kernel_rfl) ?_ _
                clear hHeld
                exact ⟨rfl, ba, bb, soA, soB, scA, scB, uA, uB, rfl, HVA.out, HVB.out, HAR.out.wide (fun _ _ _ => trivial), HBR.out.wide (fun _ _ _ => trivial), HW0.out⟩
              exact AllReadyH.nil
            exact AllReadyH.nil
          exact AllReadyH.nil
        exact AllReadyH.nil
      exact AllReadyH.nil
    exact AllReadyH.nil
  rintro a' v1 ⟨ba, bb, soA, soB, scA, scB, uA, uB, rfl, hVA, hVB, hAR, hBR, hB⟩
  replace HA := Lib.hid (HA.out.below hB)
  replace HA2 := Lib.hid (HA2.out.below hB)
  replace HB := Lib.hid (HB.out.trans (hB.mono HB.out.size))
  replace HI := Lib.hid (HI.out.grow hB)
  replace HI2 := Lib.hid (HI2.out.grow hB)
  replace HT := Lib.hid (fun j hj => keep_below hB _ _ (HT.out j hj))
  have HVA := Lib.hid hVA
  have HVB := Lib.hid hVB
  have HAR := Lib.hid hAR
  have HBR := Lib.hid hBR
  have hsA := hAR.2.store
  have hsB := hBR.2.store
  clear hVA hVB hAR hBR hB
  simp only [Act.put, List.setIfInBounds_toArray, List.set_cons_zero, List.set_cons_succ]
  go_wp2_with fail
  obtain ⟨w0, hw0⟩ : ∃ w0, w0 = v1 := ⟨_, rfl⟩
  rw [← hw0]
  rw [← hw0] at HA HA2 HB HI HI2 HT HVA HVB HAR HBR
  clear hw0
  refine wp_mid (fun a a' w' => ∃ (bx by' : Nat) (xso xio yso yio : Option Addr) (xsc xic ysc yic : Nat), a' = ((((((a.put (some 34) (.agg #[.slice so p.s.length sc, .slice io p.l.length ic, .int .i64 p.f])).put (some 35) (.agg #[.slice xso X.s.length xsc, .slice xio X.l.length xic, .int .i64 X.f])).put (some 36) (.agg #[.slice so2 q.s.length sc2, .slice io2 q.l.length ic2, .int .i64 q.f])).put (some 37) (.agg #[.slice yso Y.s.length ysc, .slice yio Y.l.length yic, .int .i64 Y.f])).put (some 7) (.pointer (some ⟨bx, 0, none⟩))).put (some 8) (.pointer (some ⟨by', 0, none⟩))) ∧ At3 w' bx (.slice xso X.s.length xsc) (.slice xio X.l.length xic) (.int .i64 X.f) ∧ At3 w' by' (.slice yso Y.s.length ysc) (.slice yio Y.l.length yic) (.int .i64 Y.f) ∧ IsP w' (fun _ => True) (.agg #[.slice xso X.s.length xsc, .slice xio X.l.length xic, .int .i64 X.f]) X ∧ IsP w' (fun _ => True) (.agg #[.slice yso Y.s.length ysc, .slice yio Y.l.length yic, .int .i64 Y.f]) Y ∧ Below w0.heap.size w0 w') ?_ ?_
  · have HWW := Lib.hid HB.out.size
    have HZ := Lib.hid (And.intro HB.out.size (Nat.le_refl w0.heap.size))
    have HW0 := Lib.hid (Below.refl w0.heap.size w0)
    have HHL := Lib.hid (show ∀ wx, Below w0.heap.size w0 wx → (fun w' => w'.cell? ⟨w.heap.size, 0, none⟩ = some (.slice so p.s.length sc) ∧ w'.cell? ⟨w.heap.size, 1, none⟩ = some (.slice io p.l.length ic) ∧ w'.cell? ⟨w.heap.size, 2, none⟩ = some (.int .i64 p.f) ∧ w'.cell? ⟨w.heap.size + 1, 0, none⟩ = some (.slice so2 q.s.length sc2) ∧ w'.cell? ⟨w.heap.size + 1, 1, none⟩ = some (.slice io2 q.l.length ic2) ∧ w'.cell? ⟨w.heap.size + 1, 2, none⟩ = some (.int .i64 q.f) ∧ w'.cell? ⟨ba, 0, none⟩ = some (.slice soA A.1.length scA) ∧ w'.cell? ⟨ba, 1, none⟩ = some (uA) ∧ w'.cell? ⟨bb, 0, none⟩ = some (.slice soB B.1.length scB) ∧ w'.cell? ⟨bb, 1, none⟩ = some (uB)) wx from fun wx HW0 => ⟨(HA.out.below HW0).2.1, (HA.out.below HW0).2.2.1, (HA.out.below HW0).2.2.2.1, (HA2.out.below HW0).2.1, (HA2.out.below HW0).2.2.1, (HA2.out.below HW0).2.2.2.1, (HVA.out.below HW0).2.1, (HVA.out.below HW0).2.2.1, (HVB.out.below HW0).2.1, (HVB.out.below HW0).2.2.1⟩)
    obtain ⟨W20, hWD⟩ : ∃ xw9, w0.drew = xw9 := ⟨_, rfl⟩
    have hB : Below w0.heap.size w0 W20 := by rw [← hWD]; exact Below.drewN' (Below.refl _ _) 1
    replace HZ := Lib.hid (And.intro HZ.out hB.size)
    replace HW0 := Lib.hid (HW0.out.trans (hB.mono HW0.out.size))
    clear hB
    refine wp_region_held_drew (S := fun w' => w'.cell? ⟨w.heap.size, 0, none⟩ = some (.slice so p.s.length sc) ∧ w'.cell? ⟨w.heap.size, 1, none⟩ = some (.slice io p.l.length ic) ∧ w'.cell? ⟨w.heap.size, 2, none⟩ = some (.int .i64 p.f) ∧ w'.cell? ⟨w.heap.size + 1, 0, none⟩ = some (.slice so2 q.s.length sc2) ∧ w'.cell? ⟨w.heap.size + 1, 1, none⟩ = some (.slice io2 q.l.length ic2) ∧ w'.cell? ⟨w.heap.size + 1, 2, none⟩ = some (.int .i64 q.f) ∧ w'.cell? ⟨ba, 0, none⟩ = some (.slice soA A.1.length scA) ∧ w'.cell? ⟨ba, 1, none⟩ = some (uA) ∧ w'.cell? ⟨bb, 0, none⟩ = some (.slice soB B.1.length scB) ∧ w'.cell? ⟨bb, 1, none⟩ = some (uB)) (by kernel_rfl) (by rw [hWD]; exact HHL.out _ HW0.out) (fun hHeld => ?_)
    rw [hWD] at hHeld ⊢
    clear hWD
    refine wpAnyH_take (i := 0) (v := ?_) rfl (by kernel_rfl) (by kernel_rfl) (by kernel_rfl) (fun _ _ _ h => absurd h.1 (by simp)) (Or.inl ⟨by rfl, ?_⟩) (by assumption) ?_
    rotate_left
    · (intro w hSw; (try dsimp only at hSw); go_simp; try with_reducible rfl)
    simp only [Act.put, List.getElem_toArray, List.getElem_cons_zero, List.setIfInBounds_toArray, List.set_cons_zero, List.set_cons_succ]
    refine wpAnyH_take (i := 2) (v := ?_) rfl (by kernel_rfl) (by kernel_rfl) (by kernel_rfl) (fun _ _ _ h => absurd h.1 (by simp)) (Or.inl ⟨by rfl, ?_⟩) (by assumption) ?_
    rotate_left
    · (intro w hSw; (try dsimp only at hSw); go_simp; try with_reducible rfl)
    simp only [Act.put, List.getElem_toArray, List.getElem_cons_succ, List.getElem_cons_zero, List.setIfInBounds_toArray, List.set_cons_zero, List.set_cons_succ]
    refine wpAnyH_ready (rs := [1, 4, 5]) (by kernel_rfl) (by simp) ?_
    refine AllReadyH.cons (o := _) rfl (fun K hK => ?_) ?_
    · clear hHeld
      go_simp
      have HWO0 := Lib.hid (show w.heap.size ≤ w0.heap.size from HWW.out)
      refine (ptidy_calls 40 _ p _ _ HCP.out (HI.out.grow HW0.out)).mono ?_
      rintro e W21 ⟨ux, rfl, hX, hB⟩
      replace HZ := Lib.hid (And.intro HZ.out hB.size)
      replace HW0 := Lib.hid (HW0.out.trans (hB.mono HW0.out.size))
      rw [← HXE.out.1] at hX
      obtain ⟨xso, xsc, xio, xic, rfl, _⟩ := hX.opened
      have HXP := Lib.hid (show IsP W21 (fun b => b < w0.heap.size ∨ (W20.heap.size ≤ b ∧ b < W21.heap.size)) (.agg #[.slice xso X.s.length xsc, .slice xio X.l.length xic, .int .i64 X.f]) X from hX.wide (fun b h1 h2 => by
        rcases h2 with h2 | h2
        · exact .inl (Nat.lt_of_lt_of_le h2.1 HWO0.out)
        · exact .inr ⟨h2, h1⟩))
      clear hX
      clear hB
      try go_simp
      refine hK.out _ _ ?_ (fun hHeld => ?_)
      · exact HHL.out _ HW0.out
      clear hK K
      refine wpAnyH_ready (rs := [3, 4, 5]) (by kernel_rfl) (by simp) ?_
      refine AllReadyH.cons (o := _) rfl (fun K hK => ?_) ?_
      · clear hHeld
        go_simp
        have HWO1 := Lib.hid (show w.heap.size ≤ w0.heap.size from HWW.out)
        refine (ptidy_calls 40 _ q _ _ HCQ.out (HI2.out.grow HW0.out)).mono ?_
        rintro e W22 ⟨uy, rfl, hY, hB⟩
        replace HZ := Lib.hid (And.intro HZ.out hB.size)
        replace HW0 := Lib.hid (HW0.out.trans (hB.mono HW0.out.size))
        replace HXP := Lib.hid (HXP.out.grow hB)
        rw [← HXE.out.2] at hY
        obtain ⟨yso, ysc, yio, yic, rfl, _⟩ := hY.opened
        have HYP := Lib.hid (show IsP W22 (fun b => b < w0.heap.size ∨ (W21.heap.size ≤ b ∧ b < W22.heap.size)) (.agg #[.slice yso Y.s.length ysc, .slice yio Y.l.length yic, .int .i64 Y.f]) Y from hY.wide (fun b h1 h2 => by
          rcases h2 with h2 | h2
          · exact .inl (Nat.lt_of_lt_of_le h2.1 HWO1.out)
          · exact .inr ⟨h2, h1⟩))
        clear hY
        clear hB
        try go_simp
        refine hK.out _ _ ?_ (fun hHeld => ?_)
        · exact HHL.out _ HW0.out
        clear hK K
        refine wpAnyH_ready (rs := [4, 5]) (by kernel_rfl) (by simp) ?_
        refine AllReadyH.cons (o := _) rfl (fun K hK => ?_) ?_
        · clear hHeld
          go_simp
          obtain ⟨W23, hWn⟩ : ∃ xw9, W22.alloc (.cells #[.slice none 0 0, .slice none 0 0, .int .i64 0] 25) = xw9 := ⟨_, rfl⟩
          have hB : Below W22.heap.size W22 W23 := by rw [← hWn]; exact below_new _ _
          have hNB : At3 W23 W22.heap.size (.slice none 0 0) (.slice none 0 0) (.int .i64 0) := by rw [← hWn]; exact At3.new _ _ _ _ _
          rw [hWn]
          clear hWn
          obtain ⟨bx, hnm⟩ : ∃ x, W22.heap.size = x := ⟨_, rfl⟩
          rw [hnm] at hNB ⊢
          replace HZ := Lib.hid (And.intro HZ.out (And.intro hnm hNB.1))
          replace HW0 := Lib.hid (HW0.out.trans (hB.mono HW0.out.size))
          replace HXP := Lib.hid (HXP.out.grow hB)
          replace HYP := Lib.hid (HYP.out.grow hB)
          have HVX := Lib.hid hNB
          clear hNB hB hnm
          have HG0 := Lib.hid (show w0.heap.size ≤ bx by (have := HZ.out; omega))
          replace HZ := Lib.hid (And.intro HZ.out HG0.out)
          refine hK.out _ _ ?_ (fun hHeld => ?_)
          · exact HHL.out _ HW0.out
          clear hK K
          refine wpAnyH_ready (rs := [5]) (by kernel_rfl) (by simp) ?_
          refine AllReadyH.cons (o := _) rfl (fun K hK => ?_) ?_
          · clear hHeld
            go_simp
            obtain ⟨W24, hWn⟩ : ∃ xw9, W23.alloc (.cells #[.slice none 0 0, .slice none 0 0, .int .i64 0] 25) = xw9 := ⟨_, rfl⟩
            have hB : Below W23.heap.size W23 W24 := by rw [← hWn]; exact below_new _ _
            have hNB : At3 W24 W23.heap.size (.slice none 0 0) (.slice none 0 0) (.int .i64 0) := by rw [← hWn]; exact At3.new _ _ _ _ _
            rw [hWn]
            clear hWn
            obtain ⟨by', hnm⟩ : ∃ x, W23.heap.size = x := ⟨_, rfl⟩
            rw [hnm] at hNB ⊢
            replace HZ := Lib.hid (And.intro HZ.out (And.intro hnm hNB.1))
            replace HW0 := Lib.hid (HW0.out.trans (hB.mono HW0.out.size))
            replace HXP := Lib.hid (HXP.out.grow hB)
            replace HYP := Lib.hid (HYP.out.grow hB)
            replace HVX := Lib.hid (HVX.out.below hB)
            have HVY := Lib.hid hNB
            clear hNB hB hnm
            have HG1 := Lib.hid (show w0.heap.size ≤ by' by (have := HZ.out; omega))
            replace HZ := Lib.hid (And.intro HZ.out HG1.out)
            refine hK.out _ _ ?_ (fun hHeld => ?_)
            · exact HHL.out _ HW0.out
            clear hK K
            refine wpAnyH_ready (rs := [6]) (by kernel_rfl) (by simp) ?_
            refine AllReadyH.cons (o := _) rfl (fun K hK => ?_) ?_
            · clear hHeld
              have s0 := HVX.out.2.1
              have s1 := HVX.out.2.2.1
              have s2 := HVX.out.2.2.2.1
              have t0 := HVX.out.2.2.2.2 0
              have t1 := HVX.out.2.2.2.2 1
              have t2 := HVX.out.2.2.2.2 2
              go_simp
              clear s0 t0 s1 t1 s2 t2
              obtain ⟨W25, hWn⟩ : ∃ xw9, (((W24.setCell ⟨bx, 0, none⟩ (.slice xso X.s.length xsc)).setCell ⟨bx, 1, none⟩ (.slice xio X.l.length xic)).setCell ⟨bx, 2, none⟩ (.int .i64 X.f)) = xw9 := ⟨_, rfl⟩
              rw [hWn]
              have HNE := Lib.hid (show by' ≠ bx by (have := HZ.out; omega))
              replace HVX := Lib.hid (show At3 W25 bx (.slice xso X.s.length xsc) (.slice xio X.l.length xic) (.int .i64 X.f) by rw [← hWn]; exact At3.put3 HVX.out _ _ _)
              replace HVY := Lib.hid (show At3 W25 by' (.slice none 0 0) (.slice none 0 0) (.int .i64 0) by rw [← hWn]; exact (((HVY.out.grown (grown_setCell _ ⟨bx, 0, none⟩ _) (by simpa using HNE.out)).grown (grown_setCell _ ⟨bx, 1, none⟩ _) (by simpa using HNE.out)).grown (grown_setCell _ ⟨bx, 2, none⟩ _) (by simpa using HNE.out)))
              replace HXP := Lib.hid (show IsP W25 (fun b => b < w0.heap.size ∨ (W20.heap.size ≤ b ∧ b < W21.heap.size)) (.agg #[.slice xso X.s.length xsc, .slice xio X.l.length xic, .int .i64 X.f]) X by
                have hno : ¬ (bx < w0.heap.size ∨ (W20.heap.size ≤ bx ∧ bx < W21.heap.size)) := by (have := HZ.out; omega)
                rw [← hWn]; exact HXP.out.keep (((Kept.setCell _ _ _ hno).trans (Kept.setCell _ _ _ hno)).trans (Kept.setCell _ _ _ hno)) (fun _ _ h => h))
              replace HYP := Lib.hid (show IsP W25 (fun b => b < w0.heap.size ∨ (W21.heap.size ≤ b ∧ b < W22.heap.size)) (.agg #[.slice yso Y.s.length ysc, .slice yio Y.l.length yic, .int .i64 Y.f]) Y by
                have hno : ¬ (bx < w0.heap.size ∨ (W21.heap.size ≤ bx ∧ bx < W22.heap.size)) := by (have := HZ.out; omega)
                rw [← hWn]; exact HYP.out.keep (((Kept.setCell _ _ _ hno).trans (Kept.setCell _ _ _ hno)).trans (Kept.setCell _ _ _ hno)) (fun _ _ h => h))
              replace HW0 := Lib.hid (show Below w0.heap.size w0 W25 by rw [← hWn]; exact (((HW0.out.setCell (by show w0.heap.size ≤ bx; exact HG0.out) _).setCell (by show w0.heap.size ≤ bx; exact HG0.out) _).setCell (by show w0.heap.size ≤ bx; exact HG0.out) _))
              clear hWn HNE
              refine hK.out _ _ ?_ (fun hHeld => ?_)
              · exact HHL.out _ HW0.out
              clear hK K
              refine wpAnyH_ready (rs := [7]) (by kernel_rfl) (by simp) ?_
              refine AllReadyH.cons (o := _) rfl (fun K hK => ?_) ?_
              · clear hHeld
                have s0 := HVY.out.2.1
                have s1 := HVY.out.2.2.1
                have s2 := HVY.out.2.2.2.1
                have t0 := HVY.out.2.2.2.2 0
                have t1 := HVY.out.2.2.2.2 1
                have t2 := HVY.out.2.2.2.2 2
                go_simp
                clear s0 t0 s1 t1 s2 t2
                obtain ⟨W26, hWn⟩ : ∃ xw9, (((W25.setCell ⟨by', 0, none⟩ (.slice yso Y.s.length ysc)).setCell ⟨by', 1, none⟩ (.slice yio Y.l.length yic)).setCell ⟨by', 2, none⟩ (.int .i64 Y.f)) = xw9 := ⟨_, rfl⟩
                rw [hWn]
                have HNE := Lib.hid (show bx ≠ by' by (have := HZ.out; omega))
                replace HVY := Lib.hid (show At3 W26 by' (.slice yso Y.s.length ysc) (.slice yio Y.l.length yic) (.int .i64 Y.f) by rw [← hWn]; exact At3.put3 HVY.out _ _ _)
                replace HVX := Lib.hid (show At3 W26 bx (.slice xso X.s.length xsc) (.slice xio X.l.length xic) (.int .i64 X.f) by rw [← hWn]; exact (((HVX.out.grown (grown_setCell _ ⟨by', 0, none⟩ _) (by simpa using HNE.out)).grown (grown_setCell _ ⟨by', 1, none⟩ _) (by simpa using HNE.out)).grown (grown_setCell _ ⟨by', 2, none⟩ _) (by simpa using HNE.out)))
                replace HXP := Lib.hid (show IsP W26 (fun b => b < w0.heap.size ∨ (W20.heap.size ≤ b ∧ b < W21.heap.size)) (.agg #[.slice xso X.s.length xsc, .slice xio X.l.length xic, .int .i64 X.f]) X by
                  have hno : ¬ (by' < w0.heap.size ∨ (W20.heap.size ≤ by' ∧ by' < W21.heap.size)) := by (have := HZ.out; omega)
                  rw [← hWn]; exact HXP.out.keep (((Kept.setCell _ _ _ hno).trans (Kept.setCell _ _ _ hno)).trans (Kept.setCell _ _ _ hno)) (fun _ _ h => h))
                replace HYP := Lib.hid (show IsP W26 (fun b => b < w0.heap.size ∨ (W21.heap.size ≤ b ∧ b < W22.heap.size)) (.agg #[.slice yso Y.s.length ysc, .slice yio Y.l.length yic, .int .i64 Y.f]) Y by
                  have hno : ¬ (by' < w0.heap.size ∨ (W21.heap.size ≤ by' ∧ by' < W22.heap.size)) := by (have := HZ.out; omega)
                  rw [← hWn]; exact HYP.out.keep (((Kept.setCell _ _ _ hno).trans (Kept.setCell _ _ _ hno)).trans (Kept.setCell _ _ _ hno)) (fun _ _ h => h))
                replace HW0 := Lib.hid (show Below w0.heap.size w0 W26 by rw [← hWn]; exact (((HW0.out.setCell (by show w0.heap.size ≤ by'; exact HG1.out) _).setCell (by show w0.heap.size ≤ by'; exact HG1.out) _).setCell (by show w0.heap.size ≤ by'; exact HG1.out) _))
                clear hWn HNE
                refine hK.out _ _ ?_ (fun hHeld => ?_)
                · exact HHL.out _ HW0.out
                clear hK K
                refine wpAnyH_done (by kernel_rfl) ?_ _
                clear hHeld
                exact ⟨rfl, bx, by', xso, xio, yso, yio, xsc, xic, ysc, yic, rfl, HVX.out, HVY.out, HXP.out.wide (fun _ _ _ => trivial), HYP.out.wide (fun _ _ _ => trivial), HW0.out⟩
              exact AllReadyH.nil
            exact AllReadyH.nil
          exact AllReadyH.nil
        refine AllReadyH.cons (o := _) rfl (fun K hK => ?_) ?_
        · clear hHeld
          go_simp
          obtain ⟨W23, hWn⟩ : ∃ xw9, W22.alloc (.cells #[.slice none 0 0, .slice none 0 0, .int .i64 0] 25) = xw9 := ⟨_, rfl⟩
          have hB : Below W22.heap.size W22 W23 := by rw [← hWn]; exact below_new _ _
          have hNB : At3 W23 W22.heap.size (.slice none 0 0) (.slice none 0 0) (.int .i64 0) := by rw [← hWn]; exact At3.new _ _ _ _ _
          rw [hWn]
          clear hWn
          obtain ⟨by', hnm⟩ : ∃ x, W22.heap.size = x := ⟨_, rfl⟩
          rw [hnm] at hNB ⊢
          replace HZ := Lib.hid (And.intro HZ.out (And.intro hnm hNB.1))
          replace HW0 := Lib.hid (HW0.out.trans (hB.mono HW0.out.size))
          replace HXP := Lib.hid (HXP.out.grow hB)
          replace HYP := Lib.hid (HYP.out.grow hB)
          have HVY := Lib.hid hNB
          clear hNB hB hnm
          have HG1 := Lib.hid (show w0.heap.size ≤ by' by (have := HZ.out; omega))
          replace HZ := Lib.hid (And.intro HZ.out HG1.out)
          refine hK.out _ _ ?_ (fun hHeld => ?_)
          · exact HHL.out _ HW0.out
          clear hK K
          refine wpAnyH_ready (rs := [4]) (by kernel_rfl) (by simp) ?_
          refine AllReadyH.cons (o := _) rfl (fun K hK => ?_) ?_
          · clear hHeld
            go_simp
            obtain ⟨W24, hWn⟩ : ∃ xw9, W23.alloc (.cells #[.slice none 0 0, .slice none 0 0, .int .i64 0] 25) = xw9 := ⟨_, rfl⟩
            have hB : Below W23.heap.size W23 W24 := by rw [← hWn]; exact below_new _ _
            have hNB : At3 W24 W23.heap.size (.slice none 0 0) (.slice none 0 0) (.int .i64 0) := by rw [← hWn]; exact At3.new _ _ _ _ _
            rw [hWn]
            clear hWn
            obtain ⟨bx, hnm⟩ : ∃ x, W23.heap.size = x := ⟨_, rfl⟩
            rw [hnm] at hNB ⊢
            replace HZ := Lib.hid (And.intro HZ.out (And.intro hnm hNB.1))
            replace HW0 := Lib.hid (HW0.out.trans (hB.mono HW0.out.size))
            replace HXP := Lib.hid (HXP.out.grow hB)
            replace HYP := Lib.hid (HYP.out.grow hB)
            replace HVY := Lib.hid (HVY.out.below hB)
            have HVX := Lib.hid hNB
            clear hNB hB hnm
            have HG0 := Lib.hid (show w0.heap.size ≤ bx by (have := HZ.out; omega))
            replace HZ := Lib.hid (And.intro HZ.out HG0.out)
            refine hK.out _ _ ?_ (fun hHeld => ?_)
            · exact HHL.out _ HW0.out
            clear hK K
            refine wpAnyH_ready (rs := [6]) (by kernel_rfl) (by simp) ?_
            refine AllReadyH.cons (o := _) rfl (fun K hK => ?_) ?_
            · clear hHeld
              have s0 := HVX.out.2.1
              have s1 := HVX.out.2.2.1
              have s2 := HVX.out.2.2.2.1
              have t0 := HVX.out.2.2.2.2 0
              have t1 := HVX.out.2.2.2.2 1
              have t2 := HVX.out.2.2.2.2 2
              go_simp
              clear s0 t0 s1 t1 s2 t2
              obtain ⟨W25, hWn⟩ : ∃ xw9, (((W24.setCell ⟨bx, 0, none⟩ (.slice xso X.s.length xsc)).setCell ⟨bx, 1, none⟩ (.slice xio X.l.length xic)).setCell ⟨bx, 2, none⟩ (.int .i64 X.f)) = xw9 := ⟨_, rfl⟩
              rw [hWn]
              have HNE := Lib.hid (show by' ≠ bx by (have := HZ.out; omega))
              replace HVX := Lib.hid (show At3 W25 bx (.slice xso X.s.length xsc) (.slice xio X.l.length xic) (.int .i64 X.f) by rw [← hWn]; exact At3.put3 HVX.out _ _ _)
              replace HVY := Lib.hid (show At3 W25 by' (.slice none 0 0) (.slice none 0 0) (.int .i64 0) by rw [← hWn]; exact (((HVY.out.grown (grown_setCell _ ⟨bx, 0, none⟩ _) (by simpa using HNE.out)).grown (grown_setCell _ ⟨bx, 1, none⟩ _) (by simpa using HNE.out)).grown (grown_setCell _ ⟨bx, 2, none⟩ _) (by simpa using HNE.out)))
              replace HXP := Lib.hid (show IsP W25 (fun b => b < w0.heap.size ∨ (W20.heap.size ≤ b ∧ b < W21.heap.size)) (.agg #[.slice xso X.s.length xsc, .slice xio X.l.length xic, .int .i64 X.f]) X by
                have hno : ¬ (bx < w0.heap.size ∨ (W20.heap.size ≤ bx ∧ bx < W21.heap.size)) := by (have := HZ.out; omega)
                rw [← hWn]; exact HXP.out.keep (((Kept.setCell _ _ _ hno).trans (Kept.setCell _ _ _ hno)).trans (Kept.setCell _ _ _ hno)) (fun _ _ h => h))
              replace HYP := Lib.hid (show IsP W25 (fun b => b < w0.heap.size ∨ (W21.heap.size ≤ b ∧ b < W22.heap.size)) (.agg #[.slice yso Y.s.length ysc, .slice yio Y.l.length yic, .int .i64 Y.f]) Y by
                have hno : ¬ (bx < w0.heap.size ∨ (W21.heap.size ≤ bx ∧ bx < W22.heap.size)) := by (have := HZ.out; omega)
                rw [← hWn]; exact HYP.out.keep (((Kept.setCell _ _ _ hno).trans (Kept.setCell _ _ _ hno)).trans (Kept.setCell _ _ _ hno)) (fun _ _ h => h))
              replace HW0 := Lib.hid (show Below w0.heap.size w0 W25 by rw [← hWn]; exact (((HW0.out.setCell (by show w0.heap.size ≤ bx; exact HG0.out) _).setCell (by show w0.heap.size ≤ bx; exact HG0.out) _).setCell (by show w0.heap.size ≤ bx; exact HG0.out) _))
              clear hWn HNE
              refine hK.out _ _ ?_ (fun hHeld => ?_)
              · exact HHL.out _ HW0.out
              clear hK K
              refine wpAnyH_ready (rs := [7]) (by kernel_rfl) (by simp) ?_
              refine AllReadyH.cons (o := _) rfl (fun K hK => ?_) ?_
              · clear hHeld
                have s0 := HVY.out.2.1
                have s1 := HVY.out.2.2.1
                have s2 := HVY.out.2.2.2.1
                have t0 := HVY.out.2.2.2.2 0
                have t1 := HVY.out.2.2.2.2 1
                have t2 := HVY.out.2.2.2.2 2
                go_simp
                clear s0 t0 s1 t1 s2 t2
                obtain ⟨W26, hWn⟩ : ∃ xw9, (((W25.setCell ⟨by', 0, none⟩ (.slice yso Y.s.length ysc)).setCell ⟨by', 1, none⟩ (.slice yio Y.l.length yic)).setCell ⟨by', 2, none⟩ (.int .i64 Y.f)) = xw9 := ⟨_, rfl⟩
                rw [hWn]
                have HNE := Lib.hid (show bx ≠ by' by (have := HZ.out; omega))
                replace HVY := Lib.hid (show At3 W26 by' (.slice yso Y.s.length ysc) (.slice yio Y.l.length yic) (.int .i64 Y.f) by rw [← hWn]; exact At3.put3 HVY.out _ _ _)
                replace HVX := Lib.hid (show At3 W26 bx (.slice xso X.s.length xsc) (.slice xio X.l.length xic) (.int .i64 X.f) by rw [← hWn]; exact (((HVX.out.grown (grown_setCell _ ⟨by', 0, none⟩ _) (by simpa using HNE.out)).grown (grown_setCell _ ⟨by', 1, none⟩ _) (by simpa using HNE.out)).grown (grown_setCell _ ⟨by', 2, none⟩ _) (by simpa using HNE.out)))
                replace HXP := Lib.hid (show IsP W26 (fun b => b < w0.heap.size ∨ (W20.heap.size ≤ b ∧ b < W21.heap.size)) (.agg #[.slice xso X.s.length xsc, .slice xio X.l.length xic, .int .i64 X.f]) X by
                  have hno : ¬ (by' < w0.heap.size ∨ (W20.heap.size ≤ by' ∧ by' < W21.heap.size)) := by (have := HZ.out; omega)
                  rw [← hWn]; exact HXP.out.keep (((Kept.setCell _ _ _ hno).trans (Kept.setCell _ _ _ hno)).trans (Kept.setCell _ _ _ hno)) (fun _ _ h => h))
                replace HYP := Lib.hid (show IsP W26 (fun b => b < w0.heap.size ∨ (W21.heap.size ≤ b ∧ b < W22.heap.size)) (.agg #[.slice yso Y.s.length ysc, .slice yio Y.l.length yic, .int .i64 Y.f]) Y by
                  have hno : ¬ (by' < w0.heap.size ∨ (W21.heap.size ≤ by' ∧ by' < W22.heap.size)) := by (have := HZ.out; omega)
                  rw [← hWn]; exact HYP.out.keep (((Kept.setCell _ _ _ hno).trans (Kept.setCell _ _ _ hno)).trans (Kept.setCell _ _ _ hno)) (fun _ _ h => h))
                replace HW0 := Lib.hid (show Below w0.heap.size w0 W26 by rw [← hWn]; exact (((HW0.out.setCell (by show w0.heap.size ≤ by'; exact HG1.out) _).setCell (by show w0.heap.size ≤ by'; exact HG1.out) _).setCell (by show w0.heap.size ≤ by'; exact HG1.out) _))
                clear hWn HNE
                refine hK.out _ _ ?_ (fun hHeld => ?_)
                · exact HHL.out _ HW0.out
                clear hK K
                refine wpAnyH_done (by kernel_rfl) ?_ _
                clear hHeld
                exact ⟨rfl, bx, by', xso, xio, yso, yio, xsc, xic, ysc, yic, rfl, HVX.out, HVY.out, HXP.out.wide (fun _ _ _ => trivial), HYP.out.wide (fun _ _ _ => trivial), HW0.out⟩
              exact AllReadyH.nil
            exact AllReadyH.nil
          exact AllReadyH.nil
        exact AllReadyH.nil
      refine AllReadyH.cons (o := _) rfl (fun K hK => ?_) ?_
      · clear hHeld
        go_simp
        obtain ⟨W22, hWn⟩ : ∃ xw9, W21.alloc (.cells #[.slice none 0 0, .slice none 0 0, .int .i64 0] 25) = xw9 := ⟨_, rfl⟩
        have hB : Below W21.heap.size W21 W22 := by rw [← hWn]; exact below_new _ _
        have hNB : At3 W22 W21.heap.size (.slice none 0 0) (.slice none 0 0) (.int .i64 0) := by rw [← hWn]; exact At3.new _ _ _ _ _
        rw [hWn]
        clear hWn
        obtain ⟨bx, hnm⟩ : ∃ x, W21.heap.size = x := ⟨_, rfl⟩
        rw [hnm] at hNB ⊢
        replace HZ := Lib.hid (And.intro HZ.out (And.intro hnm hNB.1))
        replace HW0 := Lib.hid (HW0.out.trans (hB.mono HW0.out.size))
        replace HXP := Lib.hid (HXP.out.grow hB)
        have HVX := Lib.hid hNB
        clear hNB hB hnm
        have HG0 := Lib.hid (show w0.heap.size ≤ bx by (have := HZ.out; omega))
        replace HZ := Lib.hid (And.intro HZ.out HG0.out)
        refine hK.out _ _ ?_ (fun hHeld => ?_)
        · exact HHL.out _ HW0.out
        clear hK K
        refine wpAnyH_ready (rs := [3, 5]) (by kernel_rfl) (by simp) ?_
        refine AllReadyH.cons (o := _) rfl (fun K hK => ?_) ?_
        · clear hHeld
          go_simp
          have HWO1 := Lib.hid (show w.heap.size ≤ w0.heap.size from HWW.out)
          refine (ptidy_calls 40 _ q _ _ HCQ.out (HI2.out.grow HW0.out)).mono ?_
          rintro e W23 ⟨uy, rfl, hY, hB⟩
          replace HZ := Lib.hid (And.intro HZ.out hB.size)
          replace HW0 := Lib.hid (HW0.out.trans (hB.mono HW0.out.size))
          replace HXP := Lib.hid (HXP.out.grow hB)
          replace HVX := Lib.hid (HVX.out.below hB)
          rw [← HXE.out.2] at hY
          obtain ⟨yso, ysc, yio, yic, rfl, _⟩ := hY.opened
          have HYP := Lib.hid (show IsP W23 (fun b => b < w0.heap.size ∨ (W22.heap.size ≤ b ∧ b < W23.heap.size)) (.agg #[.slice yso Y.s.length ysc, .slice yio Y.l.length yic, .int .i64 Y.f]) Y from hY.wide (fun b h1 h2 => by
            rcases h2 with h2 | h2
            · exact .inl (Nat.lt_of_lt_of_le h2.1 HWO1.out)
            · exact .inr ⟨h2, h1⟩))
          clear hY
          clear hB
          try go_simp
          refine hK.out _ _ ?_ (fun hHeld => ?_)
          · exact HHL.out _ HW0.out
          clear hK K
          refine wpAnyH_ready (rs := [5]) (by kernel_rfl) (by simp) ?_
          refine AllReadyH.cons (o := _) rfl (fun K hK => ?_) ?_
          · clear hHeld
            go_simp
            obtain ⟨W24, hWn⟩ : ∃ xw9, W23.alloc (.cells #[.slice none 0 0, .slice none 0 0, .int .i64 0] 25) = xw9 := ⟨_, rfl⟩
            have hB : Below W23.heap.size W23 W24 := by rw [← hWn]; exact below_new _ _
            have hNB : At3 W24 W23.heap.size (.slice none 0 0) (.slice none 0 0) (.int .i64 0) := by rw [← hWn]; exact At3.new _ _ _ _ _
            rw [hWn]
            clear hWn
            obtain ⟨by', hnm⟩ : ∃ x, W23.heap.size = x := ⟨_, rfl⟩
            rw [hnm] at hNB ⊢
            replace HZ := Lib.hid (And.intro HZ.out (And.intro hnm hNB.1))
            replace HW0 := Lib.hid (HW0.out.trans (hB.mono HW0.out.size))
            replace HXP := Lib.hid (HXP.out.grow hB)
            replace HVX := Lib.hid (HVX.out.below hB)
            replace HYP := Lib.hid (HYP.out.grow hB)
            have HVY := Lib.hid hNB
            clear hNB hB hnm
            have HG1 := Lib.hid (show w0.heap.size ≤ by' by (have := HZ.out; omega))
            replace HZ := Lib.hid (And.intro HZ.out HG1.out)
            refine hK.out _ _ ?_ (fun hHeld => ?_)
            · exact HHL.out _ HW0.out
            clear hK K
            refine wpAnyH_ready (rs := [6]) (by kernel_rfl) (by simp) ?_
            refine AllReadyH.cons (o := _) rfl (fun K hK => ?_) ?_
            · clear hHeld
              have s0 := HVX.out.2.1
              have s1 := HVX.out.2.2.1
              have s2 := HVX.out.2.2.2.1
              have t0 := HVX.out.2.2.2.2 0
              have t1 := HVX.out.2.2.2.2 1
              have t2 := HVX.out.2.2.2.2 2
              go_simp
              clear s0 t0 s1 t1 s2 t2
              obtain ⟨W25, hWn⟩ : ∃ xw9, (((W24.setCell ⟨bx, 0, none⟩ (.slice xso X.s.length xsc)).setCell ⟨bx, 1, none⟩ (.slice xio X.l.length xic)).setCell ⟨bx, 2, none⟩ (.int .i64 X.f)) = xw9 := ⟨_, rfl⟩
              rw [hWn]
              have HNE := Lib.hid (show by' ≠ bx by (have := HZ.out; omega))
              replace HVX := Lib.hid (show At3 W25 bx (.slice xso X.s.length xsc) (.slice xio X.l.length xic) (.int .i64 X.f) by rw [← hWn]; exact At3.put3 HVX.out _ _ _)
              replace HVY := Lib.hid (show At3 W25 by' (.slice none 0 0) (.slice none 0 0) (.int .i64 0) by rw [← hWn]; exact (((HVY.out.grown (grown_setCell _ ⟨bx, 0, none⟩ _) (by simpa using HNE.out)).grown (grown_setCell _ ⟨bx, 1, none⟩ _) (by simpa using HNE.out)).grown (grown_setCell _ ⟨bx, 2, none⟩ _) (by simpa using HNE.out)))
              replace HXP := Lib.hid (show IsP W25 (fun b => b < w0.heap.size ∨ (W20.heap.size ≤ b ∧ b < W21.heap.size)) (.agg #[.slice xso X.s.length xsc, .slice xio X.l.length xic, .int .i64 X.f]) X by
                have hno : ¬ (bx < w0.heap.size ∨ (W20.heap.size ≤ bx ∧ bx < W21.heap.size)) := by (have := HZ.out; omega)
                rw [← hWn]; exact HXP.out.keep (((Kept.setCell _ _ _ hno).trans (Kept.setCell _ _ _ hno)).trans (Kept.setCell _ _ _ hno)) (fun _ _ h => h))
              replace HYP := Lib.hid (show IsP W25 (fun b => b < w0.heap.size ∨ (W22.heap.size ≤ b ∧ b < W23.heap.size)) (.agg #[.slice yso Y.s.length ysc, .slice yio Y.l.length yic, .int .i64 Y.f]) Y by
                have hno : ¬ (bx < w0.heap.size ∨ (W22.heap.size ≤ bx ∧ bx < W23.heap.size)) := by (have := HZ.out; omega)
                rw [← hWn]; exact HYP.out.keep (((Kept.setCell _ _ _ hno).trans (Kept.setCell _ _ _ hno)).trans (Kept.setCell _ _ _ hno)) (fun _ _ h => h))
              replace HW0 := Lib.hid (show Below w0.heap.size w0 W25 by rw [← hWn]; exact (((HW0.out.setCell (by show w0.heap.size ≤ bx; exact HG0.out) _).setCell (by show w0.heap.size ≤ bx; exact HG0.out) _).setCell (by show w0.heap.size ≤ bx; exact HG0.out) _))
              clear hWn HNE
              refine hK.out _ _ ?_ (fun hHeld => ?_)
              · exact HHL.out _ HW0.out
              clear hK K
              refine wpAnyH_ready (rs := [7]) (by kernel_rfl) (by simp) ?_
              refine AllReadyH.cons (o := _) rfl (fun K hK => ?_) ?_
              · clear hHeld
                have s0 := HVY.out.2.1
                have s1 := HVY.out.2.2.1
                have s2 := HVY.out.2.2.2.1
                have t0 := HVY.out.2.2.2.2 0
                have t1 := HVY.out.2.2.2.2 1
                have t2 := HVY.out.2.2.2.2 2
                go_simp
                clear s0 t0 s1 t1 s2 t2
                obtain ⟨W26, hWn⟩ : ∃ xw9, (((W25.setCell ⟨by', 0, none⟩ (.slice yso Y.s.length ysc)).setCell ⟨by', 1, none⟩ (.slice yio Y.l.length yic)).setCell ⟨by', 2, none⟩ (.int .i64 Y.f)) = xw9 := ⟨_, rfl⟩
                rw [hWn]
                have HNE := Lib.hid (show bx ≠ by' by (have := HZ.out; omega))
                replace HVY := Lib.hid (show At3 W26 by' (.slice yso Y.s.length ysc) (.slice yio Y.l.length yic) (.int .i64 Y.f) by rw [← hWn]; exact At3.put3 HVY.out _ _ _)
                replace HVX := Lib.hid (show At3 W26 bx (.slice xso X.s.length xsc) (.slice xio X.l.length xic) (.int .i64 X.f) by rw [← hWn]; exact (((HVX.out.grown (grown_setCell _ ⟨by', 0, none⟩ _) (by simpa using HNE.out)).grown (grown_setCell _ ⟨by', 1, none⟩ _) (by simpa using HNE.out)).grown (grown_setCell _ ⟨by', 2, none⟩ _) (by simpa using HNE.out)))
                replace HXP := Lib.hid (show IsP W26 (fun b => b < w0.heap.size ∨ (W20.heap.size ≤ b ∧ b < W21.heap.size)) (.agg #[.slice xso X.s.length xsc, .slice xio X.l.length xic, .int .i64 X.f]) X by
                  have hno : ¬ (by' < w0.heap.size ∨ (W20.heap.size ≤ by' ∧ by' < W21.heap.size)) := by (have := HZ.out; omega)
                  rw [← hWn]; exact HXP.out.keep (((Kept.setCell _ _ _ hno).trans (Kept.setCell _ _ _ hno)).trans (Kept.setCell _ _ _ hno)) (fun _ _ h => h))
                replace HYP := Lib.hid (show IsP W26 (fun b => b < w0.heap.size ∨ (W22.heap.size ≤ b ∧ b < W23.heap.size)) (.agg #[.slice yso Y.s.length ysc, .slice yio Y.l.length yic, .int .i64 Y.f]) Y by
                  have hno : ¬ (by' < w0.heap.size ∨ (W22.heap.size ≤ by' ∧ by' < W23.heap.size)) := by (have := HZ.out; omega)
                  rw [← hWn]; exact HYP.out.keep (((Kept.setCell _ _ _ hno).trans (Kept.setCell _ _ _ hno)).trans (Kept.setCell _ _ _ hno)) (fun _ _ h => h))
                replace HW0 := Lib.hid (show Below w0.heap.size w0 W26 by rw [← hWn]; exact (((HW0.out.setCell (by show w0.heap.size ≤ by'; exact HG1.out) _).setCell (by show w0.heap.size ≤ by'; exact HG1.out) _).setCell (by show w0.heap.size ≤ by'; exact HG1.out) _))
                clear hWn HNE
                refine hK.out _ _ ?_ (fun hHeld => ?_)
                · exact HHL.out _ HW0.out
                clear hK K
                refine wpAnyH_done (by kernel_rfl) ?_ _
                clear hHeld
                exact ⟨rfl, bx, by', xso, xio, yso, yio, xsc, xic, ysc, yic, rfl, HVX.out, HVY.out, HXP.out.wide (fun _ _ _ => trivial), HYP.out.wide (fun _ _ _ => trivial), HW0.out⟩
              exact AllReadyH.nil
            exact AllReadyH.nil
          exact AllReadyH.nil
        refine AllReadyH.cons (o := _) rfl (fun K hK => ?_) ?_
        · clear hHeld
          go_simp
          obtain ⟨W23, hWn⟩ : ∃ xw9, W22.alloc (.cells #[.slice none 0 0, .slice none 0 0, .int .i64 0] 25) = xw9 := ⟨_, rfl⟩
          have hB : Below W22.heap.size W22 W23 := by rw [← hWn]; exact below_new _ _
          have hNB : At3 W23 W22.heap.size (.slice none 0 0) (.slice none 0 0) (.int .i64 0) := by rw [← hWn]; exact At3.new _ _ _ _ _
          rw [hWn]
          clear hWn
          obtain ⟨by', hnm⟩ : ∃ x, W22.heap.size = x := ⟨_, rfl⟩
          rw [hnm] at hNB ⊢
          replace HZ := Lib.hid (And.intro HZ.out (And.intro hnm hNB.1))
          replace HW0 := Lib.hid (HW0.out.trans (hB.mono HW0.out.size))
          replace HXP := Lib.hid (HXP.out.grow hB)
          replace HVX := Lib.hid (HVX.out.below hB)
          have HVY := Lib.hid hNB
          clear hNB hB hnm
          have HG1 := Lib.hid (show w0.heap.size ≤ by' by (have := HZ.out; omega))
          replace HZ := Lib.hid (And.intro HZ.out HG1.out)
          refine hK.out _ _ ?_ (fun hHeld => ?_)
          · exact HHL.out _ HW0.out
          clear hK K
          refine wpAnyH_ready (rs := [3]) (by kernel_rfl) (by simp) ?_
          refine AllReadyH.cons (o := _) rfl (fun K hK => ?_) ?_
          · clear hHeld
            go_simp
            have HWO1 := Lib.hid (show w.heap.size ≤ w0.heap.size from HWW.out)
            refine (ptidy_calls 40 _ q _ _ HCQ.out (HI2.out.grow HW0.out)).mono ?_
            rintro e W24 ⟨uy, rfl, hY, hB⟩
            replace HZ := Lib.hid (And.intro HZ.out hB.size)
            replace HW0 := Lib.hid (HW0.out.trans (hB.mono HW0.out.size))
            replace HXP := Lib.hid (HXP.out.grow hB)
            replace HVX := Lib.hid (HVX.out.below hB)
            replace HVY := Lib.hid (HVY.out.below hB)
            rw [← HXE.out.2] at hY
            obtain ⟨yso, ysc, yio, yic, rfl, _⟩ := hY.opened
            have HYP := Lib.hid (show IsP W24 (fun b => b < w0.heap.size ∨ (W23.heap.size ≤ b ∧ b < W24.heap.size)) (.agg #[.slice yso Y.s.length ysc, .slice yio Y.l.length yic, .int .i64 Y.f]) Y from hY.wide (fun b h1 h2 => by
              rcases h2 with h2 | h2
              · exact .inl (Nat.lt_of_lt_of_le h2.1 HWO1.out)
              · exact .inr ⟨h2, h1⟩))
            clear hY
            clear hB
            try go_simp
            refine hK.out _ _ ?_ (fun hHeld => ?_)
            · exact HHL.out _ HW0.out
            clear hK K
            refine wpAnyH_ready (rs := [6]) (by kernel_rfl) (by simp) ?_
            refine AllReadyH.cons (o := _) rfl (fun K hK => ?_) ?_
            · clear hHeld
              have s0 := HVX.out.2.1
              have s1 := HVX.out.2.2.1
              have s2 := HVX.out.2.2.2.1
              have t0 := HVX.out.2.2.2.2 0
              have t1 := HVX.out.2.2.2.2 1
              have t2 := HVX.out.2.2.2.2 2
              go_simp
              clear s0 t0 s1 t1 s2 t2
              obtain ⟨W25, hWn⟩ : ∃ xw9, (((W24.setCell ⟨bx, 0, none⟩ (.slice xso X.s.length xsc)).setCell ⟨bx, 1, none⟩ (.slice xio X.l.length xic)).setCell ⟨bx, 2, none⟩ (.int .i64 X.f)) = xw9 := ⟨_, rfl⟩
              rw [hWn]
              have HNE := Lib.hid (show by' ≠ bx by (have := HZ.out; omega))
              replace HVX := Lib.hid (show At3 W25 bx (.slice xso X.s.length xsc) (.slice xio X.l.length xic) (.int .i64 X.f) by rw [← hWn]; exact At3.put3 HVX.out _ _ _)
              replace HVY := Lib.hid (show At3 W25 by' (.slice none 0 0) (.slice none 0 0) (.int .i64 0) by rw [← hWn]; exact (((HVY.out.grown (grown_setCell _ ⟨bx, 0, none⟩ _) (by simpa using HNE.out)).grown (grown_setCell _ ⟨bx, 1, none⟩ _) (by simpa using HNE.out)).grown (grown_setCell _ ⟨bx, 2, none⟩ _) (by simpa using HNE.out)))
              replace HXP := Lib.hid (show IsP W25 (fun b => b < w0.heap.size ∨ (W20.heap.size ≤ b ∧ b < W21.heap.size)) (.agg #[.slice xso X.s.length xsc, .slice xio X.l.length xic, .int .i64 X.f]) X by
                have hno : ¬ (bx < w0.heap.size ∨ (W20.heap.size ≤ bx ∧ bx < W21.heap.size)) := by (have := HZ.out; omega)
                rw [← hWn]; exact HXP.out.keep (((Kept.setCell _ _ _ hno).trans (Kept.setCell _ _ _ hno)).trans (Kept.setCell _ _ _ hno)) (fun _ _ h => h))
              replace HYP := Lib.hid (show IsP W25 (fun b => b < w0.heap.size ∨ (W23.heap.size ≤ b ∧ b < W24.heap.size)) (.agg #[.slice yso Y.s.length ysc, .slice yio Y.l.length yic, .int .i64 Y.f]) Y by
                have hno : ¬ (bx < w0.heap.size ∨ (W23.heap.size ≤ bx ∧ bx < W24.heap.size)) := by (have := HZ.out; omega)
                rw [← hWn]; exact HYP.out.keep (((Kept.setCell _ _ _ hno).trans (Kept.setCell _ _ _ hno)).trans (Kept.setCell _ _ _ hno)) (fun _ _ h => h))
              replace HW0 := Lib.hid (show Below w0.heap.size w0 W25 by rw [← hWn]; exact (((HW0.out.setCell (by show w0.heap.size ≤ bx; exact HG0.out) _).setCell (by show w0.heap.size ≤ bx; exact HG0.out) _).setCell (by show w0.heap.size ≤ bx; exact HG0.out) _))
              clear hWn HNE
              refine hK.out _ _ ?_ (fun hHeld => ?_)
              · exact HHL.out _ HW0.out
              clear hK K
              refine wpAnyH_ready (rs := [7]) (by kernel_rfl) (by simp) ?_
              refine AllReadyH.cons (o := _) rfl (fun K hK => ?_) ?_
              · clear hHeld
                have s0 := HVY.out.2.1
                have s1 := HVY.out.2.2.1
                have s2 := HVY.out.2.2.2.1
                have t0 := HVY.out.2.2.2.2 0
                have t1 := HVY.out.2.2.2.2 1
                have t2 := HVY.out.2.2.2.2 2
                go_simp
                clear s0 t0 s1 t1 s2 t2
                obtain ⟨W26, hWn⟩ : ∃ xw9, (((W25.setCell ⟨by', 0, none⟩ (.slice yso Y.s.length ysc)).setCell ⟨by', 1, none⟩ (.slice yio Y.l.length yic)).setCell ⟨by', 2, none⟩ (.int .i64 Y.f)) = xw9 := ⟨_, rfl⟩
                rw [hWn]
                have HNE := Lib.hid (show bx ≠ by' by (have := HZ.out; omega))
                replace HVY := Lib.hid (show At3 W26 by' (.slice yso Y.s.length ysc) (.slice yio Y.l.length yic) (.int .i64 Y.f) by rw [← hWn]; exact At3.put3 HVY.out _ _ _)
                replace HVX := Lib.hid (show At3 W26 bx (.slice xso X.s.length xsc) (.slice xio X.l.length xic) (.int .i64 X.f) by rw [← hWn]; exact (((HVX.out.grown (grown_setCell _ ⟨by', 0, none⟩ _) (by simpa using HNE.out)).grown (grown_setCell _ ⟨by', 1, none⟩ _) (by simpa using HNE.out)).grown (grown_setCell _ ⟨by', 2, none⟩ _) (by simpa using HNE.out)))
                replace HXP := Lib.hid (show IsP W26 (fun b => b < w0.heap.size ∨ (W20.heap.size ≤ b ∧ b < W21.heap.size)) (.agg #[.slice xso X.s.length xsc, .slice xio X.l.length xic, .int .i64 X.f]) X by
                  have hno : ¬ (by' < w0.heap.size ∨ (W20.heap.size ≤ by' ∧ by' < W21.heap.size)) := by (have := HZ.out; omega)
                  rw [← hWn]; exact HXP.out.keep (((Kept.setCell _ _ _ hno).trans (Kept.setCell _ _ _ hno)).trans (Kept.setCell _ _ _ hno)) (fun _ _ h => h))
                replace HYP := Lib.hid (show IsP W26 (fun b => b < w0.heap.size ∨ (W23.heap.size ≤ b ∧ b < W24.heap.size)) (.agg #[.slice yso Y.s.length ysc, .slice yio Y.l.length yic, .int .i64 Y.f]) Y by
                  have hno : ¬ (by' < w0.heap.size ∨ (W23.heap.size ≤ by' ∧ by' < W24.heap.size)) := by (have := HZ.out; omega)
                  rw [← hWn]; exact HYP.out.keep (((Kept.setCell _ _ _ hno).trans (Kept.setCell _ _ _ hno)).trans (Kept.setCell _ _ _ hno)) (fun _ _ h => h))
                replace HW0 := Lib.hid (show Below w0.heap.size w0 W26 by rw [← hWn]; exact (((HW0.out.setCell (by show w0.heap.size ≤ by'; exact HG1.out) _).setCell (by show w0.heap.size ≤ by'; exact HG1.out) _).setCell (by show w0.heap.size ≤ by'; exact HG1.out) _))
                clear hWn HNE
                refine hK.out _ _ ?_ (fun hHeld => ?_)
                · exact HHL.out _ HW0.out
                clear hK K
                refine wpAnyH_done (by kernel_rfl) ?_ _
                clear hHeld
                exact ⟨rfl, bx, by', xso, xio, yso, yio, xsc, xic, ysc, yic, rfl, HVX.out, HVY.out, HXP.out.wide (fun _ _ _ => trivial), HYP.out.wide (fun _ _ _ => trivial), HW0.out⟩
              exact AllReadyH.nil
            exact AllReadyH.nil
          exact AllReadyH.nil
        exact AllReadyH.nil
      refine AllReadyH.cons (o := _) rfl (fun K hK => ?_) ?_
      · clear hHeld
        go_simp
        obtain ⟨W22, hWn⟩ : ∃ xw9, W21.alloc (.cells #[.slice none 0 0, .slice none 0 0, .int .i64 0] 25) = xw9 := ⟨_, rfl⟩
        have hB : Below W21.heap.size W21 W22 := by rw [← hWn]; exact below_new _ _
        have hNB : At3 W22 W21.heap.size (.slice none 0 0) (.slice none 0 0) (.int .i64 0) := by rw [← hWn]; exact At3.new _ _ _ _ _
        rw [hWn]
        clear hWn
        obtain ⟨by', hnm⟩ : ∃ x, W21.heap.size = x := ⟨_, rfl⟩
        rw [hnm] at hNB ⊢
        replace HZ := Lib.hid (And.intro HZ.out (And.intro hnm hNB.1))
        replace HW0 := Lib.hid (HW0.out.trans (hB.mono HW0.out.size))
        replace HXP := Lib.hid (HXP.out.grow hB)
        have HVY := Lib.hid hNB
        clear hNB hB hnm
        have HG1 := Lib.hid (show w0.heap.size ≤ by' by (have := HZ.out; omega))
        replace HZ := Lib.hid (And.intro HZ.out HG1.out)
        refine hK.out _ _ ?_ (fun hHeld => ?_)
        · exact HHL.out _ HW0.out
        clear hK K
        refine wpAnyH_ready (rs := [3, 4]) (by kernel_rfl) (by simp) ?_
        refine AllReadyH.cons (o := _) rfl (fun K hK => ?_) ?_
        · clear hHeld
          go_simp
          have HWO1 := Lib.hid (show w.heap.size ≤ w0.heap.size from HWW.out)
          refine (ptidy_calls 40 _ q _ _ HCQ.out (HI2.out.grow HW0.out)).mono ?_
          rintro e W23 ⟨uy, rfl, hY, hB⟩
          replace HZ := Lib.hid (And.intro HZ.out hB.size)
          replace HW0 := Lib.hid (HW0.out.trans (hB.mono HW0.out.size))
          replace HXP := Lib.hid (HXP.out.grow hB)
          replace HVY := Lib.hid (HVY.out.below hB)
          rw [← HXE.out.2] at hY
          obtain ⟨yso, ysc, yio, yic, rfl, _⟩ := hY.opened
          have HYP := Lib.hid (show IsP W23 (fun b => b < w0.heap.size ∨ (W22.heap.size ≤ b ∧ b < W23.heap.size)) (.agg #[.slice yso Y.s.length ysc, .slice yio Y.l.length yic, .int .i64 Y.f]) Y from hY.wide (fun b h1 h2 => by
            rcases h2 with h2 | h2
            · exact .inl (Nat.lt_of_lt_of_le h2.1 HWO1.out)
            · exact .inr ⟨h2, h1⟩))
          clear hY
          clear hB
          try go_simp
          refine hK.out _ _ ?_ (fun hHeld => ?_)
          · exact HHL.out _ HW0.out
          clear hK K
          refine wpAnyH_ready (rs := [4]) (by kernel_rfl) (by simp) ?_
          refine AllReadyH.cons (o := _) rfl (fun K hK => ?_) ?_
          · clear hHeld
            go_simp
            obtain ⟨W24, hWn⟩ : ∃ xw9, W23.alloc (.cells #[.slice none 0 0, .slice none 0 0, .int .i64 0] 25) = xw9 := ⟨_, rfl⟩
            have hB : Below W23.heap.size W23 W24 := by rw [← hWn]; exact below_new _ _
            have hNB : At3 W24 W23.heap.size (.slice none 0 0) (.slice none 0 0) (.int .i64 0) := by rw [← hWn]; exact At3.new _ _ _ _ _
            rw [hWn]
            clear hWn
            obtain ⟨bx, hnm⟩ : ∃ x, W23.heap.size = x := ⟨_, rfl⟩
            rw [hnm] at hNB ⊢
            replace HZ := Lib.hid (And.intro HZ.out (And.intro hnm hNB.1))
            replace HW0 := Lib.hid (HW0.out.trans (hB.mono HW0.out.size))
            replace HXP := Lib.hid (HXP.out.grow hB)
            replace HVY := Lib.hid (HVY.out.below hB)
            replace HYP := Lib.hid (HYP.out.grow hB)
            have HVX := Lib.hid hNB
            clear hNB hB hnm
            have HG0 := Lib.hid (show w0.heap.size ≤ bx by (have := HZ.out; omega))
            replace HZ := Lib.hid (And.intro HZ.out HG0.out)
            refine hK.out _ _ ?_ (fun hHeld => ?_)
            · exact HHL.out _ HW0.out
            clear hK K
            refine wpAnyH_ready (rs := [6]) (by kernel_rfl) (by simp) ?_
            refine AllReadyH.cons (o := _) rfl (fun K hK => ?_) ?_
            · clear hHeld
              have s0 := HVX.out.2.1
              have s1 := HVX.out.2.2.1
              have s2 := HVX.out.2.2.2.1
              have t0 := HVX.out.2.2.2.2 0
              have t1 := HVX.out.2.2.2.2 1
              have t2 := HVX.out.2.2.2.2 2
              go_simp
              clear s0 t0 s1 t1 s2 t2
              obtain ⟨W25, hWn⟩ : ∃ xw9, (((W24.setCell ⟨bx, 0, none⟩ (.slice xso X.s.length xsc)).setCell ⟨bx, 1, none⟩ (.slice xio X.l.length xic)).setCell ⟨bx, 2, none⟩ (.int .i64 X.f)) = xw9 := ⟨_, rfl⟩
              rw [hWn]
              have HNE := Lib.hid (show by' ≠ bx by (have := HZ.out; omega))
              replace HVX := Lib.hid (show At3 W25 bx (.slice xso X.s.length xsc) (.slice xio X.l.length xic) (.int .i64 X.f) by rw [← hWn]; exact At3.put3 HVX.out _ _ _)
              replace HVY := Lib.hid (show At3 W25 by' (.slice none 0 0) (.slice none 0 0) (.int .i64 0) by rw [← hWn]; exact (((HVY.out.grown (grown_setCell _ ⟨bx, 0, none⟩ _) (by simpa using HNE.out)).grown (grown_setCell _ ⟨bx, 1, none⟩ _) (by simpa using HNE.out)).grown (grown_setCell _ ⟨bx, 2, none⟩ _) (by simpa using HNE.out)))
              replace HXP := Lib.hid (show IsP W25 (fun b => b < w0.heap.size ∨ (W20.heap.size ≤ b ∧ b < W21.heap.size)) (.agg #[.slice xso X.s.length xsc, .slice xio X.l.length xic, .int .i64 X.f]) X by
                have hno : ¬ (bx < w0.heap.size ∨ (W20.heap.size ≤ bx ∧ bx < W21.heap.size)) := by (have := HZ.out; omega)
                rw [← hWn]; exact HXP.out.keep (((Kept.setCell _ _ _ hno).trans (Kept.setCell _ _ _ hno)).trans (Kept.setCell _ _ _ hno)) (fun _ _ h => h))
              replace HYP := Lib.hid (show IsP W25 (fun b => b < w0.heap.size ∨ (W22.heap.size ≤ b ∧ b < W23.heap.size)) (.agg #[.slice yso Y.s.length ysc, .slice yio Y.l.length yic, .int .i64 Y.f]) Y by
                have hno : ¬ (bx < w0.heap.size ∨ (W22.heap.size ≤ bx ∧ bx < W23.heap.size)) := by (have := HZ.out; omega)
                rw [← hWn]; exact HYP.out.keep (((Kept.setCell _ _ _ hno).trans (Kept.setCell _ _ _ hno)).trans (Kept.setCell _ _ _ hno)) (fun _ _ h => h))
              replace HW0 := Lib.hid (show Below w0.heap.size w0 W25 by rw [← hWn]; exact (((HW0.out.setCell (by show w0.heap.size ≤ bx; exact HG0.out) _).setCell (by show w0.heap.size ≤ bx; exact HG0.out) _).setCell (by show w0.heap.size ≤ bx; exact HG0.out) _))
              clear hWn HNE
              refine hK.out _ _ ?_ (fun hHeld => ?_)
              · exact HHL.out _ HW0.out
              clear hK K
              refine wpAnyH_ready (rs := [7]) (by kernel_rfl) (by simp) ?_
              refine AllReadyH.cons (o := _) rfl (fun K hK => ?_) ?_
              · clear hHeld
                have s0 := HVY.out.2.1
                have s1 := HVY.out.2.2.1
                have s2 := HVY.out.2.2.2.1
                have t0 := HVY.out.2.2.2.2 0
                have t1 := HVY.out.2.2.2.2 1
                have t2 := HVY.out.2.2.2.2 2
                go_simp
                clear s0 t0 s1 t1 s2 t2
                obtain ⟨W26, hWn⟩ : ∃ xw9, (((W25.setCell ⟨by', 0, none⟩ (.slice yso Y.s.length ysc)).setCell ⟨by', 1, none⟩ (.slice yio Y.l.length yic)).setCell ⟨by', 2, none⟩ (.int .i64 Y.f)) = xw9 := ⟨_, rfl⟩
                rw [hWn]
                have HNE := Lib.hid (show bx ≠ by' by (have := HZ.out; omega))
                replace HVY := Lib.hid (show At3 W26 by' (.slice yso Y.s.length ysc) (.slice yio Y.l.length yic) (.int .i64 Y.f) by rw [← hWn]; exact At3.put3 HVY.out _ _ _)
                replace HVX := Lib.hid (show At3 W26 bx (.slice xso X.s.length xsc) (.slice xio X.l.length xic) (.int .i64 X.f) by rw [← hWn]; exact (((HVX.out.grown (grown_setCell _ ⟨by', 0, none⟩ _) (by simpa using HNE.out)).grown (grown_setCell _ ⟨by', 1, none⟩ _) (by simpa using HNE.out)).grown (grown_setCell _ ⟨by', 2, none⟩ _) (by simpa using HNE.out)))
                replace HXP := Lib.hid (show IsP W26 (fun b => b < w0.heap.size ∨ (W20.heap.size ≤ b ∧ b < W21.heap.size)) (.agg #[.slice xso X.s.length xsc, .slice xio X.l.length xic, .int .i64 X.f]) X by
                  have hno : ¬ (by' < w0.heap.size ∨ (W20.heap.size ≤ by' ∧ by' < W21.heap.size)) := by (have := HZ.out; omega)
                  rw [← hWn]; exact HXP.out.keep (((Kept.setCell _ _ _ hno).trans (Kept.setCell _ _ _ hno)).trans (Kept.setCell _ _ _ hno)) (fun _ _ h => h))
                replace HYP := Lib.hid (show IsP W26 (fun b => b < w0.heap.size ∨ (W22.heap.size ≤ b ∧ b < W23.heap.size)) (.agg #[.slice yso Y.s.length ysc, .slice yio Y.l.length yic, .int .i64 Y.f]) Y by
                  have hno : ¬ (by' < w0.heap.size ∨ (W22.heap.size ≤ by' ∧ by' < W23.heap.size)) := by (have := HZ.out; omega)
                  rw [← hWn]; exact HYP.out.keep (((Kept.setCell _ _ _ hno).trans (Kept.setCell _ _ _ hno)).trans (Kept.setCell _ _ _ hno)) (fun _ _ h => h))
                replace HW0 := Lib.hid (show Below w0.heap.size w0 W26 by rw [← hWn]; exact (((HW0.out.setCell (by show w0.heap.size ≤ by'; exact HG1.out) _).setCell (by show w0.heap.size ≤ by'; exact HG1.out) _).setCell (by show w0.heap.size ≤ by'; exact HG1.out) _))
                clear hWn HNE
                refine hK.out _ _ ?_ (fun hHeld => ?_)
                · exact HHL.out _ HW0.out
                clear hK K
                refine wpAnyH_done (by kernel_rfl) ?_ _
                clear hHeld
                exact ⟨rfl, bx, by', xso, xio, yso, yio, xsc, xic, ysc, yic, rfl, HVX.out, HVY.out, HXP.out.wide (fun _ _ _ => trivial), HYP.out.wide (fun _ _ _ => trivial), HW0.out⟩
              exact AllReadyH.nil
            exact AllReadyH.nil
          exact AllReadyH.nil
        refine AllReadyH.cons (o := _) rfl (fun K hK => ?_) ?_
        · clear hHeld
          go_simp
          obtain ⟨W23, hWn⟩ : ∃ xw9, W22.alloc (.cells #[.slice none 0 0, .slice none 0 0, .int .i64 0] 25) = xw9 := ⟨_, rfl⟩
          have hB : Below W22.heap.size W22 W23 := by rw [← hWn]; exact below_new _ _
          have hNB : At3 W23 W22.heap.size (.slice none 0 0) (.slice none 0 0) (.int .i64 0) := by rw [← hWn]; exact At3.new _ _ _ _ _
          rw [hWn]
          clear hWn
          obtain ⟨bx, hnm⟩ : ∃ x, W22.heap.size = x := ⟨_, rfl⟩
          rw [hnm] at hNB ⊢
          replace HZ := Lib.hid (And.intro HZ.out (And.intro hnm hNB.1))
          replace HW0 := Lib.hid (HW0.out.trans (hB.mono HW0.out.size))
          replace HXP := Lib.hid (HXP.out.grow hB)
          replace HVY := Lib.hid (HVY.out.below hB)
          have HVX := Lib.hid hNB
          clear hNB hB hnm
          have HG0 := Lib.hid (show w0.heap.size ≤ bx by (have := HZ.out; omega))
          replace HZ := Lib.hid (And.intro HZ.out HG0.out)
          refine hK.out _ _ ?_ (fun hHeld => ?_)
          · exact HHL.out _ HW0.out
          clear hK K
          refine wpAnyH_ready (rs := [3]) (by kernel_rfl) (by simp) ?_
          refine AllReadyH.cons (o := _) rfl (fun K hK => ?_) ?_
          · clear hHeld
            go_simp
            have HWO1 := Lib.hid (show w.heap.size ≤ w0.heap.size from HWW.out)
            refine (ptidy_calls 40 _ q _ _ HCQ.out (HI2.out.grow HW0.out)).mono ?_
            rintro e W24 ⟨uy, rfl, hY, hB⟩
            replace HZ := Lib.hid (And.intro HZ.out hB.size)
            replace HW0 := Lib.hid (HW0.out.trans (hB.mono HW0.out.size))
            replace HXP := Lib.hid (HXP.out.grow hB)
            replace HVY := Lib.hid (HVY.out.below hB)
            replace HVX := Lib.hid (HVX.out.below hB)
            rw [← HXE.out.2] at hY
            obtain ⟨yso, ysc, yio, yic, rfl, _⟩ := hY.opened
            have HYP := Lib.hid (show IsP W24 (fun b => b < w0.heap.size ∨ (W23.heap.size ≤ b ∧ b < W24.heap.size)) (.agg #[.slice yso Y.s.length ysc, .slice yio Y.l.length yic, .int .i64 Y.f]) Y from hY.wide (fun b h1 h2 => by
              rcases h2 with h2 | h2
              · exact .inl (Nat.lt_of_lt_of_le h2.1 HWO1.out)
              · exact .inr ⟨h2, h1⟩))
            clear hY
            clear hB
            try go_simp
            refine hK.out _ _ ?_ (fun hHeld => ?_)
            · exact HHL.out _ HW0.out
            clear hK K
            refine wpAnyH_ready (rs := [6]) (by kernel_rfl) (by simp) ?_
            refine AllReadyH.cons (o := _) rfl (fun K hK => ?_) ?_
            · clear hHeld
              have s0 := HVX.out.2.1
              have s1 := HVX.out.2.2.1
              have s2 := HVX.out.2.2.2.1
              have t0 := HVX.out.2.2.2.2 0
              have t1 := HVX.out.2.2.2.2 1
              have t2 := HVX.out.2.2.2.2 2
              go_simp
              clear s0 t0 s1 t1 s2 t2
              obtain ⟨W25, hWn⟩ : ∃ xw9, (((W24.setCell ⟨bx, 0, none⟩ (.slice xso X.s.length xsc)).setCell ⟨bx, 1, none⟩ (.slice xio X.l.length xic)).setCell ⟨bx, 2, none⟩ (.int .i64 X.f)) = xw9 := ⟨_, rfl⟩
              rw [hWn]
              have HNE := Lib.hid (show by' ≠ bx by (have := HZ.out; omega))
              replace HVX := Lib.hid (show At3 W25 bx (.slice xso X.s.length xsc) (.slice xio X.l.length xic) (.int .i64 X.f) by rw [← hWn]; exact At3.put3 HVX.out _ _ _)
              replace HVY := Lib.hid (show At3 W25 by' (.slice none 0 0) (.slice none 0 0) (.int .i64 0) by rw [← hWn]; exact (((HVY.out.grown (grown_setCell _ ⟨bx, 0, none⟩ _) (by simpa using HNE.out)).grown (grown_setCell _ ⟨bx, 1, none⟩ _) (by simpa using HNE.out)).grown (grown_setCell _ ⟨bx, 2, none⟩ _) (by simpa using HNE.out)))
              replace HXP := Lib.hid (show IsP W25 (fun b => b < w0.heap.size ∨ (W20.heap.size ≤ b ∧ b < W21.heap.size)) (.agg #[.slice xso X.s.length xsc, .slice xio X.l.length xic, .int .i64 X.f]) X by
                have hno : ¬ (bx < w0.heap.size ∨ (W20.heap.size ≤ bx ∧ bx < W21.heap.size)) := by (have := HZ.out; omega)
                rw [← hWn]; exact HXP.out.keep (((Kept.setCell _ _ _ hno).trans (Kept.setCell _ _ _ hno)).trans (Kept.setCell _ _ _ hno)) (fun _ _ h => h))
              replace HYP := Lib.hid (show IsP W25 (fun b => b < w0.heap.size ∨ (W23.heap.size ≤ b ∧ b < W24.heap.size)) (.agg #[.slice yso Y.s.length ysc, .slice yio Y.l.length yic, .int .i64 Y.f]) Y by
                have hno : ¬ (bx < w0.heap.size ∨ (W23.heap.size ≤ bx ∧ bx < W24.heap.size)) := by (have := HZ.out; omega)
                rw [← hWn]; exact HYP.out.keep (((Kept.setCell _ _ _ hno).trans (Kept.setCell _ _ _ hno)).trans (Kept.setCell _ _ _ hno)) (fun _ _ h => h))
              replace HW0 := Lib.hid (show Below w0.heap.size w0 W25 by rw [← hWn]; exact (((HW0.out.setCell (by show w0.heap.size ≤ bx; exact HG0.out) _).setCell (by show w0.heap.size ≤ bx; exact HG0.out) _).setCell (by show w0.heap.size ≤ bx; exact HG0.out) _))
              clear hWn HNE
              refine hK.out _ _ ?_ (fun hHeld => ?_)
              · exact HHL.out _ HW0.out
              clear hK K
              refine wpAnyH_ready (rs := [7]) (by kernel_rfl) (by simp) ?_
              refine AllReadyH.cons (o := _) rfl (fun K hK => ?_) ?_
              · clear hHeld
                have s0 := HVY.out.2.1
                have s1 := HVY.out.2.2.1
                have s2 := HVY.out.2.2.2.1
                have t0 := HVY.out.2.2.2.2 0
                have t1 := HVY.out.2.2.2.2 1
                have t2 := HVY.out.2.2.2.2 2
                go_simp
                clear s0 t0 s1 t1 s2 t2
                obtain ⟨W26, hWn⟩ : ∃ xw9, (((W25.setCell ⟨by', 0, none⟩ (.slice yso Y.s.length ysc)).setCell ⟨by', 1, none⟩ (.slice yio Y.l.length yic)).setCell ⟨by', 2, none⟩ (.int .i64 Y.f)) = xw9 := ⟨_, rfl⟩
                rw [hWn]
                have HNE := Lib.hid (show bx ≠ by' by (have := HZ.out; omega))
                replace HVY := Lib.hid (show At3 W26 by' (.slice yso Y.s.length ysc) (.slice yio Y.l.length yic) (.int .i64 Y.f) by rw [← hWn]; exact At3.put3 HVY.out _ _ _)
                replace HVX := Lib.hid (show At3 W26 bx (.slice xso X.s.length xsc) (.slice xio X.l.length xic) (.int .i64 X.f) by rw [← hWn]; exact (((HVX.out.grown (grown_setCell _ ⟨by', 0, none⟩ _) (by simpa using HNE.out)).grown (grown_setCell _ ⟨by', 1, none⟩ _) (by simpa using HNE.out)).grown (grown_setCell _ ⟨by', 2, none⟩ _) (by simpa using HNE.out)))
                replace HXP := Lib.hid (show IsP W26 (fun b => b < w0.heap.size ∨ (W20.heap.size ≤ b ∧ b < W21.heap.size)) (.agg #[.slice xso X.s.length xsc, .slice xio X.l.length xic, .int .i64 X.f]) X by
                  have hno : ¬ (by' < w0.heap.size ∨ (W20.heap.size ≤ by' ∧ by' < W21.heap.size)) := by (have := HZ.out; omega)
                  rw [← hWn]; exact HXP.out.keep (((Kept.setCell _ _ _ hno).trans (Kept.setCell _ _ _ hno)).trans (Kept.setCell _ _ _ hno)) (fun _ _ h => h))
                replace HYP := Lib.hid (show IsP W26 (fun b => b < w0.heap.size ∨ (W23.heap.size ≤ b ∧ b < W24.heap.size)) (.agg #[.slice yso Y.s.length ysc, .slice yio Y.l.length yic, .int .i64 Y.f]) Y by
                  have hno : ¬ (by' < w0.heap.size ∨ (W23.heap.size ≤ by' ∧ by' < W24.heap.size)) := by (have := HZ.out; omega)
                  rw [← hWn]; exact HYP.out.keep (((Kept.setCell _ _ _ hno).trans (Kept.setCell _ _ _ hno)).trans (Kept.setCell _ _ _ hno)) (fun _ _ h => h))
                replace HW0 := Lib.hid (show Below w0.heap.size w0 W26 by rw [← hWn]; exact (((HW0.out.setCell (by show w0.heap.size ≤ by'; exact HG1.out) _).setCell (by show w0.heap.size ≤ by'; exact HG1.out) _).setCell (by show w0.heap.size ≤ by'; exact HG1.out) _))
                clear hWn HNE
                refine hK.out _ _ ?_ (fun hHeld => ?_)
                · exact HHL.out _ HW0.out
                clear hK K
                refine wpAnyH_done (by kernel_rfl) ?_ _
                clear hHeld
                exact ⟨rfl, bx, by', xso, xio, yso, yio, xsc, xic, ysc, yic, rfl, HVX.out, HVY.out, HXP.out.wide (fun _ _ _ => trivial), HYP.out.wide (fun _ _ _ => trivial), HW0.out⟩
              exact AllReadyH.nil
            exact AllReadyH.nil
          exact AllReadyH.nil
        exact AllReadyH.nil
      exact AllReadyH.nil
    refine AllReadyH.cons (o := _) rfl (fun K hK => ?_) ?_
    · clear hHeld
      go_simp
      obtain ⟨W21, hWn⟩ : ∃ xw9, W20.alloc (.cells #[.slice none 0 0, .slice none 0 0, .int .i64 0] 25) = xw9 := ⟨_, rfl⟩
      have hB : Below W20.heap.size W20 W21 := by rw [← hWn]; exact below_new _ _
      have hNB : At3 W21 W20.heap.size (.slice none 0 0) (.slice none 0 0) (.int .i64 0) := by rw [← hWn]; exact At3.new _ _ _ _ _
      rw [hWn]
      clear hWn
      obtain ⟨bx, hnm⟩ : ∃ x, W20.heap.size = x := ⟨_, rfl⟩
      rw [hnm] at hNB ⊢
      replace HZ := Lib.hid (And.intro HZ.out (And.intro hnm hNB.1))
      replace HW0 := Lib.hid (HW0.out.trans (hB.mono HW0.out.size))
      have HVX := Lib.hid hNB
      clear hNB hB hnm
      have HG0 := Lib.hid (show w0.heap.size ≤ bx by (have := HZ.out; omega))
      replace HZ := Lib.hid (And.intro HZ.out HG0.out)
      refine hK.out _ _ ?_ (fun hHeld => ?_)
      · exact HHL.out _ HW0.out
      clear hK K
      refine wpAnyH_ready (rs := [1, 5]) (by kernel_rfl) (by simp) ?_
      refine AllReadyH.cons (o := _) rfl (fun K hK => ?_) ?_
      · clear hHeld
        go_simp
        have HWO0 := Lib.hid (show w.heap.size ≤ w0.heap.size from HWW.out)
        refine (ptidy_calls 40 _ p _ _ HCP.out (HI.out.grow HW0.out)).mono ?_
        rintro e W22 ⟨ux, rfl, hX, hB⟩
        replace HZ := Lib.hid (And.intro HZ.out hB.size)
        replace HW0 := Lib.hid (HW0.out.trans (hB.mono HW0.out.size))
        replace HVX := Lib.hid (HVX.out.below hB)
        rw [← HXE.out.1] at hX
        obtain ⟨xso, xsc, xio, xic, rfl, _⟩ := hX.opened
        have HXP := Lib.hid (show IsP W22 (fun b => b < w0.heap.size ∨ (W21.heap.size ≤ b ∧ b < W22.heap.size)) (.agg #[.slice xso X.s.length xsc, .slice xio X.l.length xic, .int .i64 X.f]) X from hX.wide (fun b h1 h2 => by
          rcases h2 with h2 | h2
          · exact .inl (Nat.lt_of_lt_of_le h2.1 HWO0.out)
          · exact .inr ⟨h2, h1⟩))
        clear hX
        clear hB
        try go_simp
        refine hK.out _ _ ?_ (fun hHeld => ?_)
        · exact HHL.out _ HW0.out
        clear hK K
        refine wpAnyH_ready (rs := [3, 5]) (by kernel_rfl) (by simp) ?_
        refine AllReadyH.cons (o := _) rfl (fun K hK => ?_) ?_
        · clear hHeld
          go_simp
          have HWO1 := Lib.hid (show w.heap.size ≤ w0.heap.size from HWW.out)
          refine (ptidy_calls 40 _ q _ _ HCQ.out (HI2.out.grow HW0.out)).mono ?_
          rintro e W23 ⟨uy, rfl, hY, hB⟩
          replace HZ := Lib.hid (And.intro HZ.out hB.size)
          replace HW0 := Lib.hid (HW0.out.trans (hB.mono HW0.out.size))
          replace HVX := Lib.hid (HVX.out.below hB)
          replace HXP := Lib.hid (HXP.out.grow hB)
          rw [← HXE.out.2] at hY
          obtain ⟨yso, ysc, yio, yic, rfl, _⟩ := hY.opened
          have HYP := Lib.hid (show IsP W23 (fun b => b < w0.heap.size ∨ (W22.heap.size ≤ b ∧ b < W23.heap.size)) (.agg #[.slice yso Y.s.length ysc, .slice yio Y.l.length yic, .int .i64 Y.f]) Y from hY.wide (fun b h1 h2 => by
            rcases h2 with h2 | h2
            · exact .inl (Nat.lt_of_lt_of_le h2.1 HWO1.out)
            · exact .inr ⟨h2, h1⟩))
          clear hY
          clear hB
          try go_simp
          refine hK.out _ _ ?_ (fun hHeld => ?_)
          · exact HHL.out _ HW0.out
          clear hK K
          refine wpAnyH_ready (rs := [5]) (by kernel_rfl) (by simp) ?_
          refine AllReadyH.cons (o := _) rfl (fun K hK => ?_) ?_
          · clear hHeld
            go_simp
            obtain ⟨W24, hWn⟩ : ∃ xw9, W23.alloc (.cells #[.slice none 0 0, .slice none 0 0, .int .i64 0] 25) = xw9 := ⟨_, rfl⟩
            have hB : Below W23.heap.size W23 W24 := by rw [← hWn]; exact below_new _ _
            have hNB : At3 W24 W23.heap.size (.slice none 0 0) (.slice none 0 0) (.int .i64 0) := by rw [← hWn]; exact At3.new _ _ _ _ _
            rw [hWn]
            clear hWn
            obtain ⟨by', hnm⟩ : ∃ x, W23.heap.size = x := ⟨_, rfl⟩
            rw [hnm] at hNB ⊢
            replace HZ := Lib.hid (And.intro HZ.out (And.intro hnm hNB.1))
            replace HW0 := Lib.hid (HW0.out.trans (hB.mono HW0.out.size))
            replace HVX := Lib.hid (HVX.out.below hB)
            replace HXP := Lib.hid (HXP.out.grow hB)
            replace HYP := Lib.hid (HYP.out.grow hB)
            have HVY := Lib.hid hNB
            clear hNB hB hnm
            have HG1 := Lib.hid (show w0.heap.size ≤ by' by (have := HZ.out; omega))
            replace HZ := Lib.hid (And.intro HZ.out HG1.out)
            refine hK.out _ _ ?_ (fun hHeld => ?_)
            · exact HHL.out _ HW0.out
            clear hK K
            refine wpAnyH_ready (rs := [6]) (by kernel_rfl) (by simp) ?_
            refine AllReadyH.cons (o := _) rfl (fun K hK => ?_) ?_
            · clear hHeld
              have s0 := HVX.out.2.1
              have s1 := HVX.out.2.2.1
              have s2 := HVX.out.2.2.2.1
              have t0 := HVX.out.2.2.2.2 0
              have t1 := HVX.out.2.2.2.2 1
              have t2 := HVX.out.2.2.2.2 2
              go_simp
              clear s0 t0 s1 t1 s2 t2
              obtain ⟨W25, hWn⟩ : ∃ xw9, (((W24.setCell ⟨bx, 0, none⟩ (.slice xso X.s.length xsc)).setCell ⟨bx, 1, none⟩ (.slice xio X.l.length xic)).setCell ⟨bx, 2, none⟩ (.int .i64 X.f)) = xw9 := ⟨_, rfl⟩
              rw [hWn]
              have HNE := Lib.hid (show by' ≠ bx by (have := HZ.out; omega))
              replace HVX := Lib.hid (show At3 W25 bx (.slice xso X.s.length xsc) (.slice xio X.l.length xic) (.int .i64 X.f) by rw [← hWn]; exact At3.put3 HVX.out _ _ _)
              replace HVY := Lib.hid (show At3 W25 by' (.slice none 0 0) (.slice none 0 0) (.int .i64 0) by rw [← hWn]; exact (((HVY.out.grown (grown_setCell _ ⟨bx, 0, none⟩ _) (by simpa using HNE.out)).grown (grown_setCell _ ⟨bx, 1, none⟩ _) (by simpa using HNE.out)).grown (grown_setCell _ ⟨bx, 2, none⟩ _) (by simpa using HNE.out)))
              replace HXP := Lib.hid (show IsP W25 (fun b => b < w0.heap.size ∨ (W21.heap.size ≤ b ∧ b < W22.heap.size)) (.agg #[.slice xso X.s.length xsc, .slice xio X.l.length xic, .int .i64 X.f]) X by
                have hno : ¬ (bx < w0.heap.size ∨ (W21.heap.size ≤ bx ∧ bx < W22.heap.size)) := by (have := HZ.out; omega)
                rw [← hWn]; exact HXP.out.keep (((Kept.setCell _ _ _ hno).trans (Kept.setCell _ _ _ hno)).trans (Kept.setCell _ _ _ hno)) (fun _ _ h => h))
              replace HYP := Lib.hid (show IsP W25 (fun b => b < w0.heap.size ∨ (W22.heap.size ≤ b ∧ b < W23.heap.size)) (.agg #[.slice yso Y.s.length ysc, .slice yio Y.l.length yic, .int .i64 Y.f]) Y by
                have hno : ¬ (bx < w0.heap.size ∨ (W22.heap.size ≤ bx ∧ bx < W23.heap.size)) := by (have := HZ.out; omega)
                rw [← hWn]; exact HYP.out.keep (((Kept.setCell _ _ _ hno).trans (Kept.setCell _ _ _ hno)).trans (Kept.setCell _ _ _ hno)) (fun _ _ h => h))
              replace HW0 := Lib.hid (show Below w0.heap.size w0 W25 by rw [← hWn]; exact (((HW0.out.setCell (by show w0.heap.size ≤ bx; exact HG0.out) _).setCell (by show w0.heap.size ≤ bx; exact HG0.out) _).setCell (by show w0.heap.size ≤ bx; exact HG0.out) _))
              clear hWn HNE
              refine hK.out _ _ ?_ (fun hHeld => ?_)
              · exact HHL.out _ HW0.out
              clear hK K
              refine wpAnyH_ready (rs := [7]) (by kernel_rfl) (by simp) ?_
              refine AllReadyH.cons (o := _) rfl (fun K hK => ?_) ?_
              · clear hHeld
                have s0 := HVY.out.2.1
                have s1 := HVY.out.2.2.1
                have s2 := HVY.out.2.2.2.1
                have t0 := HVY.out.2.2.2.2 0
                have t1 := HVY.out.2.2.2.2 1
                have t2 := HVY.out.2.2.2.2 2
                go_simp
                clear s0 t0 s1 t1 s2 t2
                obtain ⟨W26, hWn⟩ : ∃ xw9, (((W25.setCell ⟨by', 0, none⟩ (.slice yso Y.s.length ysc)).setCell ⟨by', 1, none⟩ (.slice yio Y.l.length yic)).setCell ⟨by', 2, none⟩ (.int .i64 Y.f)) = xw9 := ⟨_, rfl⟩
                rw [hWn]
                have HNE := Lib.hid (show bx ≠ by' by (have := HZ.out; omega))
                replace HVY := Lib.hid (show At3 W26 by' (.slice yso Y.s.length ysc) (.slice yio Y.l.length yic) (.int .i64 Y.f) by rw [← hWn]; exact At3.put3 HVY.out _ _ _)
                replace HVX := Lib.hid (show At3 W26 bx (.slice xso X.s.length xsc) (.slice xio X.l.length xic) (.int .i64 X.f) by rw [← hWn]; exact (((HVX.out.grown (grown_setCell _ ⟨by', 0, none⟩ _) (by simpa using HNE.out)).grown (grown_setCell _ ⟨by', 1, none⟩ _) (by simpa using HNE.out)).grown (grown_setCell _ ⟨by', 2, none⟩ _) (by simpa using HNE.out)))
                replace HXP := Lib.hid (show IsP W26 (fun b => b < w0.heap.size ∨ (W21.heap.size ≤ b ∧ b < W22.heap.size)) (.agg #[.slice xso X.s.length xsc, .slice xio X.l.length xic, .int .i64 X.f]) X by
                  have hno : ¬ (by' < w0.heap.size ∨ (W21.heap.size ≤ by' ∧ by' < W22.heap.size)) := by (have := HZ.out; omega)
                  rw [← hWn]; exact HXP.out.keep (((Kept.setCell _ _ _ hno).trans (Kept.setCell _ _ _ hno)).trans (Kept.setCell _ _ _ hno)) (fun _ _ h => h))
                replace HYP := Lib.hid (show IsP W26 (fun b => b < w0.heap.size ∨ (W22.heap.size ≤ b ∧ b < W23.heap.size)) (.agg #[.slice yso Y.s.length ysc, .slice yio Y.l.length yic, .int .i64 Y.f]) Y by
                  have hno : ¬ (by' < w0.heap.size ∨ (W22.heap.size ≤ by' ∧ by' < W23.heap.size)) := by (have := HZ.out; omega)
                  rw [← hWn]; exact HYP.out.keep (((Kept.setCell _ _ _ hno).trans (Kept.setCell _ _ _ hno)).trans (Kept.setCell _ _ _ hno)) (fun _ _ h => h))
                replace HW0 := Lib.hid (show Below w0.heap.size w0 W26 by rw [← hWn]; exact (((HW0.out.setCell (by show w0.heap.size ≤ by'; exact HG1.out) _).setCell (by show w0.heap.size ≤ by'; exact HG1.out) _).setCell (by show w0.heap.size ≤ by'; exact HG1.out) _))
                clear hWn HNE
                refine hK.out _ _ ?_ (fun hHeld => ?_)
                · exact HHL.out _ HW0.out
                clear hK K
                refine wpAnyH_done (by kernel_rfl) ?_ _
                clear hHeld
                exact ⟨rfl, bx, by', xso, xio, yso, yio, xsc, xic, ysc, yic, rfl, HVX.out, HVY.out, HXP.out.wide (fun _ _ _ => trivial), HYP.out.wide (fun _ _ _ => trivial), HW0.out⟩
              exact AllReadyH.nil
            exact AllReadyH.nil
          exact AllReadyH.nil
        refine AllReadyH.cons (o := _) rfl (fun K hK => ?_) ?_
        · clear hHeld
          go_simp
          obtain ⟨W23, hWn⟩ : ∃ xw9, W22.alloc (.cells #[.slice none 0 0, .slice none 0 0, .int .i64 0] 25) = xw9 := ⟨_, rfl⟩
          have hB : Below W22.heap.size W22 W23 := by rw [← hWn]; exact below_new _ _
          have hNB : At3 W23 W22.heap.size (.slice none 0 0) (.slice none 0 0) (.int .i64 0) := by rw [← hWn]; exact At3.new _ _ _ _ _
          rw [hWn]
          clear hWn
          obtain ⟨by', hnm⟩ : ∃ x, W22.heap.size = x := ⟨_, rfl⟩
          rw [hnm] at hNB ⊢
          replace HZ := Lib.hid (And.intro HZ.out (And.intro hnm hNB.1))
          replace HW0 := Lib.hid (HW0.out.trans (hB.mono HW0.out.size))
          replace HVX := Lib.hid (HVX.out.below hB)
          replace HXP := Lib.hid (HXP.out.grow hB)
          have HVY := Lib.hid hNB
          clear hNB hB hnm
          have HG1 := Lib.hid (show w0.heap.size ≤ by' by (have := HZ.out; omega))
          replace HZ := Lib.hid (And.intro HZ.out HG1.out)
          refine hK.out _ _ ?_ (fun hHeld => ?_)
          · exact HHL.out _ HW0.out
          clear hK K
          refine wpAnyH_ready (rs := [3]) (by kernel_rfl) (by simp) ?_
          refine AllReadyH.cons (o := _) rfl (fun K hK => ?_) ?_
          · clear hHeld
            go_simp
            have HWO1 := Lib.hid (show w.heap.size ≤ w0.heap.size from HWW.out)
            refine (ptidy_calls 40 _ q _ _ HCQ.out (HI2.out.grow HW0.out)).mono ?_
            rintro e W24 ⟨uy, rfl, hY, hB⟩
            replace HZ := Lib.hid (And.intro HZ.out hB.size)
            replace HW0 := Lib.hid (HW0.out.trans (hB.mono HW0.out.size))
            replace HVX := Lib.hid (HVX.out.below hB)
            replace HXP := Lib.hid (HXP.out.grow hB)
            replace HVY := Lib.hid (HVY.out.below hB)
            rw [← HXE.out.2] at hY
            obtain ⟨yso, ysc, yio, yic, rfl, _⟩ := hY.opened
            have HYP := Lib.hid (show IsP W24 (fun b => b < w0.heap.size ∨ (W23.heap.size ≤ b ∧ b < W24.heap.size)) (.agg #[.slice yso Y.s.length ysc, .slice yio Y.l.length yic, .int .i64 Y.f]) Y from hY.wide (fun b h1 h2 => by
              rcases h2 with h2 | h2
              · exact .inl (Nat.lt_of_lt_of_le h2.1 HWO1.out)
              · exact .inr ⟨h2, h1⟩))
            clear hY
            clear hB
            try go_simp
            refine hK.out _ _ ?_ (fun hHeld => ?_)
            · exact HHL.out _ HW0.out
            clear hK K
            refine wpAnyH_ready (rs := [6]) (by kernel_rfl) (by simp) ?_
            refine AllReadyH.cons (o := _) rfl (fun K hK => ?_) ?_
            · clear hHeld
              have s0 := HVX.out.2.1
              have s1 := HVX.out.2.2.1
              have s2 := HVX.out.2.2.2.1
              have t0 := HVX.out.2.2.2.2 0
              have t1 := HVX.out.2.2.2.2 1
              have t2 := HVX.out.2.2.2.2 2
              go_simp
              clear s0 t0 s1 t1 s2 t2
              obtain ⟨W25, hWn⟩ : ∃ xw9, (((W24.setCell ⟨bx, 0, none⟩ (.slice xso X.s.length xsc)).setCell ⟨bx, 1, none⟩ (.slice xio X.l.length xic)).setCell ⟨bx, 2, none⟩ (.int .i64 X.f)) = xw9 := ⟨_, rfl⟩
              rw [hWn]
              have HNE := Lib.hid (show by' ≠ bx by (have := HZ.out; omega))
              replace HVX := Lib.hid (show At3 W25 bx (.slice xso X.s.length xsc) (.slice xio X.l.length xic) (.int .i64 X.f) by rw [← hWn]; exact At3.put3 HVX.out _ _ _)
              replace HVY := Lib.hid (show At3 W25 by' (.slice none 0 0) (.slice none 0 0) (.int .i64 0) by rw [← hWn]; exact (((HVY.out.grown (grown_setCell _ ⟨bx, 0, none⟩ _) (by simpa using HNE.out)).grown (grown_setCell _ ⟨bx, 1, none⟩ _) (by simpa using HNE.out)).grown (grown_setCell _ ⟨bx, 2, none⟩ _) (by simpa using HNE.out)))
              replace HXP := Lib.hid (show IsP W25 (fun b => b < w0.heap.size ∨ (W21.heap.size ≤ b ∧ b < W22.heap.size)) (.agg #[.slice xso X.s.length xsc, .slice xio X.l.length xic, .int .i64 X.f]) X by
                have hno : ¬ (bx < w0.heap.size ∨ (W21.heap.size ≤ bx ∧ bx < W22.heap.size)) := by (have := HZ.out; omega)
                rw [← hWn]; exact HXP.out.keep (((Kept.setCell _ _ _ hno).trans (Kept.setCell _ _ _ hno)).trans (Kept.setCell _ _ _ hno)) (fun _ _ h => h))
              replace HYP := Lib.hid (show IsP W25 (fun b => b < w0.heap.size ∨ (W23.heap.size ≤ b ∧ b < W24.heap.size)) (.agg #[.slice yso Y.s.length ysc, .slice yio Y.l.length yic, .int .i64 Y.f]) Y by
                have hno : ¬ (bx < w0.heap.size ∨ (W23.heap.size ≤ bx ∧ bx < W24.heap.size)) := by (have := HZ.out; omega)
                rw [← hWn]; exact HYP.out.keep (((Kept.setCell _ _ _ hno).trans (Kept.setCell _ _ _ hno)).trans (Kept.setCell _ _ _ hno)) (fun _ _ h => h))
              replace HW0 := Lib.hid (show Below w0.heap.size w0 W25 by rw [← hWn]; exact (((HW0.out.setCell (by show w0.heap.size ≤ bx; exact HG0.out) _).setCell (by show w0.heap.size ≤ bx; exact HG0.out) _).setCell (by show w0.heap.size ≤ bx; exact HG0.out) _))
              clear hWn HNE
              refine hK.out _ _ ?_ (fun hHeld => ?_)
              · exact HHL.out _ HW0.out
              clear hK K
              refine wpAnyH_ready (rs := [7]) (by kernel_rfl) (by simp) ?_
              refine AllReadyH.cons (o := _) rfl (fun K hK => ?_) ?_
              · clear hHeld
                have s0 := HVY.out.2.1
                have s1 := HVY.out.2.2.1
                have s2 := HVY.out.2.2.2.1
                have t0 := HVY.out.2.2.2.2 0
                have t1 := HVY.out.2.2.2.2 1
                have t2 := HVY.out.2.2.2.2 2
                go_simp
                clear s0 t0 s1 t1 s2 t2
                obtain ⟨W26, hWn⟩ : ∃ xw9, (((W25.setCell ⟨by', 0, none⟩ (.slice yso Y.s.length ysc)).setCell ⟨by', 1, none⟩ (.slice yio Y.l.length yic)).setCell ⟨by', 2, none⟩ (.int .i64 Y.f)) = xw9 := ⟨_, rfl⟩
                rw [hWn]
                have HNE := Lib.hid (show bx ≠ by' by (have := HZ.out; omega))
                replace HVY := Lib.hid (show At3 W26 by' (.slice yso Y.s.length ysc) (.slice yio Y.l.length yic) (.int .i64 Y.f) by rw [← hWn]; exact At3.put3 HVY.out _ _ _)
                replace HVX := Lib.hid (show At3 W26 bx (.slice xso X.s.length xsc) (.slice xio X.l.length xic) (.int .i64 X.f) by rw [← hWn]; exact (((HVX.out.grown (grown_setCell _ ⟨by', 0, none⟩ _) (by simpa using HNE.out)).grown (grown_setCell _ ⟨by', 1, none⟩ _) (by simpa using HNE.out)).grown (grown_setCell _ ⟨by', 2, none⟩ _) (by simpa using HNE.out)))
                replace HXP := Lib.hid (show IsP W26 (fun b => b < w0.heap.size ∨ (W21.heap.size ≤ b ∧ b < W22.heap.size)) (.agg #[.slice xso X.s.length xsc, .slice xio X.l.length xic, .int .i64 X.f]) X by
                  have hno : ¬ (by' < w0.heap.size ∨ (W21.heap.size ≤ by' ∧ by' < W22.heap.size)) := by (have := HZ.out; omega)
                  rw [← hWn]; exact HXP.out.keep (((Kept.setCell _ _ _ hno).trans (Kept.setCell _ _ _ hno)).trans (Kept.setCell _ _ _ hno)) (fun _ _ h => h))
                replace HYP := Lib.hid (show IsP W26 (fun b => b < w0.heap.size ∨ (W23.heap.size ≤ b ∧ b < W24.heap.size)) (.agg #[.slice yso Y.s.length ysc, .slice yio Y.l.length yic, .int .i64 Y.f]) Y by
                  have hno : ¬ (by' < w0.heap.size ∨ (W23.heap.size ≤ by' ∧ by' < W24.heap.size)) := by (have := HZ.out; omega)
                  rw [← hWn]; exact HYP.out.keep (((Kept.setCell _ _ _ hno).trans (Kept.setCell _ _ _ hno)).trans (Kept.setCell _ _ _ hno)) (fun _ _ h => h))
                replace HW0 := Lib.hid (show Below w0.heap.size w0 W26 by rw [← hWn]; exact (((HW0.out.setCell (by show w0.heap.size ≤ by'; exact HG1.out) _).setCell (by show w0.heap.size ≤ by'; exact HG1.out) _).setCell (by show w0.heap.size ≤ by'; exact HG1.out) _))
                clear hWn HNE
                refine hK.out _ _ ?_ (fun hHeld => ?_)
                · exact HHL.out _ HW0.out
                clear hK K
                refine wpAnyH_done (by kernel_rfl) ?_ _
                clear hHeld
                exact ⟨rfl, bx, by', xso, xio, yso, yio, xsc, xic, ysc, yic, rfl, HVX.out, HVY.out, HXP.out.wide (fun _ _ _ => trivial), HYP.out.wide (fun _ _ _ => trivial), HW0.out⟩
              exact AllReadyH.nil
            exact AllReadyH.nil
          exact AllReadyH.nil
        exact AllReadyH.nil
      refine AllReadyH.cons (o := _) rfl (fun K hK => ?_) ?_
      · clear hHeld
        go_simp
        obtain ⟨W22, hWn⟩ : ∃ xw9, W21.alloc (.cells #[.slice none 0 0, .slice none 0 0, .int .i64 0] 25) = xw9 := ⟨_, rfl⟩
        have hB : Below W21.heap.size W21 W22 := by rw [← hWn]; exact below_new _ _
        have hNB : At3 W22 W21.heap.size (.slice none 0 0) (.slice none 0 0) (.int .i64 0) := by rw [← hWn]; exact At3.new _ _ _ _ _
        rw [hWn]
        clear hWn
        obtain ⟨by', hnm⟩ : ∃ x, W21.heap.size = x := ⟨_, rfl⟩
        rw [hnm] at hNB ⊢
        replace HZ := Lib.hid (And.intro HZ.out (And.intro hnm hNB.1))
        replace HW0 := Lib.hid (HW0.out.trans (hB.mono HW0.out.size))
        replace HVX := Lib.hid (HVX.out.below hB)
        have HVY := Lib.hid hNB
        clear hNB hB hnm
        have HG1 := Lib.hid (show w0.heap.size ≤ by' by (have := HZ.out; omega))
        replace HZ := Lib.hid (And.intro HZ.out HG1.out)
        refine hK.out _ _ ?_ (fun hHeld => ?_)
        · exact HHL.out _ HW0.out
        clear hK K
        refine wpAnyH_ready (rs := [1]) (by kernel_rfl) (by simp) ?_
        refine AllReadyH.cons (o := _) rfl (fun K hK => ?_) ?_
        · clear hHeld
          go_simp
          have HWO0 := Lib.hid (show w.heap.size ≤ w0.heap.size from HWW.out)
          refine (ptidy_calls 40 _ p _ _ HCP.out (HI.out.grow HW0.out)).mono ?_
          rintro e W23 ⟨ux, rfl, hX, hB⟩
          replace HZ := Lib.hid (And.intro HZ.out hB.size)
          replace HW0 := Lib.hid (HW0.out.trans (hB.mono HW0.out.size))
          replace HVX := Lib.hid (HVX.out.below hB)
          replace HVY := Lib.hid (HVY.out.below hB)
          rw [← HXE.out.1] at hX
          obtain ⟨xso, xsc, xio, xic, rfl, _⟩ := hX.opened
          have HXP := Lib.hid (show IsP W23 (fun b => b < w0.heap.size ∨ (W22.heap.size ≤ b ∧ b < W23.heap.size)) (.agg #[.slice xso X.s.length xsc, .slice xio X.l.length xic, .int .i64 X.f]) X from hX.wide (fun b h1 h2 => by
            rcases h2 with h2 | h2
            · exact .inl (Nat.lt_of_lt_of_le h2.1 HWO0.out)
            · exact .inr ⟨h2, h1⟩))
          clear hX
          clear hB
          try go_simp
          refine hK.out _ _ ?_ (fun hHeld => ?_)
          · exact HHL.out _ HW0.out
          clear hK K
          refine wpAnyH_ready (rs := [3]) (by kernel_rfl) (by simp) ?_
          refine AllReadyH.cons (o := _) rfl (fun K hK => ?_) ?_
          · clear hHeld
            go_simp
            have HWO1 := Lib.hid (show w.heap.size ≤ w0.heap.size from HWW.out)
            refine (ptidy_calls 40 _ q _ _ HCQ.out (HI2.out.grow HW0.out)).mono ?_
            rintro e W24 ⟨uy, rfl, hY, hB⟩
            replace HZ := Lib.hid (And.intro HZ.out hB.size)
            replace HW0 := Lib.hid (HW0.out.trans (hB.mono HW0.out.size))
            replace HVX := Lib.hid (HVX.out.below hB)
            replace HVY := Lib.hid (HVY.out.below hB)
            replace HXP := Lib.hid (HXP.out.grow hB)
            rw [← HXE.out.2] at hY
            obtain ⟨yso, ysc, yio, yic, rfl, _⟩ := hY.opened
            have HYP := Lib.hid (show IsP W24 (fun b => b < w0.heap.size ∨ (W23.heap.size ≤ b ∧ b < W24.heap.size)) (.agg #[.slice yso Y.s.length ysc, .slice yio Y.l.length yic, .int .i64 Y.f]) Y from hY.wide (fun b h1 h2 => by
              rcases h2 with h2 | h2
              · exact .inl (Nat.lt_of_lt_of_le h2.1 HWO1.out)
              · exact .inr ⟨h2, h1⟩))
            clear hY
            clear hB
            try go_simp
            refine hK.out _ _ ?_ (fun hHeld => ?_)
            · exact HHL.out _ HW0.out
            clear hK K
            refine wpAnyH_ready (rs := [6]) (by kernel_rfl) (by simp) ?_
            refine AllReadyH.cons (o := _) rfl (fun K hK => ?_) ?_
            · clear hHeld
              have s0 := HVX.out.2.1
              have s1 := HVX.out.2.2.1
              have s2 := HVX.out.2.2.2.1
              have t0 := HVX.out.2.2.2.2 0
              have t1 := HVX.out.2.2.2.2 1
              have t2 := HVX.out.2.2.2.2 2
              go_simp
              clear s0 t0 s1 t1 s2 t2
              obtain ⟨W25, hWn⟩ : ∃ xw9, (((W24.setCell ⟨bx, 0, none⟩ (.slice xso X.s.length xsc)).setCell ⟨bx, 1, none⟩ (.slice xio X.l.length xic)).setCell ⟨bx, 2, none⟩ (.int .i64 X.f)) = xw9 := ⟨_, rfl⟩
              rw [hWn]
              have HNE := Lib.hid (show by' ≠ bx by (have := HZ.out; omega))
              replace HVX := Lib.hid (show At3 W25 bx (.slice xso X.s.length xsc) (.slice xio X.l.length xic) (.int .i64 X.f) by rw [← hWn]; exact At3.put3 HVX.out _ _ _)
              replace HVY := Lib.hid (show At3 W25 by' (.slice none 0 0) (.slice none 0 0) (.int .i64 0) by rw [← hWn]; exact (((HVY.out.grown (grown_setCell _ ⟨bx, 0, none⟩ _) (by simpa using HNE.out)).grown (grown_setCell _ ⟨bx, 1, none⟩ _) (by simpa using HNE.out)).grown (grown_setCell _ ⟨bx, 2, none⟩ _) (by simpa using HNE.out)))
              replace HXP := Lib.hid (show IsP W25 (fun b => b < w0.heap.size ∨ (W22.heap.size ≤ b ∧ b < W23.heap.size)) (.agg #[.slice xso X.s.length xsc, .slice xio X.l.length xic, .int .i64 X.f]) X by
                have hno : ¬ (bx < w0.heap.size ∨ (W22.heap.size ≤ bx ∧ bx < W23.heap.size)) := by (have := HZ.out; omega)
                rw [← hWn]; exact HXP.out.keep (((Kept.setCell _ _ _ hno).trans (Kept.setCell _ _ _ hno)).trans (Kept.setCell _ _ _ hno)) (fun _ _ h => h))
              replace HYP := Lib.hid (show IsP W25 (fun b => b < w0.heap.size ∨ (W23.heap.size ≤ b ∧ b < W24.heap.size)) (.agg #[.slice yso Y.s.length ysc, .slice yio Y.l.length yic, .int .i64 Y.f]) Y by
                have hno : ¬ (bx < w0.heap.size ∨ (W23.heap.size ≤ bx ∧ bx < W24.heap.size)) := by (have := HZ.out; omega)
                rw [← hWn]; exact HYP.out.keep (((Kept.setCell _ _ _ hno).trans (Kept.setCell _ _ _ hno)).trans (Kept.setCell _ _ _ hno)) (fun _ _ h => h))
              replace HW0 := Lib.hid (show Below w0.heap.size w0 W25 by rw [← hWn]; exact (((HW0.out.setCell (by show w0.heap.size ≤ bx; exact HG0.out) _).setCell (by show w0.heap.size ≤ bx; exact HG0.out) _).setCell (by show w0.heap.size ≤ bx; exact HG0.out) _))
              clear hWn HNE
              refine hK.out _ _ ?_ (fun hHeld => ?_)
              · exact HHL.out _ HW0.out
              clear hK K
              refine wpAnyH_ready (rs := [7]) (by kernel_rfl) (by simp) ?_
              refine AllReadyH.cons (o := _) rfl (fun K hK => ?_) ?_
              · clear hHeld
                have s0 := HVY.out.2.1
                have s1 := HVY.out.2.2.1
                have s2 := HVY.out.2.2.2.1
                have t0 := HVY.out.2.2.2.2 0
                have t1 := HVY.out.2.2.2.2 1
                have t2 := HVY.out.2.2.2.2 2
                go_simp
                clear s0 t0 s1 t1 s2 t2
                obtain ⟨W26, hWn⟩ : ∃ xw9, (((W25.setCell ⟨by', 0, none⟩ (.slice yso Y.s.length ysc)).setCell ⟨by', 1, none⟩ (.slice yio Y.l.length yic)).setCell ⟨by', 2, none⟩ (.int .i64 Y.f)) = xw9 := ⟨_, rfl⟩
                rw [hWn]
                have HNE := Lib.hid (show bx ≠ by' by (have := HZ.out; omega))
                replace HVY := Lib.hid (show At3 W26 by' (.slice yso Y.s.length ysc) (.slice yio Y.l.length yic) (.int .i64 Y.f) by rw [← hWn]; exact At3.put3 HVY.out _ _ _)
                replace HVX := Lib.hid (show At3 W26 bx (.slice xso X.s.length xsc) (.slice xio X.l.length xic) (.int .i64 X.f) by rw [← hWn]; exact (((HVX.out.grown (grown_setCell _ ⟨by', 0, none⟩ _) (by simpa using HNE.out)).grown (grown_setCell _ ⟨by', 1, none⟩ _) (by simpa using HNE.out)).grown (grown_setCell _ ⟨by', 2, none⟩ _) (by simpa using HNE.out)))
                replace HXP := Lib.hid (show IsP W26 (fun b => b < w0.heap.size ∨ (W22.heap.size ≤ b ∧ b < W23.heap.size)) (.agg #[.slice xso X.s.length xsc, .slice xio X.l.length xic, .int .i64 X.f]) X by
                  have hno : ¬ (by' < w0.heap.size ∨ (W22.heap.size ≤ by' ∧ by' < W23.heap.size)) := by (have := HZ.out; omega)
                  rw [← hWn]; exact HXP.out.keep (((Kept.setCell _ _ _ hno).trans (Kept.setCell _ _ _ hno)).trans (Kept.setCell _ _ _ hno)) (fun _ _ h => h))
                replace HYP := Lib.hid (show IsP W26 (fun b => b < w0.heap.size ∨ (W23.heap.size ≤ b ∧ b < W24.heap.size)) (.agg #[.slice yso Y.s.length ysc, .slice yio Y.l.length yic, .int .i64 Y.f]) Y by
                  have hno : ¬ (by' < w0.heap.size ∨ (W23.heap.size ≤ by' ∧ by' < W24.heap.size)) := by (have := HZ.out; omega)
                  rw [← hWn]; exact HYP.out.keep (((Kept.setCell _ _ _ hno).trans (Kept.setCell _ _ _ hno)).trans (Kept.setCell _ _ _ hno)) (fun _ _ h => h))
                replace HW0 := Lib.hid (show Below w0.heap.size w0 W26 by rw [← hWn]; exact (((HW0.out.setCell (by show w0.heap.size ≤ by'; exact HG1.out) _).setCell (by show w0.heap.size ≤ by'; exact HG1.out) _).setCell (by show w0.heap.size ≤ by'; exact HG1.out) _))
                clear hWn HNE
                refine hK.out _ _ ?_ (fun hHeld => ?_)
                · exact HHL.out _ HW0.out
                clear hK K
                refine wpAnyH_done (by kernel_rfl) ?_ _
                clear hHeld
                exact ⟨rfl, bx, by', xso, xio, yso, yio, xsc, xic, ysc, yic, rfl, HVX.out, HVY.out, HXP.out.wide (fun _ _ _ => trivial), HYP.out.wide (fun _ _ _ => trivial), HW0.out⟩
              exact AllReadyH.nil
            exact AllReadyH.nil
          exact AllReadyH.nil
        exact AllReadyH.nil
      exact AllReadyH.nil
    refine AllReadyH.cons (o := _) rfl (fun K hK => ?_) ?_
    · clear hHeld
      go_simp
      obtain ⟨W21, hWn⟩ : ∃ xw9, W20.alloc (.cells #[.slice none 0 0, .slice none 0 0, .int .i64 0] 25) = xw9 := ⟨_, rfl⟩
      have hB : Below W20.heap.size W20 W21 := by rw [← hWn]; exact below_new _ _
      have hNB : At3 W21 W20.heap.size (.slice none 0 0) (.slice none 0 0) (.int .i64 0) := by rw [← hWn]; exact At3.new _ _ _ _ _
      rw [hWn]
      clear hWn
      obtain ⟨by', hnm⟩ : ∃ x, W20.heap.size = x := ⟨_, rfl⟩
      rw [hnm] at hNB ⊢
      replace HZ := Lib.hid (And.intro HZ.out (And.intro hnm hNB.1))
      replace HW0 := Lib.hid (HW0.out.trans (hB.mono HW0.out.size))
      have HVY := Lib.hid hNB
      clear hNB hB hnm
      have HG1 := Lib.hid (show w0.heap.size ≤ by' by (have := HZ.out; omega))
      replace HZ := Lib.hid (And.intro HZ.out HG1.out)
      refine hK.out _ _ ?_ (fun hHeld => ?_)
      · exact HHL.out _ HW0.out
      clear hK K
      refine wpAnyH_ready (rs := [1, 4]) (by kernel_rfl) (by simp) ?_
      refine AllReadyH.cons (o := _) rfl (fun K hK => ?_) ?_
      · clear hHeld
        go_simp
        have HWO0 := Lib.hid (show w.heap.size ≤ w0.heap.size from HWW.out)
        refine (ptidy_calls 40 _ p _ _ HCP.out (HI.out.grow HW0.out)).mono ?_
        rintro e W22 ⟨ux, rfl, hX, hB⟩
        replace HZ := Lib.hid (And.intro HZ.out hB.size)
        replace HW0 := Lib.hid (HW0.out.trans (hB.mono HW0.out.size))
        replace HVY := Lib.hid (HVY.out.below hB)
        rw [← HXE.out.1] at hX
        obtain ⟨xso, xsc, xio, xic, rfl, _⟩ := hX.opened
        have HXP := Lib.hid (show IsP W22 (fun b => b < w0.heap.size ∨ (W21.heap.size ≤ b ∧ b < W22.heap.size)) (.agg #[.slice xso X.s.length xsc, .slice xio X.l.length xic, .int .i64 X.f]) X from hX.wide (fun b h1 h2 => by
          rcases h2 with h2 | h2
          · exact .inl (Nat.lt_of_lt_of_le h2.1 HWO0.out)
          · exact .inr ⟨h2, h1⟩))
        clear hX
        clear hB
        try go_simp
        refine hK.out _ _ ?_ (fun hHeld => ?_)
        · exact HHL.out _ HW0.out
        clear hK K
        refine wpAnyH_ready (rs := [3, 4]) (by kernel_rfl) (by simp) ?_
        refine AllReadyH.cons (o := _) rfl (fun K hK => ?_) ?_
        · clear hHeld
          go_simp
          have HWO1 := Lib.hid (show w.heap.size ≤ w0.heap.size from HWW.out)
          refine (ptidy_calls 40 _ q _ _ HCQ.out (HI2.out.grow HW0.out)).mono ?_
          rintro e W23 ⟨uy, rfl, hY, hB⟩
          replace HZ := Lib.hid (And.intro HZ.out hB.size)
          replace HW0 := Lib.hid (HW0.out.trans (hB.mono HW0.out.size))
          replace HVY := Lib.hid (HVY.out.below hB)
          replace HXP := Lib.hid (HXP.out.grow hB)
          rw [← HXE.out.2] at hY
          obtain ⟨yso, ysc, yio, yic, rfl, _⟩ := hY.opened
          have HYP := Lib.hid (show IsP W23 (fun b => b < w0.heap.size ∨ (W22.heap.size ≤ b ∧ b < W23.heap.size)) (.agg #[.slice yso Y.s.length ysc, .slice yio Y.l.length yic, .int .i64 Y.f]) Y from hY.wide (fun b h1 h2 => by
            rcases h2 with h2 | h2
            · exact .inl (Nat.lt_of_lt_of_le h2.1 HWO1.out)
            · exact .inr ⟨h2, h1⟩))
          clear hY
          clear hB
          try go_simp
          refine hK.out _ _ ?_ (fun hHeld => ?_)
          · exact HHL.out _ HW0.out
          clear hK K
          refine wpAnyH_ready (rs := [4]) (by kernel_rfl) (by simp) ?_
          refine AllReadyH.cons (o := _) rfl (fun K hK => ?_) ?_
          · clear hHeld
            go_simp
            obtain ⟨W24, hWn⟩ : ∃ xw9, W23.alloc (.cells #[.slice none 0 0, .slice none 0 0, .int .i64 0] 25) = xw9 := ⟨_, rfl⟩
            have hB : Below W23.heap.size W23 W24 := by rw [← hWn]; exact below_new _ _
            have hNB : At3 W24 W23.heap.size (.slice none 0 0) (.slice none 0 0) (.int .i64 0) := by rw [← hWn]; exact At3.new _ _ _ _ _
            rw [hWn]
            clear hWn
            obtain ⟨bx, hnm⟩ : ∃ x, W23.heap.size = x := ⟨_, rfl⟩
            rw [hnm] at hNB ⊢
            replace HZ := Lib.hid (And.intro HZ.out (And.intro hnm hNB.1))
            replace HW0 := Lib.hid (HW0.out.trans (hB.mono HW0.out.size))
            replace HVY := Lib.hid (HVY.out.below hB)
            replace HXP := Lib.hid (HXP.out.grow hB)
            replace HYP := Lib.hid (HYP.out.grow hB)
            have HVX := Lib.hid hNB
            clear hNB hB hnm
            have HG0 := Lib.hid (show w0.heap.size ≤ bx by (have := HZ.out; omega))
            replace HZ := Lib.hid (And.intro HZ.out HG0.out)
            refine hK.out _ _ ?_ (fun hHeld => ?_)
            · exact HHL.out _ HW0.out
            clear hK K
            refine wpAnyH_ready (rs := [6]) (by kernel_rfl) (by simp) ?_
            refine AllReadyH.cons (o := _) rfl (fun K hK => ?_) ?_
            · clear hHeld
              have s0 := HVX.out.2.1
              have s1 := HVX.out.2.2.1
              have s2 := HVX.out.2.2.2.1
              have t0 := HVX.out.2.2.2.2 0
              have t1 := HVX.out.2.2.2.2 1
              have t2 := HVX.out.2.2.2.2 2
              go_simp
              clear s0 t0 s1 t1 s2 t2
              obtain ⟨W25, hWn⟩ : ∃ xw9, (((W24.setCell ⟨bx, 0, none⟩ (.slice xso X.s.length xsc)).setCell ⟨bx, 1, none⟩ (.slice xio X.l.length xic)).setCell ⟨bx, 2, none⟩ (.int .i64 X.f)) = xw9 := ⟨_, rfl⟩
              rw [hWn]
              have HNE := Lib.hid (show by' ≠ bx by (have := HZ.out; omega))
              replace HVX := Lib.hid (show At3 W25 bx (.slice xso X.s.length xsc) (.slice xio X.l.length xic) (.int .i64 X.f) by rw [← hWn]; exact At3.put3 HVX.out _ _ _)
              replace HVY := Lib.hid (show At3 W25 by' (.slice none 0 0) (.slice none 0 0) (.int .i64 0) by rw [← hWn]; exact (((HVY.out.grown (grown_setCell _ ⟨bx, 0, none⟩ _) (by simpa using HNE.out)).grown (grown_setCell _ ⟨bx, 1, none⟩ _) (by simpa using HNE.out)).grown (grown_setCell _ ⟨bx, 2, none⟩ _) (by simpa using HNE.out)))
              replace HXP := Lib.hid (show IsP W25 (fun b => b < w0.heap.size ∨ (W21.heap.size ≤ b ∧ b < W22.heap.size)) (.agg #[.slice xso X.s.length xsc, .slice xio X.l.length xic, .int .i64 X.f]) X by
                have hno : ¬ (bx < w0.heap.size ∨ (W21.heap.size ≤ bx ∧ bx < W22.heap.size)) := by (have := HZ.out; omega)
                rw [← hWn]; exact HXP.out.keep (((Kept.setCell _ _ _ hno).trans (Kept.setCell _ _ _ hno)).trans (Kept.setCell _ _ _ hno)) (fun _ _ h => h))
              replace HYP := Lib.hid (show IsP W25 (fun b => b < w0.heap.size ∨ (W22.heap.size ≤ b ∧ b < W23.heap.size)) (.agg #[.slice yso Y.s.length ysc, .slice yio Y.l.length yic, .int .i64 Y.f]) Y by
                have hno : ¬ (bx < w0.heap.size ∨ (W22.heap.size ≤ bx ∧ bx < W23.heap.size)) := by (have := HZ.out; omega)
                rw [← hWn]; exact HYP.out.keep (((Kept.setCell _ _ _ hno).trans (Kept.setCell _ _ _ hno)).trans (Kept.setCell _ _ _ hno)) (fun _ _ h => h))
              replace HW0 := Lib.hid (show Below w0.heap.size w0 W25 by rw [← hWn]; exact (((HW0.out.setCell (by show w0.heap.size ≤ bx; exact HG0.out) _).setCell (by show w0.heap.size ≤ bx; exact HG0.out) _).setCell (by show w0.heap.size ≤ bx; exact HG0.out) _))
              clear hWn HNE
              refine hK.out _ _ ?_ (fun hHeld => ?_)
              · exact HHL.out _ HW0.out
              clear hK K
              refine wpAnyH_ready (rs := [7]) (by kernel_rfl) (by simp) ?_
              refine AllReadyH.cons (o := _) rfl (fun K hK => ?_) ?_
              · clear hHeld
                have s0 := HVY.out.2.1
                have s1 := HVY.out.2.2.1
                have s2 := HVY.out.2.2.2.1
                have t0 := HVY.out.2.2.2.2 0
                have t1 := HVY.out.2.2.2.2 1
                have t2 := HVY.out.2.2.2.2 2
                go_simp
                clear s0 t0 s1 t1 s2 t2
                obtain ⟨W26, hWn⟩ : ∃ xw9, (((W25.setCell ⟨by', 0, none⟩ (.slice yso Y.s.length ysc)).setCell ⟨by', 1, none⟩ (.slice yio Y.l.length yic)).setCell ⟨by', 2, none⟩ (.int .i64 Y.f)) = xw9 := ⟨_, rfl⟩
                rw [hWn]
                have HNE := Lib.hid (show bx ≠ by' by (have := HZ.out; omega))
                replace HVY := Lib.hid (show At3 W26 by' (.slice yso Y.s.length ysc) (.slice yio Y.l.length yic) (.int .i64 Y.f) by rw [← hWn]; exact At3.put3 HVY.out _ _ _)
                replace HVX := Lib.hid (show At3 W26 bx (.slice xso X.s.length xsc) (.slice xio X.l.length xic) (.int .i64 X.f) by rw [← hWn]; exact (((HVX.out.grown (grown_setCell _ ⟨by', 0, none⟩ _) (by simpa using HNE.out)).grown (grown_setCell _ ⟨by', 1, none⟩ _) (by simpa using HNE.out)).grown (grown_setCell _ ⟨by', 2, none⟩ _) (by simpa using HNE.out)))
                replace HXP := Lib.hid (show IsP W26 (fun b => b < w0.heap.size ∨ (W21.heap.size ≤ b ∧ b < W22.heap.size)) (.agg #[.slice xso X.s.length xsc, .slice xio X.l.length xic, .int .i64 X.f]) X by
                  have hno : ¬ (by' < w0.heap.size ∨ (W21.heap.size ≤ by' ∧ by' < W22.heap.size)) := by (have := HZ.out; omega)
                  rw [← hWn]; exact HXP.out.keep (((Kept.setCell _ _ _ hno).trans (Kept.setCell _ _ _ hno)).trans (Kept.setCell _ _ _ hno)) (fun _ _ h => h))
                replace HYP := Lib.hid (show IsP W26 (fun b => b < w0.heap.size ∨ (W22.heap.size ≤ b ∧ b < W23.heap.size)) (.agg #[.slice yso Y.s.length ysc, .slice yio Y.l.length yic, .int .i64 Y.f]) Y by
                  have hno : ¬ (by' < w0.heap.size ∨ (W22.heap.size ≤ by' ∧ by' < W23.heap.size)) := by (have := HZ.out; omega)
                  rw [← hWn]; exact HYP.out.keep (((Kept.setCell _ _ _ hno).trans (Kept.setCell _ _ _ hno)).trans (Kept.setCell _ _ _ hno)) (fun _ _ h => h))
                replace HW0 := Lib.hid (show Below w0.heap.size w0 W26 by rw [← hWn]; exact (((HW0.out.setCell (by show w0.heap.size ≤ by'; exact HG1.out) _).setCell (by show w0.heap.size ≤ by'; exact HG1.out) _).setCell (by show w0.heap.size ≤ by'; exact HG1.out) _))
                clear hWn HNE
                refine hK.out _ _ ?_ (fun hHeld => ?_)
                · exact HHL.out _ HW0.out
                clear hK K
                refine wpAnyH_done (by kernel_rfl) ?_ _
                clear hHeld
                exact ⟨rfl, bx, by', xso, xio, yso, yio, xsc, xic, ysc, yic, rfl, HVX.out, HVY.out, HXP.out.wide (fun _ _ _ => trivial), HYP.out.wide (fun _ _ _ => trivial), HW0.out⟩
              exact AllReadyH.nil
            exact AllReadyH.nil
          exact AllReadyH.nil
        refine AllReadyH.cons (o := _) rfl (fun K hK => ?_) ?_
        · clear hHeld
          go_simp
          obtain ⟨W23, hWn⟩ : ∃ xw9, W22.alloc (.cells #[.slice none 0 0, .slice none 0 0, .int .i64 0] 25) = xw9 := ⟨_, rfl⟩
          have hB : Below W22.heap.size W22 W23 := by rw [← hWn]; exact below_new _ _
          have hNB : At3 W23 W22.heap.size (.slice none 0 0) (.slice none 0 0) (.int .i64 0) := by rw [← hWn]; exact At3.new _ _ _ _ _
          rw [hWn]
          clear hWn
          obtain ⟨bx, hnm⟩ : ∃ x, W22.heap.size = x := ⟨_, rfl⟩
          rw [hnm] at hNB ⊢
          replace HZ := Lib.hid (And.intro HZ.out (And.intro hnm hNB.1))
          replace HW0 := Lib.hid (HW0.out.trans (hB.mono HW0.out.size))
          replace HVY := Lib.hid (HVY.out.below hB)
          replace HXP := Lib.hid (HXP.out.grow hB)
          have HVX := Lib.hid hNB
          clear hNB hB hnm
          have HG0 := Lib.hid (show w0.heap.size ≤ bx by (have := HZ.out; omega))
          replace HZ := Lib.hid (And.intro HZ.out HG0.out)
          refine hK.out _ _ ?_ (fun hHeld => ?_)
          · exact HHL.out _ HW0.out
          clear hK K
          refine wpAnyH_ready (rs := [3]) (by kernel_rfl) (by simp) ?_
          refine AllReadyH.cons (o := _) rfl (fun K hK => ?_) ?_
          · clear hHeld
            go_simp
            have HWO1 := Lib.hid (show w.heap.size ≤ w0.heap.size from HWW.out)
            refine (ptidy_calls 40 _ q _ _ HCQ.out (HI2.out.grow HW0.out)).mono ?_
            rintro e W24 ⟨uy, rfl, hY, hB⟩
            replace HZ := Lib.hid (And.intro HZ.out hB.size)
            replace HW0 := Lib.hid (HW0.out.trans (hB.mono HW0.out.size))
            replace HVY := Lib.hid (HVY.out.below hB)
            replace HXP := Lib.hid (HXP.out.grow hB)
            replace HVX := Lib.hid (HVX.out.below hB)
            rw [← HXE.out.2] at hY
            obtain ⟨yso, ysc, yio, yic, rfl, _⟩ := hY.opened
            have HYP := Lib.hid (show IsP W24 (fun b => b < w0.heap.size ∨ (W23.heap.size ≤ b ∧ b < W24.heap.size)) (.agg #[.slice yso Y.s.length ysc, .slice yio Y.l.length yic, .int .i64 Y.f]) Y from hY.wide (fun b h1 h2 => by
              rcases h2 with h2 | h2
              · exact .inl (Nat.lt_of_lt_of_le h2.1 HWO1.out)
              · exact .inr ⟨h2, h1⟩))
            clear hY
            clear hB
            try go_simp
            refine hK.out _ _ ?_ (fun hHeld => ?_)
            · exact HHL.out _ HW0.out
            clear hK K
            refine wpAnyH_ready (rs := [6]) (by kernel_rfl) (by simp) ?_
            refine AllReadyH.cons (o := _) rfl (fun K hK => ?_) ?_
            · clear hHeld
              have s0 := HVX.out.2.1
              have s1 := HVX.out.2.2.1
              have s2 := HVX.out.2.2.2.1
              have t0 := HVX.out.2.2.2.2 0
              have t1 := HVX.out.2.2.2.2 1
              have t2 := HVX.out.2.2.2.2 2
              go_simp
              clear s0 t0 s1 t1 s2 t2
              obtain ⟨W25, hWn⟩ : ∃ xw9, (((W24.setCell ⟨bx, 0, none⟩ (.slice xso X.s.length xsc)).setCell ⟨bx, 1, none⟩ (.slice xio X.l.length xic)).setCell ⟨bx, 2, none⟩ (.int .i64 X.f)) = xw9 := ⟨_, rfl⟩
              rw [hWn]
              have HNE := Lib.hid (show by' ≠ bx by (have := HZ.out; omega))
              replace HVX := Lib.hid (show At3 W25 bx (.slice xso X.s.length xsc) (.slice xio X.l.length xic) (.int .i64 X.f) by rw [← hWn]; exact At3.put3 HVX.out _ _ _)
              replace HVY := Lib.hid (show At3 W25 by' (.slice none 0 0) (.slice none 0 0) (.int .i64 0) by rw [← hWn]; exact (((HVY.out.grown (grown_setCell _ ⟨bx, 0, none⟩ _) (by simpa using HNE.out)).grown (grown_setCell _ ⟨bx, 1, none⟩ _) (by simpa using HNE.out)).grown (grown_setCell _ ⟨bx, 2, none⟩ _) (by simpa using HNE.out)))
              replace HXP := Lib.hid (show IsP W25 (fun b => b < w0.heap.size ∨ (W21.heap.size ≤ b ∧ b < W22.heap.size)) (.agg #[.slice xso X.s.length xsc, .slice xio X.l.length xic, .int .i64 X.f]) X by
                have hno : ¬ (bx < w0.heap.size ∨ (W21.heap.size ≤ bx ∧ bx < W22.heap.size)) := by (have := HZ.out; omega)
                rw [← hWn]; exact HXP.out.keep (((Kept.setCell _ _ _ hno).trans (Kept.setCell _ _ _ hno)).trans (Kept.setCell _ _ _ hno)) (fun _ _ h => h))
              replace HYP := Lib.hid (show IsP W25 (fun b => b < w0.heap.size ∨ (W23.heap.size ≤ b ∧ b < W24.heap.size)) (.agg #[.slice yso Y.s.length ysc, .slice yio Y.l.length yic, .int .i64 Y.f]) Y by
                have hno : ¬ (bx < w0.heap.size ∨ (W23.heap.size ≤ bx ∧ bx < W24.heap.size)) := by (have := HZ.out; omega)
                rw [← hWn]; exact HYP.out.keep (((Kept.setCell _ _ _ hno).trans (Kept.setCell _ _ _ hno)).trans (Kept.setCell _ _ _ hno)) (fun _ _ h => h))
              replace HW0 := Lib.hid (show Below w0.heap.size w0 W25 by rw [← hWn]; exact (((HW0.out.setCell (by show w0.heap.size ≤ bx; exact HG0.out) _).setCell (by show w0.heap.size ≤ bx; exact HG0.out) _).setCell (by show w0.heap.size ≤ bx; exact HG0.out) _))
              clear hWn HNE
              refine hK.out _ _ ?_ (fun hHeld => ?_)
              · exact HHL.out _ HW0.out
              clear hK K
              refine wpAnyH_ready (rs := [7]) (by kernel_rfl) (by simp) ?_
              refine AllReadyH.cons (o := _) rfl (fun K hK => ?_) ?_
              · clear hHeld
                have s0 := HVY.out.2.1
                have s1 := HVY.out.2.2.1
                have s2 := HVY.out.2.2.2.1
                have t0 := HVY.out.2.2.2.2 0
                have t1 := HVY.out.2.2.2.2 1
                have t2 := HVY.out.2.2.2.2 2
                go_simp
                clear s0 t0 s1 t1 s2 t2
                obtain ⟨W26, hWn⟩ : ∃ xw9, (((W25.setCell ⟨by', 0, none⟩ (.slice yso Y.s.length ysc)).setCell ⟨by', 1, none⟩ (.slice yio Y.l.length yic)).setCell ⟨by', 2, none⟩ (.int .i64 Y.f)) = xw9 := ⟨_, rfl⟩
                rw [hWn]
                have HNE := Lib.hid (show bx ≠ by' by (have := HZ.out; omega))
                replace HVY := Lib.hid (show At3 W26 by' (.slice yso Y.s.length ysc) (.slice yio Y.l.length yic) (.int .i64 Y.f) by rw [← hWn]; exact At3.put3 HVY.out _ _ _)
                replace HVX := Lib.hid (show At3 W26 bx (.slice xso X.s.length xsc) (.slice xio X.l.length xic) (.int .i64 X.f) by rw [← hWn]; exact (((HVX.out.grown (grown_setCell _ ⟨by', 0, none⟩ _) (by simpa using HNE.out)).grown (grown_setCell _ ⟨by', 1, none⟩ _) (by simpa using HNE.out)).grown (grown_setCell _ ⟨by', 2, none⟩ _) (by simpa using HNE.out)))
                replace HXP := Lib.hid (show IsP W26 (fun b => b < w0.heap.size ∨ (W21.heap.size ≤ b ∧ b < W22.heap.size)) (.agg #[.slice xso X.s.length xsc, .slice xio X.l.length xic, .int .i64 X.f]) X by
                  have hno : ¬ (by' < w0.heap.size ∨ (W21.heap.size ≤ by' ∧ by' < W22.heap.size)) := by (have := HZ.out; omega)
                  rw [← hWn]; exact HXP.out.keep (((Kept.setCell _ _ _ hno).trans (Kept.setCell _ _ _ hno)).trans (Kept.setCell _ _ _ hno)) (fun _ _ h => h))
                replace HYP := Lib.hid (show IsP W26 (fun b => b < w0.heap.size ∨ (W23.heap.size ≤ b ∧ b < W24.heap.size)) (.agg #[.slice yso Y.s.length ysc, .slice yio Y.l.length yic, .int .i64 Y.f]) Y by
                  have hno : ¬ (by' < w0.heap.size ∨ (W23.heap.size ≤ by' ∧ by' < W24.heap.size)) := by (have := HZ.out; omega)
                  rw [← hWn]; exact HYP.out.keep (((Kept.setCell _ _ _ hno).trans (Kept.setCell _ _ _ hno)).trans (Kept.setCell _ _ _ hno)) (fun _ _ h => h))
                replace HW0 := Lib.hid (show Below w0.heap.size w0 W26 by rw [← hWn]; exact (((HW0.out.setCell (by show w0.heap.size ≤ by'; exact HG1.out) _).setCell (by show w0.heap.size ≤ by'; exact HG1.out) _).setCell (by show w0.heap.size ≤ by'; exact HG1.out) _))
                clear hWn HNE
                refine hK.out _ _ ?_ (fun hHeld => ?_)
                · exact HHL.out _ HW0.out
                clear hK K
                refine wpAnyH_done (by kernel_rfl) ?_ _
                clear hHeld
                exact ⟨rfl, bx, by', xso, xio, yso, yio, xsc, xic, ysc, yic, rfl, HVX.out, HVY.out, HXP.out.wide (fun _ _ _ => trivial), HYP.out.wide (fun _ _ _ => trivial), HW0.out⟩
              exact AllReadyH.nil
            exact AllReadyH.nil
          exact AllReadyH.nil
        exact AllReadyH.nil
      refine AllReadyH.cons (o := _) rfl (fun K hK => ?_) ?_
      · clear hHeld
        go_simp
        obtain ⟨W22, hWn⟩ : ∃ xw9, W21.alloc (.cells #[.slice none 0 0, .slice none 0 0, .int .i64 0] 25) = xw9 := ⟨_, rfl⟩
        have hB : Below W21.heap.size W21 W22 := by rw [← hWn]; exact below_new _ _
        have hNB : At3 W22 W21.heap.size (.slice none 0 0) (.slice none 0 0) (.int .i64 0) := by rw [← hWn]; exact At3.new _ _ _ _ _
        rw [hWn]
        clear hWn
        obtain ⟨bx, hnm⟩ : ∃ x, W21.heap.size = x := ⟨_, rfl⟩
        rw [hnm] at hNB ⊢
        replace HZ := Lib.hid (And.intro HZ.out (And.intro hnm hNB.1))
        replace HW0 := Lib.hid (HW0.out.trans (hB.mono HW0.out.size))
        replace HVY := Lib.hid (HVY.out.below hB)
        have HVX := Lib.hid hNB
        clear hNB hB hnm
        have HG0 := Lib.hid (show w0.heap.size ≤ bx by (have := HZ.out; omega))
        replace HZ := Lib.hid (And.intro HZ.out HG0.out)
        refine hK.out _ _ ?_ (fun hHeld => ?_)
        · exact HHL.out _ HW0.out
        clear hK K
        refine wpAnyH_ready (rs := [1]) (by kernel_rfl) (by simp) ?_
        refine AllReadyH.cons (o := _) rfl (fun K hK => ?_) ?_
        · clear hHeld
          go_simp
          have HWO0 := Lib.hid (show w.heap.size ≤ w0.heap.size from HWW.out)
          refine (ptidy_calls 40 _ p _ _ HCP.out (HI.out.grow HW0.out)).mono ?_
          rintro e W23 ⟨ux, rfl, hX, hB⟩
          replace HZ := Lib.hid (And.intro HZ.out hB.size)
          replace HW0 := Lib.hid (HW0.out.trans (hB.mono HW0.out.size))
          replace HVY := Lib.hid (HVY.out.below hB)
          replace HVX := Lib.hid (HVX.out.below hB)
          rw [← HXE.out.1] at hX
          obtain ⟨xso, xsc, xio, xic, rfl, _⟩ := hX.opened
          have HXP := Lib.hid (show IsP W23 (fun b => b < w0.heap.size ∨ (W22.heap.size ≤ b ∧ b < W23.heap.size)) (.agg #[.slice xso X.s.length xsc, .slice xio X.l.length xic, .int .i64 X.f]) X from hX.wide (fun b h1 h2 => by
            rcases h2 with h2 | h2
            · exact .inl (Nat.lt_of_lt_of_le h2.1 HWO0.out)
            · exact .inr ⟨h2, h1⟩))
          clear hX
          clear hB
          try go_simp
          refine hK.out _ _ ?_ (fun hHeld => ?_)
          · exact HHL.out _ HW0.out
          clear hK K
          refine wpAnyH_ready (rs := [3]) (by kernel_rfl) (by simp) ?_
          refine AllReadyH.cons (o := _) rfl (fun K hK => ?_) ?_
          · clear hHeld
            go_simp
            have HWO1 := Lib.hid (show w.heap.size ≤ w0.heap.size from HWW.out)
            refine (ptidy_calls 40 _ q _ _ HCQ.out (HI2.out.grow HW0.out)).mono ?_
            rintro e W24 ⟨uy, rfl, hY, hB⟩
            replace HZ := Lib.hid (And.intro HZ.out hB.size)
            replace HW0 := Lib.hid (HW0.out.trans (hB.mono HW0.out.size))
            replace HVY := Lib.hid (HVY.out.below hB)
            replace HVX := Lib.hid (HVX.out.below hB)
            replace HXP := Lib.hid (HXP.out.grow hB)
            rw [← HXE.out.2] at hY
            obtain ⟨yso, ysc, yio, yic, rfl, _⟩ := hY.opened
            have HYP := Lib.hid (show IsP W24 (fun b => b < w0.heap.size ∨ (W23.heap.size ≤ b ∧ b < W24.heap.size)) (.agg #[.slice yso Y.s.length ysc, .slice yio Y.l.length yic, .int .i64 Y.f]) Y from hY.wide (fun b h1 h2 => by
              rcases h2 with h2 | h2
              · exact .inl (Nat.lt_of_lt_of_le h2.1 HWO1.out)
              · exact .inr ⟨h2, h1⟩))
            clear hY
            clear hB
            try go_simp
            refine hK.out _ _ ?_ (fun hHeld => ?_)
            · exact HHL.out _ HW0.out
            clear hK K
            refine wpAnyH_ready (rs := [6]) (by kernel_rfl) (by simp) ?_
            refine AllReadyH.cons (o := _) rfl (fun K hK => ?_) ?_
            · clear hHeld
              have s0 := HVX.out.2.1
              have s1 := HVX.out.2.2.1
              have s2 := HVX.out.2.2.2.1
              have t0 := HVX.out.2.2.2.2 0
              have t1 := HVX.out.2.2.2.2 1
              have t2 := HVX.out.2.2.2.2 2
              go_simp
              clear s0 t0 s1 t1 s2 t2
              obtain ⟨W25, hWn⟩ : ∃ xw9, (((W24.setCell ⟨bx, 0, none⟩ (.slice xso X.s.length xsc)).setCell ⟨bx, 1, none⟩ (.slice xio X.l.length xic)).setCell ⟨bx, 2, none⟩ (.int .i64 X.f)) = xw9 := ⟨_, rfl⟩
              rw [hWn]
              have HNE := Lib.hid (show by' ≠ bx by (have := HZ.out; omega))
              replace HVX := Lib.hid (show At3 W25 bx (.slice xso X.s.length xsc) (.slice xio X.l.length xic) (.int .i64 X.f) by rw [← hWn]; exact At3.put3 HVX.out _ _ _)
              replace HVY := Lib.hid (show At3 W25 by' (.slice none 0 0) (.slice none 0 0) (.int .i64 0) by rw [← hWn]; exact (((HVY.out.grown (grown_setCell _ ⟨bx, 0, none⟩ _) (by simpa using HNE.out)).grown (grown_setCell _ ⟨bx, 1, none⟩ _) (by simpa using HNE.out)).grown (grown_setCell _ ⟨bx, 2, none⟩ _) (by simpa using HNE.out)))
              replace HXP := Lib.hid (show IsP W25 (fun b => b < w0.heap.size ∨ (W22.heap.size ≤ b ∧ b < W23.heap.size)) (.agg #[.slice xso X.s.length xsc, .slice xio X.l.length xic, .int .i64 X.f]) X by
                have hno : ¬ (bx < w0.heap.size ∨ (W22.heap.size ≤ bx ∧ bx < W23.heap.size)) := by (have := HZ.out; omega)
                rw [← hWn]; exact HXP.out.keep (((Kept.setCell _ _ _ hno).trans (Kept.setCell _ _ _ hno)).trans (Kept.setCell _ _ _ hno)) (fun _ _ h => h))
              replace HYP := Lib.hid (show IsP W25 (fun b => b < w0.heap.size ∨ (W23.heap.size ≤ b ∧ b < W24.heap.size)) (.agg #[.slice yso Y.s.length ysc, .slice yio Y.l.length yic, .int .i64 Y.f]) Y by
                have hno : ¬ (bx < w0.heap.size ∨ (W23.heap.size ≤ bx ∧ bx < W24.heap.size)) := by (have := HZ.out; omega)
                rw [← hWn]; exact HYP.out.keep (((Kept.setCell _ _ _ hno).trans (Kept.setCell _ _ _ hno)).trans (Kept.setCell _ _ _ hno)) (fun _ _ h => h))
              replace HW0 := Lib.hid (show Below w0.heap.size w0 W25 by rw [← hWn]; exact (((HW0.out.setCell (by show w0.heap.size ≤ bx; exact HG0.out) _).setCell (by show w0.heap.size ≤ bx; exact HG0.out) _).setCell (by show w0.heap.size ≤ bx; exact HG0.out) _))
              clear hWn HNE
              refine hK.out _ _ ?_ (fun hHeld => ?_)
              · exact HHL.out _ HW0.out
              clear hK K
              refine wpAnyH_ready (rs := [7]) (by kernel_rfl) (by simp) ?_
              refine AllReadyH.cons (o := _) rfl (fun K hK => ?_) ?_
              · clear hHeld
                have s0 := HVY.out.2.1
                have s1 := HVY.out.2.2.1
                have s2 := HVY.out.2.2.2.1
                have t0 := HVY.out.2.2.2.2 0
                have t1 := HVY.out.2.2.2.2 1
                have t2 := HVY.out.2.2.2.2 2
                go_simp
                clear s0 t0 s1 t1 s2 t2
                obtain ⟨W26, hWn⟩ : ∃ xw9, (((W25.setCell ⟨by', 0, none⟩ (.slice yso Y.s.length ysc)).setCell ⟨by', 1, none⟩ (.slice yio Y.l.length yic)).setCell ⟨by', 2, none⟩ (.int .i64 Y.f)) = xw9 := ⟨_, rfl⟩
                rw [hWn]
                have HNE := Lib.hid (show bx ≠ by' by (have := HZ.out; omega))
                replace HVY := Lib.hid (show At3 W26 by' (.slice yso Y.s.length ysc) (.slice yio Y.l.length yic) (.int .i64 Y.f) by rw [← hWn]; exact At3.put3 HVY.out _ _ _)
                replace HVX := Lib.hid (show At3 W26 bx (.slice xso X.s.length xsc) (.slice xio X.l.length xic) (.int .i64 X.f) by rw [← hWn]; exact (((HVX.out.grown (grown_setCell _ ⟨by', 0, none⟩ _) (by simpa using HNE.out)).grown (grown_setCell _ ⟨by', 1, none⟩ _) (by simpa using HNE.out)).grown (grown_setCell _ ⟨by', 2, none⟩ _) (by simpa using HNE.out)))
                replace HXP := Lib.hid (show IsP W26 (fun b => b < w0.heap.size ∨ (W22.heap.size ≤ b ∧ b < W23.heap.size)) (.agg #[.slice xso X.s.length xsc, .slice xio X.l.length xic, .int .i64 X.f]) X by
                  have hno : ¬ (by' < w0.heap.size ∨ (W22.heap.size ≤ by' ∧ by' < W23.heap.size)) := by (have := HZ.out; omega)
                  rw [← hWn]; exact HXP.out.keep (((Kept.setCell _ _ _ hno).trans (Kept.setCell _ _ _ hno)).trans (Kept.setCell _ _ _ hno)) (fun _ _ h => h))
                replace HYP := Lib.hid (show IsP W26 (fun b => b < w0.heap.size ∨ (W23.heap.size ≤ b ∧ b < W24.heap.size)) (.agg #[.slice yso Y.s.length ysc, .slice yio Y.l.length yic, .int .i64 Y.f]) Y by
                  have hno : ¬ (by' < w0.heap.size ∨ (W23.heap.size ≤ by' ∧ by' < W24.heap.size)) := by (have := HZ.out; omega)
                  rw [← hWn]; exact HYP.out.keep (((Kept.setCell _ _ _ hno).trans (Kept.setCell _ _ _ hno)).trans (Kept.setCell _ _ _ hno)) (fun _ _ h => h))
                replace HW0 := Lib.hid (show Below w0.heap.size w0 W26 by rw [← hWn]; exact (((HW0.out.setCell (by show w0.heap.size ≤ by'; exact HG1.out) _).setCell (by show w0.heap.size ≤ by'; exact HG1.out) _).setCell (by show w0.heap.size ≤ by'; exact HG1.out) _))
                clear hWn HNE
                refine hK.out _ _ ?_ (fun hHeld => ?_)
                · exact HHL.out _ HW0.out
                clear hK K
                refine wpAnyH_done (by kernel_rfl) ?_ _
                clear hHeld
                exact ⟨rfl, bx, by', xso, xio, yso, yio, xsc, xic, ysc, yic, rfl, HVX.out, HVY.out, HXP.out.wide (fun _ _ _ => trivial), HYP.out.wide (fun _ _ _ => trivial), HW0.out⟩
              exact AllReadyH.nil
            exact AllReadyH.nil
          exact AllReadyH.nil
        exact AllReadyH.nil
      exact AllReadyH.nil
    exact AllReadyH.nil
  rintro a' v2 ⟨bx, by', xso, xio, yso, yio, xsc, xic, ysc, yic, rfl, hVX, hVY, hXP, hYP, hB⟩
  replace HA := Lib.hid (HA.out.below hB)
  replace HA2 := Lib.hid (HA2.out.below hB)
  replace HB := Lib.hid (HB.out.trans (hB.mono HB.out.size))
  replace HI := Lib.hid (HI.out.grow hB)
  replace HI2 := Lib.hid (HI2.out.grow hB)
  replace HT := Lib.hid (fun j hj => keep_below hB _ _ (HT.out j hj))
  replace HVA := Lib.hid (HVA.out.below hB)
  replace HVB := Lib.hid (HVB.out.below hB)
  replace HAR := Lib.hid (HAR.out.grow hB)
  replace HBR := Lib.hid (HBR.out.grow hB)
  have HVX := Lib.hid hVX
  have HVY := Lib.hid hVY
  have HXP := Lib.hid hXP
  have HYP := Lib.hid hYP
  clear hVX hVY hXP hYP hB
  simp only [Act.put, List.setIfInBounds_toArray, List.set_cons_zero, List.set_cons_succ]
  have HNI := Lib.hid (show nice 40 X ∧ nice 40 Y by rw [HXE.out.1, HXE.out.2]; exact ⟨nice_tidy 40 p HCP.out, nice_tidy 40 q HCQ.out⟩)
  have HGG := Lib.hid (show gA 40 A ∧ gA 40 B by rw [HAE.out.1, HAE.out.2]; exact ⟨arrP_good 40 p HCP.out, arrP_good 40 q HCQ.out⟩)
  have HPL := Lib.hid (show plA 40 A = X ∧ plA 40 B = Y by rw [HAE.out.1, HAE.out.2, HXE.out.1, HXE.out.2]; exact ⟨plA_arrP 40 p HCP.out, plA_arrP 40 q HCQ.out⟩)
  obtain ⟨sm, hsme⟩ : ∃ sm, sm = true := ⟨_, rfl⟩
  have hsm : pq X Y = sm := by rw [hsme, HXE.out.1, HXE.out.2]; exact HSMV.out
  have HSM := Lib.hid hsm
  have HSY := Lib.hid (show pq Y X = sm by
    rw [← hsm]
    by_cases e : X = Y
    · rw [pq_yes e, pq_yes e.symm]
    · rw [pq_no e, pq_no (fun h => e h.symm)])
  have HKD := Lib.hid (show sm = true → A.2.kind = B.2.kind from fun h => by
    have e := pq_true (hsm.trans h)
    rw [HXE.out.1, HXE.out.2] at e
    rw [HAE.out.1, HAE.out.2]
    exact kind_tidy HCP.out HCQ.out e)
  clear hsm
  subst hsme
  have cHA0 := HA.out.2.1
  have cHA1 := HA.out.2.2.1
  have cHA2 := HA.out.2.2.2.1
  have cHA20 := HA2.out.2.1
  have cHA21 := HA2.out.2.2.1
  have cHA22 := HA2.out.2.2.2.1
  have cHVA0 := HVA.out.2.1
  have cHVA1 := HVA.out.2.2.1
  have cHVB0 := HVB.out.2.1
  have cHVB1 := HVB.out.2.2.1
  have cHVX0 := HVX.out.2.1
  have cHVX1 := HVX.out.2.2.1
  have cHVX2 := HVX.out.2.2.2.1
  have cHVY0 := HVY.out.2.1
  have cHVY1 := HVY.out.2.2.1
  have cHVY2 := HVY.out.2.2.2.1
  go_wp2_with fail
  refine (psame_calls 40 _ _ X Y _ _ 40 _ HNI.out.1 HNI.out.2 HXP.out HYP.out).mono ?_
  rintro e W25 ⟨rfl, hB⟩
  clear cHA0 cHA1 cHA2 cHA20 cHA21 cHA22 cHVA0 cHVA1 cHVB0 cHVB1 cHVX0 cHVX1 cHVX2 cHVY0 cHVY1 cHVY2
  replace HA := Lib.hid (HA.out.below hB)
  replace HA2 := Lib.hid (HA2.out.below hB)
  replace HB := Lib.hid (HB.out.trans (hB.mono HB.out.size))
  replace HI := Lib.hid (HI.out.grow hB)
  replace HI2 := Lib.hid (HI2.out.grow hB)
  replace HT := Lib.hid (fun j hj => keep_below hB _ _ (HT.out j hj))
  replace HVA := Lib.hid (HVA.out.below hB)
  replace HVB := Lib.hid (HVB.out.below hB)
  replace HAR := Lib.hid (HAR.out.grow hB)
  replace HBR := Lib.hid (HBR.out.grow hB)
  replace HVX := Lib.hid (HVX.out.below hB)
  replace HVY := Lib.hid (HVY.out.below hB)
  replace HXP := Lib.hid (HXP.out.grow hB)
  replace HYP := Lib.hid (HYP.out.grow hB)
  rw [HSM.out]
  clear hB
  have cHA0 := HA.out.2.1
  have cHA1 := HA.out.2.2.1
  have cHA2 := HA.out.2.2.2.1
  have cHA20 := HA2.out.2.1
  have cHA21 := HA2.out.2.2.1
  have cHA22 := HA2.out.2.2.2.1
  have cHVA0 := HVA.out.2.1
  have cHVA1 := HVA.out.2.2.1
  have cHVB0 := HVB.out.2.1
  have cHVB1 := HVB.out.2.2.1
  have cHVX0 := HVX.out.2.1
  have cHVX1 := HVX.out.2.2.1
  have cHVX2 := HVX.out.2.2.2.1
  have cHVY0 := HVY.out.2.1
  have cHVY1 := HVY.out.2.2.1
  have cHVY2 := HVY.out.2.2.2.1
  go_wp2_with fail
  have HKE := Lib.hid (HKD.out trivial)
  obtain ⟨W26, hWD⟩ : ∃ xw9, W25.drew = xw9 := ⟨_, rfl⟩
  have hB : Below W25.heap.size W25 W26 := by rw [← hWD]; exact Below.drewN' (Below.refl _ _) 1
  clear cHA0 cHA1 cHA2 cHA20 cHA21 cHA22 cHVA0 cHVA1 cHVB0 cHVB1 cHVX0 cHVX1 cHVX2 cHVY0 cHVY1 cHVY2
  replace HA := Lib.hid (HA.out.below hB)
  replace HA2 := Lib.hid (HA2.out.below hB)
  replace HB := Lib.hid (HB.out.trans (hB.mono HB.out.size))
  replace HI := Lib.hid (HI.out.grow hB)
  replace HI2 := Lib.hid (HI2.out.grow hB)
  replace HT := Lib.hid (fun j hj => keep_below hB _ _ (HT.out j hj))
  replace HVA := Lib.hid (HVA.out.below hB)
  replace HVB := Lib.hid (HVB.out.below hB)
  replace HAR := Lib.hid (HAR.out.grow hB)
  replace HBR := Lib.hid (HBR.out.grow hB)
  replace HVX := Lib.hid (HVX.out.below hB)
  replace HVY := Lib.hid (HVY.out.below hB)
  replace HXP := Lib.hid (HXP.out.grow hB)
  replace HYP := Lib.hid (HYP.out.grow hB)
  clear hB
  refine wp_region_held_drew (S := fun w' => w'.cell? ⟨w.heap.size, 0, none⟩ = some (.slice so p.s.length sc) ∧ w'.cell? ⟨w.heap.size, 1, none⟩ = some (.slice io p.l.length ic) ∧ w'.cell? ⟨w.heap.size, 2, none⟩ = some (.int .i64 p.f) ∧ w'.cell? ⟨w.heap.size + 1, 0, none⟩ = some (.slice so2 q.s.length sc2) ∧ w'.cell? ⟨w.heap.size + 1, 1, none⟩ = some (.slice io2 q.l.length ic2) ∧ w'.cell? ⟨w.heap.size + 1, 2, none⟩ = some (.int .i64 q.f) ∧ w'.cell? ⟨ba, 0, none⟩ = some (.slice soA A.1.length scA) ∧ w'.cell? ⟨ba, 1, none⟩ = some (uA) ∧ w'.cell? ⟨bb, 0, none⟩ = some (.slice soB B.1.length scB) ∧ w'.cell? ⟨bb, 1, none⟩ = some (uB) ∧ w'.cell? ⟨bx, 0, none⟩ = some (.slice xso X.s.length xsc) ∧ w'.cell? ⟨bx, 1, none⟩ = some (.slice xio X.l.length xic) ∧ w'.cell? ⟨bx, 2, none⟩ = some (.int .i64 X.f) ∧ w'.cell? ⟨by', 0, none⟩ = some (.slice yso Y.s.length ysc) ∧ w'.cell? ⟨by', 1, none⟩ = some (.slice yio Y.l.length yic) ∧ w'.cell? ⟨by', 2, none⟩ = some (.int .i64 Y.f)) (by kernel_rfl) (by rw [hWD]; exact ⟨HA.out.2.1, HA.out.2.2.1, HA.out.2.2.2.1, HA2.out.2.1, HA2.out.2.2.1, HA2.out.2.2.2.1, HVA.out.2.1, HVA.out.2.2.1, HVB.out.2.1, HVB.out.2.2.1, HVX.out.2.1, HVX.out.2.2.1, HVX.out.2.2.2.1, HVY.out.2.1, HVY.out.2.2.1, HVY.out.2.2.2.1⟩) (fun hHeld => ?_)
  rw [hWD] at hHeld ⊢
  clear hWD
  refine wpAnyH_take (i := 0) (v := ?_) rfl (by kernel_rfl) (by kernel_rfl) (by kernel_rfl) (fun _ _ _ h => h) (Or.inl ⟨by rfl, ?_⟩) (by assumption) ?_
  rotate_left
  · (intro w hSw; (try dsimp only at hSw); go_simp; try with_reducible rfl)
  simp only [Act.put, List.getElem_toArray, List.getElem_cons_zero, List.setIfInBounds_toArray, List.set_cons_zero, List.set_cons_succ]
  refine wpAnyH_take (i := 1) (v := ?_) rfl (by kernel_rfl) (by kernel_rfl) (by kernel_rfl) (fun _ _ _ h => h) (Or.inl ⟨by rfl, ?_⟩) (by assumption) ?_
  rotate_left
  · (intro w hSw; (try dsimp only at hSw); go_simp; try with_reducible rfl)
  simp only [Act.put, List.getElem_toArray, List.getElem_cons_succ, List.getElem_cons_zero, List.setIfInBounds_toArray, List.set_cons_zero, List.set_cons_succ]
  refine wpAnyH_take (i := 3) (v := ?_) rfl (by kernel_rfl) (by kernel_rfl) (by kernel_rfl) (fun _ _ _ h => h) (Or.inl ⟨by rfl, ?_⟩) (by assumption) ?_
  rotate_left
  · (intro w hSw; (try dsimp only at hSw); go_simp; try with_reducible rfl)
  simp only [Act.put, List.getElem_toArray, List.getElem_cons_succ, List.getElem_cons_zero, List.setIfInBounds_toArray, List.set_cons_zero, List.set_cons_succ]
  refine wpAnyH_ready (rs := [2]) (by kernel_rfl) (by simp) ?_
  refine AllReadyH.cons (o := _) rfl (fun K hK => ?_) AllReadyH.nil
  clear hHeld
  go_simp
  refine (vsame_calls 40 _ _ A B _ _ _ _ _ HGG.out.1 HGG.out.2 HAR.out HBR.out).mono ?_
  rintro e W27 ⟨rfl, hB⟩
  replace HA := Lib.hid (HA.out.below hB)
  replace HA2 := Lib.hid (HA2.out.below hB)
  replace HB := Lib.hid (HB.out.trans (hB.mono HB.out.size))
  replace HI := Lib.hid (HI.out.grow hB)
  replace HI2 := Lib.hid (HI2.out.grow hB)
  replace HT := Lib.hid (fun j hj => keep_below hB _ _ (HT.out j hj))
  replace HVA := Lib.hid (HVA.out.below hB)
  replace HVB := Lib.hid (HVB.out.below hB)
  replace HAR := Lib.hid (HAR.out.grow hB)
  replace HBR := Lib.hid (HBR.out.grow hB)
  replace HVX := Lib.hid (HVX.out.below hB)
  replace HVY := Lib.hid (HVY.out.below hB)
  replace HXP := Lib.hid (HXP.out.grow hB)
  replace HYP := Lib.hid (HYP.out.grow hB)
  rw [HPL.out.1, HPL.out.2, HSM.out]
  clear hB
  try go_simp
  refine hK.out _ _ ?_ (fun hHeld => ?_)
  · exact ⟨HA.out.2.1, HA.out.2.2.1, HA.out.2.2.2.1, HA2.out.2.1, HA2.out.2.2.1, HA2.out.2.2.2.1, HVA.out.2.1, HVA.out.2.2.1, HVB.out.2.1, HVB.out.2.2.1, HVX.out.2.1, HVX.out.2.2.1, HVX.out.2.2.2.1, HVY.out.2.1, HVY.out.2.2.1, HVY.out.2.2.2.1⟩
  clear hK K
  refine wpAnyH_take (i := 4) (v := ?_) rfl (by kernel_rfl) (by kernel_rfl) (by kernel_rfl) (fun _ _ _ h => h) (Or.inl ⟨by rfl, ?_⟩) (by assumption) ?_
  rotate_left
  · (intro w hSw; (try dsimp only at hSw); go_simp; try with_reducible rfl)
  simp only [Act.put, List.getElem_toArray, List.getElem_cons_succ, List.getElem_cons_zero, List.setIfInBounds_toArray, List.set_cons_zero, List.set_cons_succ]
  refine wpAnyH_take (i := 5) (v := ?_) rfl (by kernel_rfl) (by kernel_rfl) (by kernel_rfl) (fun _ _ _ h => h) (Or.inl ⟨by rfl, ?_⟩) (by assumption) ?_
  rotate_left
  · (intro w hSw; (try dsimp only at hSw); go_simp; try with_reducible rfl)
  simp only [Act.put, List.getElem_toArray, List.getElem_cons_succ, List.getElem_cons_zero, List.setIfInBounds_toArray, List.set_cons_zero, List.set_cons_succ]
  refine wpAnyH_take (i := 6) (v := ?_) rfl (by kernel_rfl) (by kernel_rfl) (by kernel_rfl) (fun _ _ _ h => h) (Or.inl ⟨by rfl, ?_⟩) (by assumption) ?_
  rotate_left
  · (intro w hSw; (try dsimp only at hSw); go_simp; try with_reducible rfl)
  simp only [Act.put, List.getElem_toArray, List.getElem_cons_succ, List.getElem_cons_zero, List.setIfInBounds_toArray, List.set_cons_zero, List.set_cons_succ]
  refine wpAnyH_take (i := 7) (v := ?_) rfl (by kernel_rfl) (by kernel_rfl) (by kernel_rfl) (fun _ _ _ h => h) (Or.inl ⟨by rfl, ?_⟩) (by assumption) ?_
  rotate_left
  · (intro w hSw; (try dsimp only at hSw); go_simp; try with_reducible rfl)
  simp only [Act.put, List.getElem_toArray, List.getElem_cons_succ, List.getElem_cons_zero, List.setIfInBounds_toArray, List.set_cons_zero, List.set_cons_succ]
  refine wpAnyH_take (i := 9) (v := ?_) rfl (by kernel_rfl) (by kernel_rfl) (by kernel_rfl) (fun _ _ _ h => h) (Or.inl ⟨by rfl, ?_⟩) (by assumption) ?_
  rotate_left
  · (intro w hSw; (try dsimp only at hSw); go_simp; try with_reducible rfl)
  simp only [Act.put, List.getElem_toArray, List.getElem_cons_succ, List.getElem_cons_zero, List.setIfInBounds_toArray, List.set_cons_zero, List.set_cons_succ]
  refine wpAnyH_ready (rs := [8]) (by kernel_rfl) (by simp) ?_
  refine AllReadyH.cons (o := _) rfl (fun K hK => ?_) AllReadyH.nil
  clear hHeld
  go_simp
  refine (vsame_calls 40 _ _ B A _ _ _ _ _ HGG.out.2 HGG.out.1 HBR.out HAR.out).mono ?_
  rintro e W28 ⟨rfl, hB⟩
  replace HA := Lib.hid (HA.out.below hB)
  replace HA2 := Lib.hid (HA2.out.below hB)
  replace HB := Lib.hid (HB.out.trans (hB.mono HB.out.size))
  replace HI := Lib.hid (HI.out.grow hB)
  replace HI2 := Lib.hid (HI2.out.grow hB)
  replace HT := Lib.hid (fun j hj => keep_below hB _ _ (HT.out j hj))
  replace HVA := Lib.hid (HVA.out.below hB)
  replace HVB := Lib.hid (HVB.out.below hB)
  replace HAR := Lib.hid (HAR.out.grow hB)
  replace HBR := Lib.hid (HBR.out.grow hB)
  replace HVX := Lib.hid (HVX.out.below hB)
  replace HVY := Lib.hid (HVY.out.below hB)
  replace HXP := Lib.hid (HXP.out.grow hB)
  replace HYP := Lib.hid (HYP.out.grow hB)
  rw [HPL.out.1, HPL.out.2, HSY.out]
  clear hB
  try go_simp
  refine hK.out _ _ ?_ (fun hHeld => ?_)
  · exact ⟨HA.out.2.1, HA.out.2.2.1, HA.out.2.2.2.1, HA2.out.2.1, HA2.out.2.2.1, HA2.out.2.2.2.1, HVA.out.2.1, HVA.out.2.2.1, HVB.out.2.1, HVB.out.2.2.1, HVX.out.2.1, HVX.out.2.2.1, HVX.out.2.2.2.1, HVY.out.2.1, HVY.out.2.2.1, HVY.out.2.2.2.1⟩
  clear hK K
  refine wpAnyH_take (i := 10) (v := ?_) rfl (by kernel_rfl) (by kernel_rfl) (by kernel_rfl) (fun _ _ _ h => h) (Or.inl ⟨by rfl, ?_⟩) (by assumption) ?_
  rotate_left
  · (intro w hSw; (try dsimp only at hSw); go_simp; try with_reducible rfl)
  simp only [Act.put, List.getElem_toArray, List.getElem_cons_succ, List.getElem_cons_zero, List.setIfInBounds_toArray, List.set_cons_zero, List.set_cons_succ]
  refine wpAnyH_take (i := 11) (v := ?_) rfl (by kernel_rfl) (by kernel_rfl) (by kernel_rfl) (fun _ _ _ h => h) (Or.inl ⟨by rfl, ?_⟩) (by assumption) ?_
  rotate_left
  · (intro w hSw; (try dsimp only at hSw); go_simp; try with_reducible rfl)
  simp only [Act.put, List.getElem_toArray, List.getElem_cons_succ, List.getElem_cons_zero, List.setIfInBounds_toArray, List.set_cons_zero, List.set_cons_succ]
  refine wpAnyH_take (i := 12) (v := ?_) rfl (by kernel_rfl) (by kernel_rfl) (by kernel_rfl) (fun _ _ _ h => h) (Or.inl ⟨by rfl, ?_⟩) (by assumption) ?_
  rotate_left
  · (intro w hSw; (try dsimp only at hSw); go_simp; try with_reducible rfl)
  simp only [Act.put, List.getElem_toArray, List.getElem_cons_succ, List.getElem_cons_zero, List.setIfInBounds_toArray, List.set_cons_zero, List.set_cons_succ]
  refine wpAnyH_take (i := 13) (v := ?_) rfl (by kernel_rfl) (by kernel_rfl) (by kernel_rfl) (fun _ _ _ h => h) (Or.inl ⟨by rfl, ?_⟩) (by assumption) ?_
  rotate_left
  · (intro w hSw; (try dsimp only at hSw); go_simp; try with_reducible rfl)
  simp only [Act.put, List.getElem_toArray, List.getElem_cons_succ, List.getElem_cons_zero, List.setIfInBounds_toArray, List.set_cons_zero, List.set_cons_succ]
  refine wpAnyH_take (i := 14) (v := ?_) rfl (by kernel_rfl) (by kernel_rfl) (by kernel_rfl) (fun _ _ _ h => h) (Or.inl ⟨by rfl, ?_⟩) (by assumption) ?_
  rotate_left
  · (intro w hSw; (try dsimp only at hSw); go_simp; try with_reducible rfl)
  simp only [Act.put, List.getElem_toArray, List.getElem_cons_succ, List.getElem_cons_zero, List.setIfInBounds_toArray, List.set_cons_zero, List.set_cons_succ]
  refine wpAnyH_ready (rs := [15]) (by kernel_rfl) (by simp) ?_
  refine AllReadyH.cons (o := _) rfl (fun K hK => ?_) AllReadyH.nil
  clear hHeld
  go_simp
  refine (vsame_calls 40 _ _ A A _ _ _ _ _ HGG.out.1 HGG.out.1 HAR.out HAR.out).mono ?_
  rintro e W29 ⟨rfl, hB⟩
  replace HA := Lib.hid (HA.out.below hB)
  replace HA2 := Lib.hid (HA2.out.below hB)
  replace HB := Lib.hid (HB.out.trans (hB.mono HB.out.size))
  replace HI := Lib.hid (HI.out.grow hB)
  replace HI2 := Lib.hid (HI2.out.grow hB)
  replace HT := Lib.hid (fun j hj => keep_below hB _ _ (HT.out j hj))
  replace HVA := Lib.hid (HVA.out.below hB)
  replace HVB := Lib.hid (HVB.out.below hB)
  replace HAR := Lib.hid (HAR.out.grow hB)
  replace HBR := Lib.hid (HBR.out.grow hB)
  replace HVX := Lib.hid (HVX.out.below hB)
  replace HVY := Lib.hid (HVY.out.below hB)
  replace HXP := Lib.hid (HXP.out.grow hB)
  replace HYP := Lib.hid (HYP.out.grow hB)
  rw [pq_yes rfl]
  clear hB
  try go_simp
  refine hK.out _ _ ?_ (fun hHeld => ?_)
  · exact ⟨HA.out.2.1, HA.out.2.2.1, HA.out.2.2.2.1, HA2.out.2.1, HA2.out.2.2.1, HA2.out.2.2.2.1, HVA.out.2.1, HVA.out.2.2.1, HVB.out.2.1, HVB.out.2.2.1, HVX.out.2.1, HVX.out.2.2.1, HVX.out.2.2.2.1, HVY.out.2.1, HVY.out.2.2.1, HVY.out.2.2.2.1⟩
  clear hK K
  refine wpAnyH_take (i := 16) (v := ?_) rfl (by kernel_rfl) (by kernel_rfl) (by kernel_rfl) (fun _ _ _ h => h) (Or.inl ⟨by rfl, ?_⟩) (by assumption) ?_
  rotate_left
  · (intro w hSw; (try dsimp only at hSw); go_simp; try with_reducible rfl)
  simp only [Act.put, List.getElem_toArray, List.getElem_cons_succ, List.getElem_cons_zero, List.setIfInBounds_toArray, List.set_cons_zero, List.set_cons_succ]
  refine wpAnyH_take (i := 17) (v := ?_) rfl (by kernel_rfl) (by kernel_rfl) (by kernel_rfl) (fun _ _ _ h => h) (Or.inl ⟨by rfl, ?_⟩) (by assumption) ?_
  rotate_left
  · (intro w hSw; (try dsimp only at hSw); go_simp; try with_reducible rfl)
  simp only [Act.put, List.getElem_toArray, List.getElem_cons_succ, List.getElem_cons_zero, List.setIfInBounds_toArray, List.set_cons_zero, List.set_cons_succ]
  refine wpAnyH_take (i := 18) (v := ?_) rfl (by kernel_rfl) (by kernel_rfl) (by kernel_rfl) (fun _ _ _ h => h) (Or.inl ⟨by rfl, ?_⟩) (by assumption) ?_
  rotate_left
  · (intro w hSw; (try dsimp only at hSw); go_simp; try with_reducible rfl)
  simp only [Act.put, List.getElem_toArray, List.getElem_cons_succ, List.getElem_cons_zero, List.setIfInBounds_toArray, List.set_cons_zero, List.set_cons_succ]
  refine wpAnyH_take (i := 19) (v := ?_) rfl (by kernel_rfl) (by kernel_rfl) (by kernel_rfl) (fun _ _ _ h => h) (Or.inl ⟨by rfl, ?_⟩) (by assumption) ?_
  rotate_left
  · (intro w hSw; (try dsimp only at hSw); go_simp; try with_reducible rfl)
  simp only [Act.put, List.getElem_toArray, List.getElem_cons_succ, List.getElem_cons_zero, List.setIfInBounds_toArray, List.set_cons_zero, List.set_cons_succ]
  refine wpAnyH_take (i := 20) (v := ?_) rfl (by kernel_rfl) (by kernel_rfl) (by kernel_rfl) (fun _ _ _ h => h) (Or.inl ⟨by rfl, ?_⟩) (by assumption) ?_
  rotate_left
  · (intro w hSw; (try dsimp only at hSw); go_simp; try with_reducible rfl)
  simp only [Act.put, List.getElem_toArray, List.getElem_cons_succ, List.getElem_cons_zero, List.setIfInBounds_toArray, List.set_cons_zero, List.set_cons_succ]
  refine wpAnyH_take (i := 21) (v := ?_) rfl (by kernel_rfl) (by kernel_rfl) (by kernel_rfl) (fun _ _ _ h => h) (Or.inl ⟨by rfl, ?_⟩) (by assumption) ?_
  rotate_left
  · (intro w hSw; (try dsimp only at hSw); go_simp; try with_reducible rfl)
  simp only [Act.put, List.getElem_toArray, List.getElem_cons_succ, List.getElem_cons_zero, List.setIfInBounds_toArray, List.set_cons_zero, List.set_cons_succ]
  refine wpAnyH_take (i := 22) (v := ?_) rfl (by kernel_rfl) (by kernel_rfl) (by kernel_rfl) (fun _ _ _ h => h) (Or.inl ⟨by rfl, ?_⟩) (by assumption) ?_
  rotate_left
  · (intro w hSw; (try dsimp only at hSw); go_simp; try with_reducible rfl)
  simp only [Act.put, List.getElem_toArray, List.getElem_cons_succ, List.getElem_cons_zero, List.setIfInBounds_toArray, List.set_cons_zero, List.set_cons_succ]
  refine wpAnyH_take (i := 24) (v := ?_) rfl (by kernel_rfl) (by kernel_rfl) (by kernel_rfl) (fun _ _ _ h => h) (Or.inl ⟨by rfl, ?_⟩) (by assumption) ?_
  rotate_left
  · (intro w hSw; (try dsimp only at hSw); go_simp; try with_reducible rfl)
  simp only [Act.put, List.getElem_toArray, List.getElem_cons_succ, List.getElem_cons_zero, List.setIfInBounds_toArray, List.set_cons_zero, List.set_cons_succ]
  refine wpAnyH_take (i := 25) (v := ?_) rfl (by kernel_rfl) (by kernel_rfl) (by kernel_rfl) (fun _ _ _ h => h) (Or.inl ⟨by rfl, ?_⟩) (by assumption) ?_
  rotate_left
  · (intro w hSw; (try dsimp only at hSw); go_simp; try with_reducible rfl)
  simp only [Act.put, List.getElem_toArray, List.getElem_cons_succ, List.getElem_cons_zero, List.setIfInBounds_toArray, List.set_cons_zero, List.set_cons_succ]
  refine wpAnyH_ready (rs := [23]) (by kernel_rfl) (by simp) ?_
  refine AllReadyH.cons (o := _) rfl (fun K hK => ?_) AllReadyH.nil
  clear hHeld
  go_simp
  refine (kind_calls _ _ _ HAR.out.2).mono ?_
  rintro e W30 ⟨rfl, hB⟩
  replace HA := Lib.hid (HA.out.below hB)
  replace HA2 := Lib.hid (HA2.out.below hB)
  replace HB := Lib.hid (HB.out.trans (hB.mono HB.out.size))
  replace HI := Lib.hid (HI.out.grow hB)
  replace HI2 := Lib.hid (HI2.out.grow hB)
  replace HT := Lib.hid (fun j hj => keep_below hB _ _ (HT.out j hj))
  replace HVA := Lib.hid (HVA.out.below hB)
  replace HVB := Lib.hid (HVB.out.below hB)
  replace HAR := Lib.hid (HAR.out.grow hB)
  replace HBR := Lib.hid (HBR.out.grow hB)
  replace HVX := Lib.hid (HVX.out.below hB)
  replace HVY := Lib.hid (HVY.out.below hB)
  replace HXP := Lib.hid (HXP.out.grow hB)
  replace HYP := Lib.hid (HYP.out.grow hB)
  rw [HKE.out]
  clear hB
  try go_simp
  refine hK.out _ _ ?_ (fun hHeld => ?_)
  · exact ⟨HA.out.2.1, HA.out.2.2.1, HA.out.2.2.2.1, HA2.out.2.1, HA2.out.2.2.1, HA2.out.2.2.2.1, HVA.out.2.1, HVA.out.2.2.1, HVB.out.2.1, HVB.out.2.2.1, HVX.out.2.1, HVX.out.2.2.1, HVX.out.2.2.2.1, HVY.out.2.1, HVY.out.2.2.1, HVY.out.2.2.2.1⟩
  clear hK K
  refine wpAnyH_ready (rs := [26]) (by kernel_rfl) (by simp) ?_
  refine AllReadyH.cons (o := _) rfl (fun K hK => ?_) AllReadyH.nil
  clear hHeld
  go_simp
  refine (kind_calls _ _ _ HBR.out.2).mono ?_
  rintro e W31 ⟨rfl, hB⟩
  replace HA := Lib.hid (HA.out.below hB)
  replace HA2 := Lib.hid (HA2.out.below hB)
  replace HB := Lib.hid (HB.out.trans (hB.mono HB.out.size))
  replace HI := Lib.hid (HI.out.grow hB)
  replace HI2 := Lib.hid (HI2.out.grow hB)
  replace HT := Lib.hid (fun j hj => keep_below hB _ _ (HT.out j hj))
  replace HVA := Lib.hid (HVA.out.below hB)
  replace HVB := Lib.hid (HVB.out.below hB)
  replace HAR := Lib.hid (HAR.out.grow hB)
  replace HBR := Lib.hid (HBR.out.grow hB)
  replace HVX := Lib.hid (HVX.out.below hB)
  replace HVY := Lib.hid (HVY.out.below hB)
  replace HXP := Lib.hid (HXP.out.grow hB)
  replace HYP := Lib.hid (HYP.out.grow hB)
  have hkk : (B.2.kind != B.2.kind) = false := by simp
  clear hB
  try go_simp
  refine hK.out _ _ ?_ (fun hHeld => ?_)
  · exact ⟨HA.out.2.1, HA.out.2.2.1, HA.out.2.2.2.1, HA2.out.2.1, HA2.out.2.2.1, HA2.out.2.2.2.1, HVA.out.2.1, HVA.out.2.2.1, HVB.out.2.1, HVB.out.2.2.1, HVX.out.2.1, HVX.out.2.2.1, HVX.out.2.2.2.1, HVY.out.2.1, HVY.out.2.2.1, HVY.out.2.2.2.1⟩
  clear hK K
  refine wpAnyH_take (i := 27) (v := ?_) rfl (by kernel_rfl) (by kernel_rfl) (by kernel_rfl) (fun _ _ _ h => h) (Or.inl ⟨by rfl, ?_⟩) (by assumption) ?_
  rotate_left
  · (intro w hSw; (try dsimp only at hSw); go_simp; try with_reducible rfl)
  simp only [Act.put, List.getElem_toArray, List.getElem_cons_succ, List.getElem_cons_zero, List.setIfInBounds_toArray, List.set_cons_zero, List.set_cons_succ]
  refine wpAnyH_take (i := 28) (v := ?_) rfl (by kernel_rfl) (by kernel_rfl) (by kernel_rfl) (fun _ _ _ h => h) (Or.inl ⟨by rfl, ?_⟩) (by assumption) ?_
  rotate_left
  · (intro w hSw; (try dsimp only at hSw); go_simp; try with_reducible rfl)
  simp only [Act.put, List.getElem_toArray, List.getElem_cons_succ, List.getElem_cons_zero, List.setIfInBounds_toArray, List.set_cons_zero, List.set_cons_succ]
  refine wpAnyH_take (i := 29) (v := ?_) rfl (by kernel_rfl) (by kernel_rfl) (by kernel_rfl) (fun _ _ _ h => h) (Or.inl ⟨by rfl, ?_⟩) (by assumption) ?_
  rotate_left
  · (intro w hSw; (try dsimp only at hSw); go_simp; try with_reducible rfl)
  simp only [Act.put, List.getElem_toArray, List.getElem_cons_succ, List.getElem_cons_zero, List.setIfInBounds_toArray, List.set_cons_zero, List.set_cons_succ]
  refine wpAnyH_done (by kernel_rfl) ?_ _
  clear hHeld
  clear hkk
  obtain ⟨w5, hw5⟩ : ∃ w5, w5 = W31 := ⟨_, rfl⟩
  rw [← hw5]
  rw [← hw5] at HA HA2 HB HI HI2 HT HVA HVB HAR HBR HVX HVY HXP HYP
  clear hw5
  have hxl : X.l.length ≤ 1048576 := by rw [HXE.out.1]; show (p.l.map (tidyI (tidyP 39))).length ≤ _; rw [List.length_map]; exact (prodR_len (chk_well.1 (show chk (39 + 1) p = 0 from HCP.out)).2.2.1).2
  have hyl : Y.l.length ≤ 1048576 := by rw [HXE.out.2]; show (q.l.map (tidyI (tidyP 39))).length ≤ _; rw [List.length_map]; exact (prodR_len (chk_well.1 (show chk (39 + 1) q = 0 from HCQ.out)).2.2.1).2
  have HXL := Lib.hid (show X.l = (List.range A.2.len).map (itA (plA 39) A.2) by rw [← HPL.out.1]; rfl)
  have HYL := Lib.hid (show Y.l = (List.range B.2.len).map (itA (plA 39) B.2) by rw [← HPL.out.2]; rfl)
  have cHA0 := HA.out.2.1
  have cHA1 := HA.out.2.2.1
  have cHA2 := HA.out.2.2.2.1
  have cHA20 := HA2.out.2.1
  have cHA21 := HA2.out.2.2.1
  have cHA22 := HA2.out.2.2.2.1
  have cHVA0 := HVA.out.2.1
  have cHVA1 := HVA.out.2.2.1
  have cHVB0 := HVB.out.2.1
  have cHVB1 := HVB.out.2.2.1
  have cHVX0 := HVX.out.2.1
  have cHVX1 := HVX.out.2.2.1
  have cHVX2 := HVX.out.2.2.2.1
  have cHVY0 := HVY.out.2.1
  have cHVY1 := HVY.out.2.2.1
  have cHVY2 := HVY.out.2.2.2.1
  go_wp2_with fail
  clear cHA0 cHA1 cHA2 cHA20 cHA21 cHA22 cHVA0 cHVA1 cHVB0 cHVB1 cHVX0 cHVX1 cHVX2 cHVY0 cHVY1 cHVY2
  go_loopw [10] (fun i wr => ∃ k : Nat, k ≤ X.l.length ∧ i = .int .i64 k ∧ Below w5.heap.size w5 wr) (fun i _ => X.l.length - (intOf i).toNat)
  case atStart => exact ⟨0, by omega, rfl, Below.refl _ _⟩
  case round =>
    obtain ⟨k, hk, rfl, hB⟩ := hrel
    have HBR5 := Lib.hid hB
    replace HA := Lib.hid (HA.out.below hB)
    replace HA2 := Lib.hid (HA2.out.below hB)
    replace HB := Lib.hid (HB.out.trans (hB.mono HB.out.size))
    replace HI := Lib.hid (HI.out.grow hB)
    replace HI2 := Lib.hid (HI2.out.grow hB)
    replace HT := Lib.hid (fun j hj => keep_below hB _ _ (HT.out j hj))
    replace HVA := Lib.hid (HVA.out.below hB)
    replace HVB := Lib.hid (HVB.out.below hB)
    replace HAR := Lib.hid (HAR.out.grow hB)
    replace HBR := Lib.hid (HBR.out.grow hB)
    replace HVX := Lib.hid (HVX.out.below hB)
    replace HVY := Lib.hid (HVY.out.below hB)
    replace HXP := Lib.hid (HXP.out.grow hB)
    replace HYP := Lib.hid (HYP.out.grow hB)
    clear hB
    by_cases hlt : k < X.l.length
    · by_cases hlt2 : k < Y.l.length
      · have hx := List.getElem?_eq_getElem hlt
        have hy := List.getElem?_eq_getElem hlt2
        obtain ⟨x, hxx⟩ : ∃ x, x = X.l[k] := ⟨_, rfl⟩
        obtain ⟨y, hyy⟩ : ∃ y, y = Y.l[k] := ⟨_, rfl⟩
        rw [← hxx] at hx
        rw [← hyy] at hy
        have HKA := Lib.hid (show k < A.2.len by have h := hlt; rw [HXL.out] at h; simpa using h)
        have HKB := Lib.hid (show k < B.2.len by have h := hlt2; rw [HYL.out] at h; simpa using h)
        have HXI := Lib.hid (show itA (plA 39) A.2 k = x by rw [HXL.out] at hx; simpa [HKA.out] using hx)
        have HYI := Lib.hid (show itA (plA 39) B.2 k = y by rw [HYL.out] at hy; simpa [HKB.out] using hy)
        obtain ⟨eso, esc, eio, eic, eX, _, hXits⟩ := HXP.out.opened
        cases eX
        obtain ⟨fso, fsc, fio, fic, eY, _, hYits⟩ := HYP.out.opened
        cases eY
        obtain ⟨b1, f1, bo1, bc1, rfl, _, g0, g1, g2, g3, hBX⟩ := hXits.at hx
        obtain ⟨b2, f2, bo2, bc2, rfl, _, e0, e1, e2, e3, hBY⟩ := hYits.at hy
        have HCX := Lib.hid (And.intro g0 (And.intro g1 (And.intro g2 g3)))
        have HCY := Lib.hid (And.intro e0 (And.intro e1 (And.intro e2 e3)))
        have HBX := Lib.hid hBX
        have HBY := Lib.hid hBY
        have HNX := Lib.hid (HNI.out.1 x (List.mem_of_getElem? hx))
        have HNY := Lib.hid (HNI.out.2 y (List.mem_of_getElem? hy))
        obtain ⟨t, ht⟩ : ∃ t, iq x y = t := ⟨_, rfl⟩
        have HTT := Lib.hid ht
        clear hXits hYits hx hy ht hxx hyy g0 g1 g2 g3 e0 e1 e2 e3 hBX hBY
        have cHA0 := HA.out.2.1
        have cHA1 := HA.out.2.2.1
        have cHA2 := HA.out.2.2.2.1
        have cHA20 := HA2.out.2.1
        have cHA21 := HA2.out.2.2.1
        have cHA22 := HA2.out.2.2.2.1
        have cHVA0 := HVA.out.2.1
        have cHVA1 := HVA.out.2.2.1
        have cHVB0 := HVB.out.2.1
        have cHVB1 := HVB.out.2.2.1
        have cHVX0 := HVX.out.2.1
        have cHVX1 := HVX.out.2.2.1
        have cHVX2 := HVX.out.2.2.2.1
        have cHVY0 := HVY.out.2.1
        have cHVY1 := HVY.out.2.2.1
        have cHVY2 := HVY.out.2.2.2.1
        have cHCX0 := HCX.out.1
        have cHCX1 := HCX.out.2.1
        have cHCX2 := HCX.out.2.2.1
        have cHCX3 := HCX.out.2.2.2
        have cHCY0 := HCY.out.1
        have cHCY1 := HCY.out.2.1
        have cHCY2 := HCY.out.2.2.1
        have cHCY3 := HCY.out.2.2.2
        go_wp2_with fail
        clear cHA0 cHA1 cHA2 cHA20 cHA21 cHA22 cHVA0 cHVA1 cHVB0 cHVB1 cHVX0 cHVX1 cHVX2 cHVY0 cHVY1 cHVY2 cHCX0 cHCX1 cHCX2 cHCX3 cHCY0 cHCY1 cHCY2 cHCY3
        obtain ⟨W32, hWD⟩ : ∃ xw9, wr.drew = xw9 := ⟨_, rfl⟩
        have hB : Below wr.heap.size wr W32 := by rw [← hWD]; exact Below.drewN' (Below.refl _ _) 1
        replace HA := Lib.hid (HA.out.below hB)
        replace HA2 := Lib.hid (HA2.out.below hB)
        replace HB := Lib.hid (HB.out.trans (hB.mono HB.out.size))
        replace HI := Lib.hid (HI.out.grow hB)
        replace HI2 := Lib.hid (HI2.out.grow hB)
        replace HT := Lib.hid (fun j hj => keep_below hB _ _ (HT.out j hj))
        replace HVA := Lib.hid (HVA.out.below hB)
        replace HVB := Lib.hid (HVB.out.below hB)
        replace HAR := Lib.hid (HAR.out.grow hB)
        replace HBR := Lib.hid (HBR.out.grow hB)
        replace HVX := Lib.hid (HVX.out.below hB)
        replace HVY := Lib.hid (HVY.out.below hB)
        replace HXP := Lib.hid (HXP.out.grow hB)
        replace HYP := Lib.hid (HYP.out.grow hB)
        replace HCX := Lib.hid (And.intro (keep_below hB _ _ HCX.out.1) (And.intro (keep_below hB _ _ HCX.out.2.1) (And.intro (keep_below hB _ _ HCX.out.2.2.1) (keep_below hB _ _ HCX.out.2.2.2))))
        replace HCY := Lib.hid (And.intro (keep_below hB _ _ HCY.out.1) (And.intro (keep_below hB _ _ HCY.out.2.1) (And.intro (keep_below hB _ _ HCY.out.2.2.1) (keep_below hB _ _ HCY.out.2.2.2))))
        replace HBX := Lib.hid (HBX.out.grow hB)
        replace HBY := Lib.hid (HBY.out.grow hB)
        replace HBR5 := Lib.hid (HBR5.out.trans (hB.mono HBR5.out.size))
        clear hB
        refine wp_region_held_drew (S := fun w' => w'.cell? ⟨w.heap.size, 0, none⟩ = some (.slice so p.s.length sc) ∧ w'.cell? ⟨w.heap.size, 1, none⟩ = some (.slice io p.l.length ic) ∧ w'.cell? ⟨w.heap.size, 2, none⟩ = some (.int .i64 p.f) ∧ w'.cell? ⟨w.heap.size + 1, 0, none⟩ = some (.slice so2 q.s.length sc2) ∧ w'.cell? ⟨w.heap.size + 1, 1, none⟩ = some (.slice io2 q.l.length ic2) ∧ w'.cell? ⟨w.heap.size + 1, 2, none⟩ = some (.int .i64 q.f) ∧ w'.cell? ⟨ba, 0, none⟩ = some (.slice soA A.1.length scA) ∧ w'.cell? ⟨ba, 1, none⟩ = some (uA) ∧ w'.cell? ⟨bb, 0, none⟩ = some (.slice soB B.1.length scB) ∧ w'.cell? ⟨bb, 1, none⟩ = some (uB) ∧ w'.cell? ⟨bx, 0, none⟩ = some (.slice xso X.s.length xsc) ∧ w'.cell? ⟨bx, 1, none⟩ = some (.slice (some ⟨b1, f1, none⟩) X.l.length xic) ∧ w'.cell? ⟨bx, 2, none⟩ = some (.int .i64 X.f) ∧ w'.cell? ⟨by', 0, none⟩ = some (.slice yso Y.s.length ysc) ∧ w'.cell? ⟨by', 1, none⟩ = some (.slice (some ⟨b2, f2, none⟩) Y.l.length yic) ∧ w'.cell? ⟨by', 2, none⟩ = some (.int .i64 Y.f) ∧ w'.cell? ⟨b1, f1 + k * 4, none⟩ = some (.int .i64 x.1) ∧ w'.cell? ⟨b1, f1 + k * 4 + 1, none⟩ = some (.float .f64 x.2.1) ∧ w'.cell? ⟨b1, f1 + k * 4 + 2, none⟩ = some (.int .i32 x.2.2.1) ∧ w'.cell? ⟨b1, f1 + k * 4 + 3, none⟩ = some (.slice bo1 x.2.2.2.length bc1) ∧ w'.cell? ⟨b2, f2 + k * 4, none⟩ = some (.int .i64 y.1) ∧ w'.cell? ⟨b2, f2 + k * 4 + 1, none⟩ = some (.float .f64 y.2.1) ∧ w'.cell? ⟨b2, f2 + k * 4 + 2, none⟩ = some (.int .i32 y.2.2.1) ∧ w'.cell? ⟨b2, f2 + k * 4 + 3, none⟩ = some (.slice bo2 y.2.2.2.length bc2)) (by kernel_rfl) (by rw [hWD]; exact ⟨HA.out.2.1, HA.out.2.2.1, HA.out.2.2.2.1, HA2.out.2.1, HA2.out.2.2.1, HA2.out.2.2.2.1, HVA.out.2.1, HVA.out.2.2.1, HVB.out.2.1, HVB.out.2.2.1, HVX.out.2.1, HVX.out.2.2.1, HVX.out.2.2.2.1, HVY.out.2.1, HVY.out.2.2.1, HVY.out.2.2.2.1, HCX.out.1, HCX.out.2.1, HCX.out.2.2.1, HCX.out.2.2.2, HCY.out.1, HCY.out.2.1, HCY.out.2.2.1, HCY.out.2.2.2⟩) (fun hHeld => ?_)
        rw [hWD] at hHeld ⊢
        clear hWD
        refine wpAnyH_take (i := 0) (v := ?_) rfl (by kernel_rfl) (by kernel_rfl) (by kernel_rfl) (fun _ _ _ h => h) (Or.inl ⟨by rfl, ?_⟩) (by assumption) ?_
        rotate_left
        · (intro w hSw; (try dsimp only at hSw); go_simp; try with_reducible rfl)
        simp only [Act.put, List.getElem_toArray, List.getElem_cons_zero, List.setIfInBounds_toArray, List.set_cons_zero, List.set_cons_succ]
        refine wpAnyH_take (i := 1) (v := ?_) rfl (by kernel_rfl) (by kernel_rfl) (by kernel_rfl) (fun _ _ _ h => h) (Or.inl ⟨by rfl, ?_⟩) (by assumption) ?_
        rotate_left
        · (intro w hSw; (try dsimp only at hSw); go_simp; try with_reducible rfl)
        simp only [Act.put, List.getElem_toArray, List.getElem_cons_succ, List.getElem_cons_zero, List.setIfInBounds_toArray, List.set_cons_zero, List.set_cons_succ]
        refine wpAnyH_take (i := 2) (v := ?_) rfl (by kernel_rfl) (by kernel_rfl) (by kernel_rfl) (fun _ _ _ h => h) (Or.inl ⟨by rfl, ?_⟩) (by assumption) ?_
        rotate_left
        · (intro w hSw; (try dsimp only at hSw); go_simp; try with_reducible rfl)
        simp only [Act.put, List.getElem_toArray, List.getElem_cons_succ, List.getElem_cons_zero, List.setIfInBounds_toArray, List.set_cons_zero, List.set_cons_succ]
        refine wpAnyH_take (i := 3) (v := ?_) rfl (by kernel_rfl) (by kernel_rfl) (by kernel_rfl) (fun _ _ _ h => h) (Or.inl ⟨by rfl, ?_⟩) (by assumption) ?_
        rotate_left
        · (intro w hSw; (try dsimp only at hSw); go_simp; try with_reducible rfl)
        simp only [Act.put, List.getElem_toArray, List.getElem_cons_succ, List.getElem_cons_zero, List.setIfInBounds_toArray, List.set_cons_zero, List.set_cons_succ]
        refine wpAnyH_take (i := 4) (v := ?_) rfl (by kernel_rfl) (by kernel_rfl) (by kernel_rfl) (fun _ _ _ h => h) (Or.inl ⟨by rfl, ?_⟩) (by assumption) ?_
        rotate_left
        · (intro w hSw; (try dsimp only at hSw); go_simp; try with_reducible rfl)
        simp only [Act.put, List.getElem_toArray, List.getElem_cons_succ, List.getElem_cons_zero, List.setIfInBounds_toArray, List.set_cons_zero, List.set_cons_succ]
        refine wpAnyH_take (i := 5) (v := ?_) rfl (by kernel_rfl) (by kernel_rfl) (by kernel_rfl) (fun _ _ _ h => h) (Or.inl ⟨by rfl, ?_⟩) (by assumption) ?_
        rotate_left
        · (intro w hSw; (try dsimp only at hSw); go_simp; try with_reducible rfl)
        simp only [Act.put, List.getElem_toArray, List.getElem_cons_succ, List.getElem_cons_zero, List.setIfInBounds_toArray, List.set_cons_zero, List.set_cons_succ]
        refine wpAnyH_take (i := 7) (v := ?_) rfl (by kernel_rfl) (by kernel_rfl) (by kernel_rfl) (fun _ _ _ h => h) (Or.inl ⟨by rfl, ?_⟩) (by assumption) ?_
        rotate_left
        · (intro w hSw; (try dsimp only at hSw); go_simp; try with_reducible rfl)
        simp only [Act.put, List.getElem_toArray, List.getElem_cons_succ, List.getElem_cons_zero, List.setIfInBounds_toArray, List.set_cons_zero, List.set_cons_succ]
        refine wpAnyH_take (i := 8) (v := ?_) rfl (by kernel_rfl) (by kernel_rfl) (by kernel_rfl) (fun _ _ _ h => h) (Or.inl ⟨by rfl, ?_⟩) (by assumption) ?_
        rotate_left
        · (intro w hSw; (try dsimp only at hSw); go_simp; try with_reducible rfl)
        simp only [Act.put, List.getElem_toArray, List.getElem_cons_succ, List.getElem_cons_zero, List.setIfInBounds_toArray, List.set_cons_zero, List.set_cons_succ]
        refine wpAnyH_take (i := 9) (v := ?_) rfl (by kernel_rfl) (by kernel_rfl) (by kernel_rfl) (fun _ _ _ h => h) (Or.inl ⟨by rfl, ?_⟩) (by assumption) ?_
        rotate_left
        · (intro w hSw; (try dsimp only at hSw); go_simp; try with_reducible rfl)
        simp only [Act.put, List.getElem_toArray, List.getElem_cons_succ, List.getElem_cons_zero, List.setIfInBounds_toArray, List.set_cons_zero, List.set_cons_succ]
        refine wpAnyH_take (i := 10) (v := ?_) rfl (by kernel_rfl) (by kernel_rfl) (by kernel_rfl) (fun _ _ _ h => h) (Or.inl ⟨by rfl, ?_⟩) (by assumption) ?_
        rotate_left
        · (intro w hSw; (try dsimp only at hSw); go_simp; try with_reducible rfl)
        simp only [Act.put, List.getElem_toArray, List.getElem_cons_succ, List.getElem_cons_zero, List.setIfInBounds_toArray, List.set_cons_zero, List.set_cons_succ]
        refine wpAnyH_take (i := 11) (v := ?_) rfl (by kernel_rfl) (by kernel_rfl) (by kernel_rfl) (fun _ _ _ h => h) (Or.inl ⟨by rfl, ?_⟩) (by assumption) ?_
        rotate_left
        · (intro w hSw; (try dsimp only at hSw); go_simp; try with_reducible rfl)
        simp only [Act.put, List.getElem_toArray, List.getElem_cons_succ, List.getElem_cons_zero, List.setIfInBounds_toArray, List.set_cons_zero, List.set_cons_succ]
        refine wpAnyH_take (i := 12) (v := ?_) rfl (by kernel_rfl) (by kernel_rfl) (by kernel_rfl) (fun _ _ _ h => h) (Or.inl ⟨by rfl, ?_⟩) (by assumption) ?_
        rotate_left
        · (intro w hSw; (try dsimp only at hSw); go_simp; try with_reducible rfl)
        simp only [Act.put, List.getElem_toArray, List.getElem_cons_succ, List.getElem_cons_zero, List.setIfInBounds_toArray, List.set_cons_zero, List.set_cons_succ]
        refine wpAnyH_take (i := 13) (v := ?_) rfl (by kernel_rfl) (by kernel_rfl) (by kernel_rfl) (fun _ _ _ h => h) (Or.inl ⟨by rfl, ?_⟩) (by assumption) ?_
        rotate_left
        · (intro w hSw; (try dsimp only at hSw); go_simp; try with_reducible rfl)
        simp only [Act.put, List.getElem_toArray, List.getElem_cons_succ, List.getElem_cons_zero, List.setIfInBounds_toArray, List.set_cons_zero, List.set_cons_succ]
        refine wpAnyH_take (i := 14) (v := ?_) rfl (by kernel_rfl) (by kernel_rfl) (by kernel_rfl) (fun _ _ _ h => h) (Or.inl ⟨by rfl, ?_⟩) (by assumption) ?_
        rotate_left
        · (intro w hSw; (try dsimp only at hSw); go_simp; try with_reducible rfl)
        simp only [Act.put, List.getElem_toArray, List.getElem_cons_succ, List.getElem_cons_zero, List.setIfInBounds_toArray, List.set_cons_zero, List.set_cons_succ]
        refine wpAnyH_take (i := 15) (v := ?_) rfl (by kernel_rfl) (by kernel_rfl) (by kernel_rfl) (fun _ _ _ h => h) (Or.inl ⟨by rfl, ?_⟩) (by assumption) ?_
        rotate_left
        · (intro w hSw; (try dsimp only at hSw); go_simp; try with_reducible rfl)
        simp only [Act.put, List.getElem_toArray, List.getElem_cons_succ, List.getElem_cons_zero, List.setIfInBounds_toArray, List.set_cons_zero, List.set_cons_succ]
        refine wpAnyH_take (i := 16) (v := ?_) rfl (by kernel_rfl) (by kernel_rfl) (by kernel_rfl) (fun _ _ _ h => h) (Or.inl ⟨by rfl, ?_⟩) (by assumption) ?_
        rotate_left
        · (intro w hSw; (try dsimp only at hSw); go_simp; try with_reducible rfl)
        simp only [Act.put, List.getElem_toArray, List.getElem_cons_succ, List.getElem_cons_zero, List.setIfInBounds_toArray, List.set_cons_zero, List.set_cons_succ]
        refine wpAnyH_ready (rs := [6]) (by kernel_rfl) (by simp) ?_
        refine AllReadyH.cons (o := _) rfl (fun K hK => ?_) AllReadyH.nil
        clear hHeld
        go_simp
        refine (alike_calls 39 (vsame_calls 39) _ _ A.2 B.2 k k _ HGG.out.1.2.1 HGG.out.2.2.1 HGG.out.1.2.2.1 HGG.out.2.2.2.1 HGG.out.1.2.2.2.2 HGG.out.2.2.2.2.2 HKA.out HKB.out HAR.out.2 HBR.out.2).mono ?_
        rintro e W33 ⟨rfl, hB⟩
        replace HA := Lib.hid (HA.out.below hB)
        replace HA2 := Lib.hid (HA2.out.below hB)
        replace HB := Lib.hid (HB.out.trans (hB.mono HB.out.size))
        replace HI := Lib.hid (HI.out.grow hB)
        replace HI2 := Lib.hid (HI2.out.grow hB)
        replace HT := Lib.hid (fun j hj => keep_below hB _ _ (HT.out j hj))
        replace HVA := Lib.hid (HVA.out.below hB)
        replace HVB := Lib.hid (HVB.out.below hB)
        replace HAR := Lib.hid (HAR.out.grow hB)
        replace HBR := Lib.hid (HBR.out.grow hB)
        replace HVX := Lib.hid (HVX.out.below hB)
        replace HVY := Lib.hid (HVY.out.below hB)
        replace HXP := Lib.hid (HXP.out.grow hB)
        replace HYP := Lib.hid (HYP.out.grow hB)
        replace HCX := Lib.hid (And.intro (keep_below hB _ _ HCX.out.1) (And.intro (keep_below hB _ _ HCX.out.2.1) (And.intro (keep_below hB _ _ HCX.out.2.2.1) (keep_below hB _ _ HCX.out.2.2.2))))
        replace HCY := Lib.hid (And.intro (keep_below hB _ _ HCY.out.1) (And.intro (keep_below hB _ _ HCY.out.2.1) (And.intro (keep_below hB _ _ HCY.out.2.2.1) (keep_below hB _ _ HCY.out.2.2.2))))
        replace HBX := Lib.hid (HBX.out.grow hB)
        replace HBY := Lib.hid (HBY.out.grow hB)
        replace HBR5 := Lib.hid (HBR5.out.trans (hB.mono HBR5.out.size))
        rw [HXI.out, HYI.out, HTT.out]
        clear hB
        try go_simp
        refine hK.out _ _ ?_ (fun hHeld => ?_)
        · exact ⟨HA.out.2.1, HA.out.2.2.1, HA.out.2.2.2.1, HA2.out.2.1, HA2.out.2.2.1, HA2.out.2.2.2.1, HVA.out.2.1, HVA.out.2.2.1, HVB.out.2.1, HVB.out.2.2.1, HVX.out.2.1, HVX.out.2.2.1, HVX.out.2.2.2.1, HVY.out.2.1, HVY.out.2.2.1, HVY.out.2.2.2.1, HCX.out.1, HCX.out.2.1, HCX.out.2.2.1, HCX.out.2.2.2, HCY.out.1, HCY.out.2.1, HCY.out.2.2.1, HCY.out.2.2.2⟩
        clear hK K
        refine wpAnyH_ready (rs := [17]) (by kernel_rfl) (by simp) ?_
        refine AllReadyH.cons (o := _) rfl (fun K hK => ?_) AllReadyH.nil
        clear hHeld
        go_simp
        refine (pitem_calls 39 (psame_calls 39) _ _ x y _ _ _ _ 39 _ HNX.out.1 HNY.out.1 HNX.out.2 HNY.out.2 HBX.out HBY.out).mono ?_
        rintro e W34 ⟨rfl, hB⟩
        replace HA := Lib.hid (HA.out.below hB)
        replace HA2 := Lib.hid (HA2.out.below hB)
        replace HB := Lib.hid (HB.out.trans (hB.mono HB.out.size))
        replace HI := Lib.hid (HI.out.grow hB)
        replace HI2 := Lib.hid (HI2.out.grow hB)
        replace HT := Lib.hid (fun j hj => keep_below hB _ _ (HT.out j hj))
        replace HVA := Lib.hid (HVA.out.below hB)
        replace HVB := Lib.hid (HVB.out.below hB)
        replace HAR := Lib.hid (HAR.out.grow hB)
        replace HBR := Lib.hid (HBR.out.grow hB)
        replace HVX := Lib.hid (HVX.out.below hB)
        replace HVY := Lib.hid (HVY.out.below hB)
        replace HXP := Lib.hid (HXP.out.grow hB)
        replace HYP := Lib.hid (HYP.out.grow hB)
        replace HCX := Lib.hid (And.intro (keep_below hB _ _ HCX.out.1) (And.intro (keep_below hB _ _ HCX.out.2.1) (And.intro (keep_below hB _ _ HCX.out.2.2.1) (keep_below hB _ _ HCX.out.2.2.2))))
        replace HCY := Lib.hid (And.intro (keep_below hB _ _ HCY.out.1) (And.intro (keep_below hB _ _ HCY.out.2.1) (And.intro (keep_below hB _ _ HCY.out.2.2.1) (keep_below hB _ _ HCY.out.2.2.2))))
        replace HBX := Lib.hid (HBX.out.grow hB)
        replace HBY := Lib.hid (HBY.out.grow hB)
        replace HBR5 := Lib.hid (HBR5.out.trans (hB.mono HBR5.out.size))
        rw [HTT.out]
        have htt : (t != t) = false := by simp
        clear hB
        try go_simp
        refine hK.out _ _ ?_ (fun hHeld => ?_)
        · exact ⟨HA.out.2.1, HA.out.2.2.1, HA.out.2.2.2.1, HA2.out.2.1, HA2.out.2.2.1, HA2.out.2.2.2.1, HVA.out.2.1, HVA.out.2.2.1, HVB.out.2.1, HVB.out.2.2.1, HVX.out.2.1, HVX.out.2.2.1, HVX.out.2.2.2.1, HVY.out.2.1, HVY.out.2.2.1, HVY.out.2.2.2.1, HCX.out.1, HCX.out.2.1, HCX.out.2.2.1, HCX.out.2.2.2, HCY.out.1, HCY.out.2.1, HCY.out.2.2.1, HCY.out.2.2.2⟩
        clear hK K
        refine wpAnyH_take (i := 18) (v := ?_) rfl (by kernel_rfl) (by kernel_rfl) (by kernel_rfl) (fun _ _ _ h => h) (Or.inl ⟨by rfl, ?_⟩) (by assumption) ?_
        rotate_left
        · (intro w hSw; (try dsimp only at hSw); go_simp; try with_reducible rfl)
        simp only [Act.put, List.getElem_toArray, List.getElem_cons_succ, List.getElem_cons_zero, List.setIfInBounds_toArray, List.set_cons_zero, List.set_cons_succ]
        refine wpAnyH_done (by kernel_rfl) ?_ _
        clear hHeld
        go_wp2_with fail
        go_roundw
        case rel => exact ⟨k + 1, by omega, by go_num, HBR5.out⟩
        case measure => simp [intOf]; omega
      · have cHA0 := HA.out.2.1
        have cHA1 := HA.out.2.2.1
        have cHA2 := HA.out.2.2.2.1
        have cHA20 := HA2.out.2.1
        have cHA21 := HA2.out.2.2.1
        have cHA22 := HA2.out.2.2.2.1
        have cHVA0 := HVA.out.2.1
        have cHVA1 := HVA.out.2.2.1
        have cHVB0 := HVB.out.2.1
        have cHVB1 := HVB.out.2.2.1
        have cHVX0 := HVX.out.2.1
        have cHVX1 := HVX.out.2.2.1
        have cHVX2 := HVX.out.2.2.2.1
        have cHVY0 := HVY.out.2.1
        have cHVY1 := HVY.out.2.2.1
        have cHVY2 := HVY.out.2.2.2.1
        go_wp2_with fail
        refine (awake7_calls _ HT.out).mono ?_
        rintro e W32 ⟨rfl, hB⟩
        clear cHA0 cHA1 cHA2 cHA20 cHA21 cHA22 cHVA0 cHVA1 cHVB0 cHVB1 cHVX0 cHVX1 cHVX2 cHVY0 cHVY1 cHVY2
        replace HA := Lib.hid (HA.out.below hB)
        replace HA2 := Lib.hid (HA2.out.below hB)
        replace HB := Lib.hid (HB.out.trans (hB.mono HB.out.size))
        replace HI := Lib.hid (HI.out.grow hB)
        replace HI2 := Lib.hid (HI2.out.grow hB)
        replace HT := Lib.hid (fun j hj => keep_below hB _ _ (HT.out j hj))
        replace HVA := Lib.hid (HVA.out.below hB)
        replace HVB := Lib.hid (HVB.out.below hB)
        replace HAR := Lib.hid (HAR.out.grow hB)
        replace HBR := Lib.hid (HBR.out.grow hB)
        replace HVX := Lib.hid (HVX.out.below hB)
        replace HVY := Lib.hid (HVY.out.below hB)
        replace HXP := Lib.hid (HXP.out.grow hB)
        replace HYP := Lib.hid (HYP.out.grow hB)
        clear hB
        have cHA0 := HA.out.2.1
        have cHA1 := HA.out.2.2.1
        have cHA2 := HA.out.2.2.2.1
        have cHA20 := HA2.out.2.1
        have cHA21 := HA2.out.2.2.1
        have cHA22 := HA2.out.2.2.2.1
        have cHVA0 := HVA.out.2.1
        have cHVA1 := HVA.out.2.2.1
        have cHVB0 := HVB.out.2.1
        have cHVB1 := HVB.out.2.2.1
        have cHVX0 := HVX.out.2.1
        have cHVX1 := HVX.out.2.2.1
        have cHVX2 := HVX.out.2.2.2.1
        have cHVY0 := HVY.out.2.1
        have cHVY1 := HVY.out.2.2.1
        have cHVY2 := HVY.out.2.2.2.1
        go_wp2_with fail
        go_ret
        exact BoolIs.mk rfl HB.out
    · have cHA0 := HA.out.2.1
      have cHA1 := HA.out.2.2.1
      have cHA2 := HA.out.2.2.2.1
      have cHA20 := HA2.out.2.1
      have cHA21 := HA2.out.2.2.1
      have cHA22 := HA2.out.2.2.2.1
      have cHVA0 := HVA.out.2.1
      have cHVA1 := HVA.out.2.2.1
      have cHVB0 := HVB.out.2.1
      have cHVB1 := HVB.out.2.2.1
      have cHVX0 := HVX.out.2.1
      have cHVX1 := HVX.out.2.2.1
      have cHVX2 := HVX.out.2.2.2.1
      have cHVY0 := HVY.out.2.1
      have cHVY1 := HVY.out.2.2.1
      have cHVY2 := HVY.out.2.2.2.1
      go_wp2_with fail
      refine (awake7_calls _ HT.out).mono ?_
      rintro e W32 ⟨rfl, hB⟩
      clear cHA0 cHA1 cHA2 cHA20 cHA21 cHA22 cHVA0 cHVA1 cHVB0 cHVB1 cHVX0 cHVX1 cHVX2 cHVY0 cHVY1 cHVY2
      replace HA := Lib.hid (HA.out.below hB)
      replace HA2 := Lib.hid (HA2.out.below hB)
      replace HB := Lib.hid (HB.out.trans (hB.mono HB.out.size))
      replace HI := Lib.hid (HI.out.grow hB)
      replace HI2 := Lib.hid (HI2.out.grow hB)
      replace HT := Lib.hid (fun j hj => keep_below hB _ _ (HT.out j hj))
      replace HVA := Lib.hid (HVA.out.below hB)
      replace HVB := Lib.hid (HVB.out.below hB)
      replace HAR := Lib.hid (HAR.out.grow hB)
      replace HBR := Lib.hid (HBR.out.grow hB)
      replace HVX := Lib.hid (HVX.out.below hB)
      replace HVY := Lib.hid (HVY.out.below hB)
      replace HXP := Lib.hid (HXP.out.grow hB)
      replace HYP := Lib.hid (HYP.out.grow hB)
      clear hB
      have cHA0 := HA.out.2.1
      have cHA1 := HA.out.2.2.1
      have cHA2 := HA.out.2.2.2.1
      have cHA20 := HA2.out.2.1
      have cHA21 := HA2.out.2.2.1
      have cHA22 := HA2.out.2.2.2.1
      have cHVA0 := HVA.out.2.1
      have cHVA1 := HVA.out.2.2.1
      have cHVB0 := HVB.out.2.1
      have cHVB1 := HVB.out.2.2.1
      have cHVX0 := HVX.out.2.1
      have cHVX1 := HVX.out.2.2.1
      have cHVX2 := HVX.out.2.2.2.1
      have cHVY0 := HVY.out.2.1
      have cHVY1 := HVY.out.2.2.1
      have cHVY2 := HVY.out.2.2.2.1
      go_wp2_with fail
      go_ret
      exact BoolIs.mk rfl HB.out
end Go.Proofs.YtkgjemglmgdanaaGreatDoor

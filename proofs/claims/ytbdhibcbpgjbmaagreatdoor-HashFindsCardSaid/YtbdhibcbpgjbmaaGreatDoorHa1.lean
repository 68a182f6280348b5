/- Layer 19's law: HashFinds. -/
import Derived.Test.YtbdhibcbpgjbmaaGreatDoorMgHa2
namespace Go.Proofs.YtbdhibcbpgjbmaaGreatDoor
set_option maxRecDepth 100000
open Go.RowKit Fl
set_option linter.unusedVariables false

set_option maxHeartbeats 16000000 in
theorem hashFinds_walk (p q : PA) (u v : Value) (nd md : Nat) (w : World) (hl : lo nd p) (hp : IsP w (fun _ => True) u p) (hch : chO p) (hl2 : lo md q) (hq : IsP w (fun _ => True) v q) (hch2 : chO q) (hT : TabAt w) :
    Calls Tryz.prog 3 #[u, v] w (Yes19 w) := by
  have HP := Lib.hid hp
  have HQ := Lib.hid hq
  have HLO := Lib.hid hl
  have HLP := Lib.hid hl2
  have HCH := Lib.hid hch
  have HCH2 := Lib.hid hch2
  obtain ⟨so, sc, io, ic, rfl, hs, hit⟩ := hp.opened
  obtain ⟨qo, qc, jo, jc, rfl, hs2, hit2⟩ := hq.opened
  obtain ⟨W1, hW1⟩ : ∃ W1, W1 = (w.alloc (.cells #[.slice so p.s.length sc, .slice io p.l.length ic, .int .i64 p.f] 25)).alloc (.cells #[.slice qo q.s.length qc, .slice jo q.l.length jc, .int .i64 q.f] 25) := ⟨_, rfl⟩
  have HB := Lib.hid (show Below w.heap.size w W1 by rw [hW1]; exact (below_new _ _).alloc (by simp) _)
  have HA := Lib.hid (show At3 W1 w.heap.size (.slice so p.s.length sc) (.slice io p.l.length ic) (.int .i64 p.f) by rw [hW1]; exact (At3.new w _ _ _ _).below (below_new _ _))
  have HA2 := Lib.hid (show At3 W1 (w.heap.size + 1) (.slice qo q.s.length qc) (.slice jo q.l.length jc) (.int .i64 q.f) by rw [hW1]; have := At3.new (w.alloc (.cells #[.slice so p.s.length sc, .slice io p.l.length ic, .int .i64 p.f] 25)) (.slice qo q.s.length qc) (.slice jo q.l.length jc) (.int .i64 q.f) 25; simpa using this)
  have HI := Lib.hid (show IsP W1 (fun _ => True) _ p from HP.out.grow HB.out)
  have HI2 := Lib.hid (show IsP W1 (fun _ => True) _ q from HQ.out.grow HB.out)
  have HT := Lib.hid (show TabAt W1 from fun j hj => keep_below HB.out _ _ (hT j hj))
  obtain ⟨n, hn⟩ : ∃ n, p.l.length = n := ⟨_, rfl⟩
  obtain ⟨f, hf⟩ : ∃ f, p.f = f := ⟨_, rfl⟩
  obtain ⟨m, hm⟩ : ∃ m, q.l.length = m := ⟨_, rfl⟩
  obtain ⟨g, hg⟩ : ∃ g, q.f = g := ⟨_, rfl⟩
  have HN := Lib.hid hn
  have HF := Lib.hid hf
  have HM := Lib.hid hm
  have HG := Lib.hid hg
  have hfold := hW1.symm
  clear hs hit hs2 hit2 hp hq hl hl2 hW1 hT hch hch2
  rw [hn, hf] at HA HI hfold ⊢
  rw [hm, hg] at HA2 HI2 hfold ⊢
  clear hn hf hm hg HP HQ
  have cHA0 := HA.out.2.1
  have cHA1 := HA.out.2.2.1
  have cHA2 := HA.out.2.2.2.1
  have cHA20 := HA2.out.2.1
  have cHA21 := HA2.out.2.2.1
  have cHA22 := HA2.out.2.2.2.1
  go_enter Tryz.func3, Tryz.ntmps3
  go_wp2_with fail
  clear hfold
  refine (good19_calls _ p _ nd _ HLO.out HI.out).mono ?_
  rintro e W11 ⟨gg, rfl, hgg, hB⟩
  clear cHA0 cHA1 cHA2 cHA20 cHA21 cHA22
  replace HA := Lib.hid (HA.out.below hB)
  replace HA2 := Lib.hid (HA2.out.below hB)
  replace HB := Lib.hid (HB.out.trans (hB.mono HB.out.size))
  replace HI := Lib.hid (HI.out.grow hB)
  replace HI2 := Lib.hid (HI2.out.grow hB)
  replace HT := Lib.hid (fun j hj => keep_below hB _ _ (HT.out j hj))
  have HG1 := Lib.hid hgg
  clear hgg
  clear hB
  cases gg
  · go_wp2_with fail
    refine (awake19_calls _ HT.out).mono ?_
    rintro e W12 ⟨rfl, hB⟩
    replace HA := Lib.hid (HA.out.below hB)
    replace HA2 := Lib.hid (HA2.out.below hB)
    replace HB := Lib.hid (HB.out.trans (hB.mono HB.out.size))
    replace HI := Lib.hid (HI.out.grow hB)
    replace HI2 := Lib.hid (HI2.out.grow hB)
    replace HT := Lib.hid (fun j hj => keep_below hB _ _ (HT.out j hj))
    clear hB
    have cHA0 := HA.out.2.1
    have cHA1 := HA.out.2.2.1
    have cHA2 := HA.out.2.2.2.1
    have cHA20 := HA2.out.2.1
    have cHA21 := HA2.out.2.2.1
    have cHA22 := HA2.out.2.2.2.1
    go_wp2_with fail
    go_ret
    exact ⟨rfl, HB.out⟩
  · have HC1 := Lib.hid (HG1.out rfl)
    have cHA0 := HA.out.2.1
    have cHA1 := HA.out.2.2.1
    have cHA2 := HA.out.2.2.2.1
    have cHA20 := HA2.out.2.1
    have cHA21 := HA2.out.2.2.1
    have cHA22 := HA2.out.2.2.2.1
    go_wp2_with fail
    refine (good19_calls _ q _ md _ HLP.out HI2.out).mono ?_
    rintro e W12 ⟨gg, rfl, hgg, hB⟩
    clear cHA0 cHA1 cHA2 cHA20 cHA21 cHA22
    replace HA := Lib.hid (HA.out.below hB)
    replace HA2 := Lib.hid (HA2.out.below hB)
    replace HB := Lib.hid (HB.out.trans (hB.mono HB.out.size))
    replace HI := Lib.hid (HI.out.grow hB)
    replace HI2 := Lib.hid (HI2.out.grow hB)
    replace HT := Lib.hid (fun j hj => keep_below hB _ _ (HT.out j hj))
    have HG2 := Lib.hid hgg
    clear hgg
    clear hB
    cases gg
    · go_wp2_with fail
      refine (awake19_calls _ HT.out).mono ?_
      rintro e W13 ⟨rfl, hB⟩
      replace HA := Lib.hid (HA.out.below hB)
      replace HA2 := Lib.hid (HA2.out.below hB)
      replace HB := Lib.hid (HB.out.trans (hB.mono HB.out.size))
      replace HI := Lib.hid (HI.out.grow hB)
      replace HI2 := Lib.hid (HI2.out.grow hB)
      replace HT := Lib.hid (fun j hj => keep_below hB _ _ (HT.out j hj))
      clear hB
      have cHA0 := HA.out.2.1
      have cHA1 := HA.out.2.2.1
      have cHA2 := HA.out.2.2.2.1
      have cHA20 := HA2.out.2.1
      have cHA21 := HA2.out.2.2.1
      have cHA22 := HA2.out.2.2.2.1
      go_wp2_with fail
      go_ret
      exact ⟨rfl, HB.out⟩
    · have HC2 := Lib.hid (HG2.out rfl)
      have HN1 := Lib.hid (show n ≤ 200 by rw [← HN.out]; exact HC1.out.2)
      have HM1 := Lib.hid (show m ≤ 200 by rw [← HM.out]; exact HC2.out.2)
      obtain ⟨A, hA⟩ : ∃ A, (arrP 40 p).2 = A := ⟨_, rfl⟩
      obtain ⟨B, hB9⟩ : ∃ B, (arrP 40 q).2 = B := ⟨_, rfl⟩
      have HHA := Lib.hid (show Hold p A n f by rw [← hA, ← HN.out, ← HF.out]; exact hold_of HC1.out.1 HCH.out)
      have HHB := Lib.hid (show Hold q B m g by rw [← hB9, ← HM.out, ← HG.out]; exact hold_of HC2.out.1 HCH2.out)
      have HAA := Lib.hid hA
      have HBB := Lib.hid hB9
      obtain ⟨LA, hLA⟩ : ∃ LA, (tidyP 40 p).l = LA := ⟨_, rfl⟩
      obtain ⟨LB, hLB⟩ : ∃ LB, (tidyP 40 q).l = LB := ⟨_, rfl⟩
      have HLA := Lib.hid hLA
      have HLB := Lib.hid hLB
      have HAL := Lib.hid (show LA.length = n by rw [← hLA]; exact HHA.out.tl)
      have HBL := Lib.hid (show LB.length = m by rw [← hLB]; exact HHB.out.tl)
      have HAI := Lib.hid (show itsA 39 A = LA by rw [← hLA]; exact HHA.out.its)
      have HBI := Lib.hid (show itsA 39 B = LB by rw [← hLB]; exact HHB.out.its)
      have HAO := Lib.hid (show ∀ y ∈ LA, okI 39 y by rw [← hLA]; exact HHA.out.ok)
      have HBO := Lib.hid (show ∀ y ∈ LB, okI 39 y by rw [← hLB]; exact HHB.out.ok)
      have hfp := fld_its19
      have hfa := fld_arr16
      clear hA hB9 hLA hLB
      have cHA0 := HA.out.2.1
      have cHA1 := HA.out.2.2.1
      have cHA2 := HA.out.2.2.2.1
      have cHA20 := HA2.out.2.1
      have cHA21 := HA2.out.2.2.1
      have cHA22 := HA2.out.2.2.2.1
      go_wp2_with fail
      clear cHA0 cHA1 cHA2 cHA20 cHA21 cHA22
      refine wp_mid (fun s0 s1 w' => ∃ (uT uS : Value) (tio tjo : Option Addr) (tic tjc : Nat), s1 = ((((((((s0.put (some 22) (.agg #[.slice so p.s.length sc, .slice io n ic, .int .i64 f])).put (some 23) uT).put (some 24) (.slice tio n tic)).put (some 25) (.agg #[.slice qo q.s.length qc, .slice jo m jc, .int .i64 g])).put (some 26) uS).put (some 27) (.slice tjo m tjc)).put (some 5) (.slice tio n tic)).put (some 6) (.slice tjo m tjc)) ∧ Its w' (fun _ => True) (.slice tio n tic) LA ∧ Its w' (fun _ => True) (.slice tjo m tjc) LB ∧ Below W12.heap.size W12 w') ?_ ?_
      · have HW0 := Lib.hid (Below.refl W12.heap.size W12)
        obtain ⟨W13, hWD⟩ : ∃ xw9, W12.drew = xw9 := ⟨_, rfl⟩
        have hB : Below W12.heap.size W12 W13 := by rw [← hWD]; exact Below.drewN' (Below.refl _ _) 1
        replace HA := Lib.hid (HA.out.below hB)
        replace HA2 := Lib.hid (HA2.out.below hB)
        replace HB := Lib.hid (HB.out.trans (hB.mono HB.out.size))
        replace HI := Lib.hid (HI.out.grow hB)
        replace HI2 := Lib.hid (HI2.out.grow hB)
        replace HT := Lib.hid (fun j hj => keep_below hB _ _ (HT.out j hj))
        replace HW0 := Lib.hid (HW0.out.trans (hB.mono HW0.out.size))
        clear hB
        refine wp_region_held_drew (S := fun w' => w'.cell? ⟨w.heap.size, 0, none⟩ = some (.slice so p.s.length sc) ∧ w'.cell? ⟨w.heap.size, 1, none⟩ = some (.slice io n ic) ∧ w'.cell? ⟨w.heap.size, 2, none⟩ = some (.int .i64 f) ∧ w'.cell? ⟨(w.heap.size + 1), 0, none⟩ = some (.slice qo q.s.length qc) ∧ w'.cell? ⟨(w.heap.size + 1), 1, none⟩ = some (.slice jo m jc) ∧ w'.cell? ⟨(w.heap.size + 1), 2, none⟩ = some (.int .i64 g)) (by kernel_rfl) (by rw [hWD]; exact ⟨HA.out.2.1, HA.out.2.2.1, HA.out.2.2.2.1, HA2.out.2.1, HA2.out.2.2.1, HA2.out.2.2.2.1⟩) (fun hHeld => ?_)
        rw [hWD] at hHeld ⊢
        clear hWD
        refine wpAnyH_take (i := 0) (v := ?_) rfl (by kernel_rfl) (by kernel_rfl) (by kernel_rfl) (fun _ _ _ h => absurd h.1 (by simp)) (Or.inl ⟨by rfl, ?_⟩) (by assumption) ?_
        rotate_left
        · (intro w hSw; (try dsimp only at hSw); go_simp; try with_reducible rfl)
        simp only [Act.put, List.getElem_toArray, List.getElem_cons_zero, List.setIfInBounds_toArray, List.set_cons_zero, List.set_cons_succ]
        refine wpAnyH_take (i := 3) (v := ?_) rfl (by kernel_rfl) (by kernel_rfl) (by kernel_rfl) (fun _ _ _ h => absurd h.1 (by simp)) (Or.inl ⟨by rfl, ?_⟩) (by assumption) ?_
        rotate_left
        · (intro w hSw; (try dsimp only at hSw); go_simp; try with_reducible rfl)
        simp only [Act.put, List.getElem_toArray, List.getElem_cons_succ, List.getElem_cons_zero, List.setIfInBounds_toArray, List.set_cons_zero, List.set_cons_succ]
        refine wpAnyH_ready (rs := [1]) (by kernel_rfl) (by simp) ?_
        refine AllReadyH.cons (o := _) rfl (fun K hK => ?_) ?_
        · clear hHeld
          go_simp
          refine (ptidy_calls 40 (fun b => True) p _ _ HC1.out.1 (HI.out)).mono ?_
          rintro e W14 ⟨ut, rfl, hut, hB⟩
          replace HA := Lib.hid (HA.out.below hB)
          replace HA2 := Lib.hid (HA2.out.below hB)
          replace HB := Lib.hid (HB.out.trans (hB.mono HB.out.size))
          replace HI := Lib.hid (HI.out.grow hB)
          replace HI2 := Lib.hid (HI2.out.grow hB)
          replace HT := Lib.hid (fun j hj => keep_below hB _ _ (HT.out j hj))
          replace HW0 := Lib.hid (HW0.out.trans (hB.mono HW0.out.size))
          obtain ⟨tso, tsc, tio, tic, rfl, _, hti⟩ := hut.opened
          rw [HLA.out, HAL.out] at hti ⊢
          have HTI := Lib.hid (show Its W14 (fun _ => True) (.slice tio n tic) LA from hti.wide (fun _ _ _ => trivial))
          clear hut hti
          clear hB
          refine hK.out _ _ ?_ (fun hHeld => ?_)
          · exact ⟨HA.out.2.1, HA.out.2.2.1, HA.out.2.2.2.1, HA2.out.2.1, HA2.out.2.2.1, HA2.out.2.2.2.1⟩
          clear hK K
          refine wpAnyH_take (i := 2) (v := ?_) rfl (by kernel_rfl) (by kernel_rfl) (by kernel_rfl) (fun _ _ _ h => absurd h.1 (by simp)) (Or.inl ⟨by rfl, ?_⟩) (by assumption) ?_
          rotate_left
          · (intro w hSw; (try dsimp only at hSw); go_simp; try with_reducible rfl)
          simp only [Act.put, List.getElem_toArray, List.getElem_cons_succ, List.getElem_cons_zero, List.setIfInBounds_toArray, List.set_cons_zero, List.set_cons_succ]
          refine wpAnyH_ready (rs := [4]) (by kernel_rfl) (by simp) ?_
          refine AllReadyH.cons (o := _) rfl (fun K hK => ?_) ?_
          · clear hHeld
            go_simp
            refine (ptidy_calls 40 (fun b => True) q _ _ HC2.out.1 (HI2.out)).mono ?_
            rintro e W15 ⟨us, rfl, hut, hB⟩
            replace HA := Lib.hid (HA.out.below hB)
            replace HA2 := Lib.hid (HA2.out.below hB)
            replace HB := Lib.hid (HB.out.trans (hB.mono HB.out.size))
            replace HI := Lib.hid (HI.out.grow hB)
            replace HI2 := Lib.hid (HI2.out.grow hB)
            replace HT := Lib.hid (fun j hj => keep_below hB _ _ (HT.out j hj))
            replace HW0 := Lib.hid (HW0.out.trans (hB.mono HW0.out.size))
            replace HTI := Lib.hid (HTI.out.grow hB)
            obtain ⟨tsq, tcq, tjo, tjc, rfl, _, hti⟩ := hut.opened
            rw [HLB.out, HBL.out] at hti ⊢
            have HTJ := Lib.hid (show Its W15 (fun _ => True) (.slice tjo m tjc) LB from hti.wide (fun _ _ _ => trivial))
            clear hut hti
            clear hB
            refine hK.out _ _ ?_ (fun hHeld => ?_)
            · exact ⟨HA.out.2.1, HA.out.2.2.1, HA.out.2.2.2.1, HA2.out.2.1, HA2.out.2.2.1, HA2.out.2.2.2.1⟩
            clear hK K
            refine wpAnyH_take (i := 5) (v := ?_) rfl (by kernel_rfl) (by kernel_rfl) (by kernel_rfl) (fun _ _ _ h => absurd h.1 (by simp)) (Or.inl ⟨by rfl, ?_⟩) (by assumption) ?_
            rotate_left
            · (intro w hSw; (try dsimp only at hSw); go_simp; try with_reducible rfl)
            simp only [Act.put, List.getElem_toArray, List.getElem_cons_succ, List.getElem_cons_zero, List.setIfInBounds_toArray, List.set_cons_zero, List.set_cons_succ]
            refine wpAnyH_take (i := 6) (v := ?_) rfl (by kernel_rfl) (by kernel_rfl) (by kernel_rfl) (fun _ _ _ h => absurd h.1 (by simp)) (Or.inl ⟨by rfl, ?_⟩) (by assumption) ?_
            rotate_left
            · (intro w hSw; (try dsimp only at hSw); go_simp; try with_reducible rfl)
            simp only [Act.put, List.getElem_toArray, List.getElem_cons_succ, List.getElem_cons_zero, List.setIfInBounds_toArray, List.set_cons_zero, List.set_cons_succ]
            refine wpAnyH_take (i := 7) (v := ?_) rfl (by kernel_rfl) (by kernel_rfl) (by kernel_rfl) (fun _ _ _ h => absurd h.1 (by simp)) (Or.inl ⟨by rfl, ?_⟩) (by assumption) ?_
            rotate_left
            · (intro w hSw; (try dsimp only at hSw); go_simp; try with_reducible rfl)
            simp only [Act.put, List.getElem_toArray, List.getElem_cons_succ, List.getElem_cons_zero, List.setIfInBounds_toArray, List.set_cons_zero, List.set_cons_succ]
            refine wpAnyH_done (by kernel_rfl) ?_ _
            clear hHeld
            exact ⟨rfl, _, _, tio, tjo, tic, tjc, rfl, HTI.out, HTJ.out, HW0.out⟩
          exact AllReadyH.nil
        exact AllReadyH.nil
      rintro _ W14 ⟨uT, uS, tio, tjo, tic, tjc, rfl, h1, h2, hB⟩
      replace HA := Lib.hid (HA.out.below hB)
      replace HA2 := Lib.hid (HA2.out.below hB)
      replace HB := Lib.hid (HB.out.trans (hB.mono HB.out.size))
      replace HI := Lib.hid (HI.out.grow hB)
      replace HI2 := Lib.hid (HI2.out.grow hB)
      replace HT := Lib.hid (fun j hj => keep_below hB _ _ (HT.out j hj))
      have HTI := Lib.hid h1
      have HTJ := Lib.hid h2
      clear h1 h2 hB
      simp only [Act.put, List.setIfInBounds_toArray, List.set_cons_zero, List.set_cons_succ]
      obtain ⟨G, hGG⟩ : ∃ G, W14.heap.size = G := ⟨_, rfl⟩
      have HGG := Lib.hid hGG
      obtain ⟨FN, hFN⟩ : ∃ FN : Nat → List Int, ∀ k, FN k = zL ((LB.take k).map (fndI LA)) := ⟨_, fun _ => rfl⟩
      obtain ⟨FB, hFB⟩ : ∃ FB : Nat → List Bool, ∀ k, FB k = (LB.take k).map (fun x => decide (fndI LA x < n)) := ⟨_, fun _ => rfl⟩
      have HFN := Lib.hid hFN
      have HFB := Lib.hid hFB
      have HFN0 := Lib.hid (show FN 0 = [] by rw [hFN]; rfl)
      have HFB0 := Lib.hid (show FB 0 = [] by rw [hFB]; rfl)
      have HFNS := Lib.hid (show ∀ k y, LB[k]? = some y → FN (k + 1) = FN k ++ [(fndI LA y : Int)] from fun k y hy => by rw [hFN, hFN, ptake hy, List.map_append]; unfold zL; rw [List.map_append]; rfl)
      have HFBS := Lib.hid (show ∀ k y, LB[k]? = some y → FB (k + 1) = FB k ++ [decide (fndI LA y < n)] from fun k y hy => by rw [hFB, hFB, ptake hy, List.map_append]; rfl)
      clear hGG hFN hFB
      go_wp2_with fail
      go_loopw [7, 8, 9] (fun wv tv iv wr => ∃ k : Nat, k ≤ m ∧ iv = .int .i64 k ∧ wr.ownsRow G 3 1 wv k (ints (FN k)) ∧ wr.ownsRow G 4 1 tv k (bools (FB k)) ∧ (∀ j, wv.ownBlock = some j → tv.ownBlock ≠ some j) ∧ Below G W14 wr) (fun _ _ iv _ => m - (intOf iv).toNat)
      case atStart => exact ⟨0, by omega, rfl, by rw [HFN0.out]; exact World.ownsRow_nil _ _ _ _, by rw [HFB0.out]; exact World.ownsRow_nil _ _ _ _, fun j h => (by cases h), Below.refl _ _⟩
      case round =>
        obtain ⟨k, hk, rfl, ho1, ho2, hds, hBr⟩ := hrel
        obtain ⟨wo, wc, rfl⟩ := owns_form ho1
        obtain ⟨to, tc, rfl⟩ := owns_form ho2
        have HO1 := Lib.hid ho1
        have HO2 := Lib.hid ho2
        have HDS := Lib.hid hds
        have HBG := Lib.hid hBr
        have HSG := Lib.hid (show G ≤ wr.heap.size by rw [← HGG.out]; exact hBr.size)
        have hB : Below W14.heap.size W14 wr := by rw [HGG.out]; exact hBr
        clear ho1 ho2 hds hBr
        replace HA := Lib.hid (HA.out.below hB)
        replace HA2 := Lib.hid (HA2.out.below hB)
        replace HB := Lib.hid (HB.out.trans (hB.mono HB.out.size))
        replace HI := Lib.hid (HI.out.grow hB)
        replace HI2 := Lib.hid (HI2.out.grow hB)
        replace HT := Lib.hid (fun j hj => keep_below hB _ _ (HT.out j hj))
        replace HTI := Lib.hid (HTI.out.grow hB)
        replace HTJ := Lib.hid (HTJ.out.grow hB)
        clear hB
        by_cases hlt : k < m
        · have HLT9 := Lib.hid hlt
          obtain ⟨y, hy⟩ : ∃ y, LB[k]? = some y := ⟨_, List.getElem?_eq_getElem (by rw [HBL.out]; exact hlt)⟩
          have HY := Lib.hid hy
          have HOY := Lib.hid (HBO.out y (List.mem_of_getElem? hy))
          have HTA := Lib.hid (show Its wr (fun _ => True) (.slice tio LA.length tic) LA by rw [HAL.out]; exact HTI.out)
          obtain ⟨lb, loff, lbo, lbc, rfl, _, d0, d1, d2, d3, hby⟩ := HTJ.out.at HY.out
          have HBY := Lib.hid hby
          have HKM := Lib.hid (show k + 1 ≤ 200 by have := HM1.out; omega)
          clear hy hby
          go_wp2_with fail
          refine (rfind19_calls 39 _ LA y _ _ _ HTI.out (by rw [HAL.out]; have := HN1.out; omega) HAO.out HOY.out HBY.out).mono ?_
          rintro e W15 ⟨rfl, hB⟩
          replace HA := Lib.hid (HA.out.below hB)
          replace HA2 := Lib.hid (HA2.out.below hB)
          replace HB := Lib.hid (HB.out.trans (hB.mono HB.out.size))
          replace HI := Lib.hid (HI.out.grow hB)
          replace HI2 := Lib.hid (HI2.out.grow hB)
          replace HT := Lib.hid (fun j hj => keep_below hB _ _ (HT.out j hj))
          replace HTI := Lib.hid (HTI.out.grow hB)
          replace HTJ := Lib.hid (HTJ.out.grow hB)
          replace HO1 := Lib.hid (owns_below HO1.out hB)
          replace HO2 := Lib.hid (owns_below HO2.out hB)
          replace HBG := Lib.hid (HBG.out.trans (hB.mono HSG.out))
          replace HSG := Lib.hid (Nat.le_trans HSG.out hB.size)
          clear d0 d1 d2 d3
          clear hB
          obtain ⟨z, hz⟩ : ∃ z, fndI LA y = z := ⟨_, rfl⟩
          have HZ9 := Lib.hid hz
          rw [hz]
          have HZN := Lib.hid (show z ≤ n by rw [← hz, ← HAL.out]; exact fndI_le _ _)
          clear hz
          obtain ⟨W16, hW4⟩ : ∃ xw9, xw9 = W15.alloc (.cells #[.int .i64 (z : Int)] 3) := ⟨_, rfl⟩
          have HB4 := Lib.hid (show Below W15.heap.size W15 W16 by rw [hW4]; exact below_new _ _)
          have HO4 := Lib.hid (show W16.ownsRow G 3 1 (.slice wo k wc) k (ints (FN k)) by rw [hW4]; exact HO1.out.alloc _)
          have HN4 := Lib.hid (show ∀ j u, ([.int .i64 (z : Int)] : List Value)[j]? = some u → W16.cell? ((⟨W15.heap.size, 0, none⟩ : Addr).add j) = some u by rw [hW4]; exact cell_one_new _ _ _)
          have HSZ4 := Lib.hid (show G ≤ W16.heap.size from Nat.le_trans HSG.out HB4.out.size)
          have HMA := Lib.hid (show k + 1 ≤ maxLen by unfold maxLen; have := HKM.out; omega)
          have HMB := Lib.hid (show (k + 1) * 8 ≤ 140737488355328 by have := HKM.out; omega)
          have HON := Lib.hid (show ∀ u ∈ ([.int .i64 (z : Int)] : List Value), u.oneCell' = true by intro u hu; simp only [List.mem_cons, List.not_mem_nil, or_false] at hu; subst hu; rfl)
          have hfold4 := hW4.symm
          clear hW4
          go_wp2_with (at_builtin; refine wpList_append_blk _ rfl _ _ 22 rfl G 3 info_int_ex.choose _ 1 8 Tryz.underlying22 info_int_ex.choose_spec.1 info_int_ex.choose_spec.2.1 info_int_ex.choose_spec.2.2.1 info_int_ex.choose_spec.2.2.2 rfl (by decide) _ k (ints (FN k)) rfl HO4.out ⟨W15.heap.size, 0, none⟩ 1 1 [.int .i64 (z : Int)] rfl rfl HN4.out HON.out HMA.out HMB.out HSZ4.out ?_)
          intro vv W17 hown hgrow hblk
          clear hfold4
          have HNEW := Lib.hid hown
          have HOLD := Lib.hid (World.ownsRow.kept (owns_below HO2.out HB4.out) hgrow (by
            cases h9 : (Value.slice to k tc).ownBlock with
            | none => exact Or.inl rfl
            | some j => exact Or.inr (fun e => HDS.out j e.symm h9)))
          have HDSn := Lib.hid (show ∀ j, vv.ownBlock = some j → (Value.slice to k tc).ownBlock ≠ some j from fun j h1 h2 => by
            rcases hblk j h1 with h3 | h3
            · exact HDS.out j h3 h2
            · have := (HO2.out.lt j h2).2
              have := HB4.out.size
              omega)
          have HBGn := Lib.hid ((HBG.out.trans (HB4.out.mono HSG.out)).grown hgrow HSZ4.out (fun j hj => (HO4.out.lt j hj).1))
          have HSGn := Lib.hid (Nat.le_trans HSZ4.out hgrow.size)
          obtain ⟨vo1, vc1, rfl⟩ := owns_form hown
          clear hown hgrow hblk HO4 HN4 HMA HMB HON HSZ4 HB4 HO1 HO2 HDS HBG HSG
          have HO1 := HNEW
          have HO2 := HOLD
          have HDS := HDSn
          have HBG := HBGn
          have HSG := HSGn
          clear HNEW HOLD HDSn HBGn HSGn
          obtain ⟨W18, hW4⟩ : ∃ xw9, xw9 = W17.alloc (.cells #[.bool (decide (z < n))] 4) := ⟨_, rfl⟩
          have HB4 := Lib.hid (show Below W17.heap.size W17 W18 by rw [hW4]; exact below_new _ _)
          have HO4 := Lib.hid (show W18.ownsRow G 4 1 (.slice to k tc) k (bools (FB k)) by rw [hW4]; exact HO2.out.alloc _)
          have HN4 := Lib.hid (show ∀ j u, ([.bool (decide (z < n))] : List Value)[j]? = some u → W18.cell? ((⟨W17.heap.size, 0, none⟩ : Addr).add j) = some u by rw [hW4]; exact cell_one_new _ _ _)
          have HSZ4 := Lib.hid (show G ≤ W18.heap.size from Nat.le_trans HSG.out HB4.out.size)
          have HMA := Lib.hid (show k + 1 ≤ maxLen by unfold maxLen; have := HKM.out; omega)
          have HMB := Lib.hid (show (k + 1) * 1 ≤ 140737488355328 by have := HKM.out; omega)
          have HON := Lib.hid (show ∀ u ∈ ([.bool (decide (z < n))] : List Value), u.oneCell' = true by intro u hu; simp only [List.mem_cons, List.not_mem_nil, or_false] at hu; subst hu; rfl)
          have hfold4 := hW4.symm
          clear hW4
          go_wp2_with (at_builtin; refine wpList_append_blk _ rfl _ _ 29 rfl G 4 info_bool_ex.choose _ 1 1 Tryz.underlying29 info_bool_ex.choose_spec.1 info_bool_ex.choose_spec.2.1 info_bool_ex.choose_spec.2.2.1 info_bool_ex.choose_spec.2.2.2 rfl (by decide) _ k (bools (FB k)) rfl HO4.out ⟨W17.heap.size, 0, none⟩ 1 1 [.bool (decide (z < n))] rfl rfl HN4.out HON.out HMA.out HMB.out HSZ4.out ?_)
          intro vv W19 hown hgrow hblk
          clear hfold4
          have HNEW := Lib.hid hown
          have HOLD := Lib.hid (World.ownsRow.kept (owns_below HO1.out HB4.out) hgrow (by
            cases h9 : (Value.slice vo1 (k + 1) vc1).ownBlock with
            | none => exact Or.inl rfl
            | some j => exact Or.inr (fun e => HDS.out j h9 e.symm)))
          have HDSn := Lib.hid (show ∀ j, (Value.slice vo1 (k + 1) vc1).ownBlock = some j → vv.ownBlock ≠ some j from fun j h1 h2 => by
            rcases hblk j h2 with h3 | h3
            · exact HDS.out j h1 h3
            · have := (HO1.out.lt j h1).2
              have := HB4.out.size
              omega)
          have HBGn := Lib.hid ((HBG.out.trans (HB4.out.mono HSG.out)).grown hgrow HSZ4.out (fun j hj => (HO4.out.lt j hj).1))
          have HSGn := Lib.hid (Nat.le_trans HSZ4.out hgrow.size)
          obtain ⟨vo2, vc2, rfl⟩ := owns_form hown
          clear hown hgrow hblk HO4 HN4 HMA HMB HON HSZ4 HB4 HO1 HO2 HDS HBG HSG
          have HO2 := HNEW
          have HO1 := HOLD
          have HDS := HDSn
          have HBG := HBGn
          have HSG := HSGn
          clear HNEW HOLD HDSn HBGn HSGn
          have hm9 := HKM.out
          go_wp2
          go_roundw
          case rel =>
            have hlt9 := HLT9.out
            refine ⟨k + 1, by omega, by go_num, ?_, ?_, HDS.out, HBG.out⟩
            · rw [HFNS.out k y HY.out, HZ9.out, ints_append2]; exact HO1.out
            · rw [HFBS.out k y HY.out, HZ9.out]
              unfold bools at *
              rw [List.map_append]; exact HO2.out
          case measure => have hlt9 := HLT9.out; simp [intOf]; omega
        · have hkm : m = k := by omega
          subst hkm
          have HWA := Lib.hid (show Slc wr (fun _ => True) (.slice wo m wc) m (ints (zL (LB.map (fndI LA)))) by
            have h9 := (Slc.owned HO1.out).any
            rw [HFN.out, ← HBL.out, List.take_length, HBL.out] at h9
            exact h9)
          have HWB := Lib.hid (show Slc wr (fun _ => True) (.slice to m tc) m (bools (LB.map (fun x => decide (fndI LA x < n)))) by
            have h9 := (Slc.owned HO2.out).any
            rw [HFB.out, ← HBL.out, List.take_length, HBL.out] at h9
            exact h9)
          clear HO1 HO2 HDS HFN HFB HFN0 HFB0 HFNS HFBS hlt hk
          have cHA0 := HA.out.2.1
          have cHA1 := HA.out.2.2.1
          have cHA2 := HA.out.2.2.2.1
          have cHA20 := HA2.out.2.1
          have cHA21 := HA2.out.2.2.1
          have cHA22 := HA2.out.2.2.2.1
          go_wp2_with fail
          have HLTW := Lib.hid (show w.heap.size + 1 < wr.heap.size from HA2.out.1)
          clear cHA0 cHA1 cHA2 cHA20 cHA21 cHA22
          refine wp_mid (fun s0 s1 w' => ∃ (eo es ua ub : Value) (r1 r2 : Nat), s1 = ((((((((s0.put (some 51) (.agg #[.slice so p.s.length sc, .slice io n ic, .int .i64 f])).put (some 52) eo).put (some 53) (.agg #[ua])).put (some 54) (.agg #[.slice qo q.s.length qc, .slice jo m jc, .int .i64 g])).put (some 55) es).put (some 56) (.agg #[ub])).put (some 11) (.pointer (some ⟨r1, 0, none⟩))).put (some 12) (.pointer (some ⟨r2, 0, none⟩))) ∧ At1 w' r1 ua ∧ At1 w' r2 ub ∧ IsV w' (fun _ => True) ua A ∧ IsV w' (fun _ => True) ub B ∧ Below wr.heap.size wr w') ?_ ?_
          · have HW0 := Lib.hid (Below.refl wr.heap.size wr)
            have HZ := Lib.hid (Nat.le_refl wr.heap.size)
            obtain ⟨W15, hWD⟩ : ∃ xw9, wr.drew = xw9 := ⟨_, rfl⟩
            have hB : Below wr.heap.size wr W15 := by rw [← hWD]; exact Below.drewN' (Below.refl _ _) 1
            replace HZ := Lib.hid (And.intro HZ.out hB.size)
            replace HA := Lib.hid (HA.out.below hB)
            replace HA2 := Lib.hid (HA2.out.below hB)
            replace HI := Lib.hid (HI.out.grow hB)
            replace HI2 := Lib.hid (HI2.out.grow hB)
            replace HT := Lib.hid (fun j hj => keep_below hB _ _ (HT.out j hj))
            replace HW0 := Lib.hid (HW0.out.trans (hB.mono HW0.out.size))
            clear hB
            refine wp_region_held_drew (S := fun w' => w'.cell? ⟨w.heap.size, 0, none⟩ = some (.slice so p.s.length sc) ∧ w'.cell? ⟨w.heap.size, 1, none⟩ = some (.slice io n ic) ∧ w'.cell? ⟨w.heap.size, 2, none⟩ = some (.int .i64 f) ∧ w'.cell? ⟨w.heap.size + 1, 0, none⟩ = some (.slice qo q.s.length qc) ∧ w'.cell? ⟨w.heap.size + 1, 1, none⟩ = some (.slice jo m jc) ∧ w'.cell? ⟨w.heap.size + 1, 2, none⟩ = some (.int .i64 g)) (by kernel_rfl) (by rw [hWD]; exact ⟨HA.out.2.1, HA.out.2.2.1, HA.out.2.2.2.1, HA2.out.2.1, HA2.out.2.2.1, HA2.out.2.2.2.1⟩) (fun hHeld => ?_)
            rw [hWD] at hHeld ⊢
            clear hWD
            refine wpAnyH_take (i := 0) (v := ?_) rfl (by kernel_rfl) (by kernel_rfl) (by kernel_rfl) (fun _ _ _ h => absurd h.1 (by simp)) (Or.inl ⟨by rfl, ?_⟩) (by assumption) ?_
            rotate_left
            · (intro w hSw; (try dsimp only at hSw); go_simp; try with_reducible rfl)
            simp only [Act.put, List.getElem_toArray, List.getElem_cons_zero, List.setIfInBounds_toArray, List.set_cons_zero, List.set_cons_succ]
            refine wpAnyH_take (i := 3) (v := ?_) rfl (by kernel_rfl) (by kernel_rfl) (by kernel_rfl) (fun _ _ _ h => absurd h.1 (by simp)) (Or.inl ⟨by rfl, ?_⟩) (by assumption) ?_
            rotate_left
            · (intro w hSw; (try dsimp only at hSw); go_simp; try with_reducible rfl)
            simp only [Act.put, List.getElem_toArray, List.getElem_cons_succ, List.getElem_cons_zero, List.setIfInBounds_toArray, List.set_cons_zero, List.set_cons_succ]
            refine wpAnyH_ready (rs := [1, 6, 7]) (by kernel_rfl) (by simp) ?_
            refine AllReadyH.cons (o := _) rfl (fun K hK => ?_) ?_
            · clear hHeld
              go_simp
              refine (lof_calls _ p _ nd _ HLO.out HI.out HT.out HC1.out.1).mono ?_
              rintro e W16 ⟨s3, c3, ua, rfl, hOR, hB⟩
              replace HZ := Lib.hid (And.intro HZ.out hB.size)
              replace HA := Lib.hid (HA.out.below hB)
              replace HA2 := Lib.hid (HA2.out.below hB)
              replace HI := Lib.hid (HI.out.grow hB)
              replace HI2 := Lib.hid (HI2.out.grow hB)
              replace HT := Lib.hid (fun j hj => keep_below hB _ _ (HT.out j hj))
              replace HW0 := Lib.hid (HW0.out.trans (hB.mono HW0.out.size))
              have HUA := Lib.hid (show IsV W16 (fun b => W15.heap.size ≤ b ∧ b < W16.heap.size) ua A by rw [← HAA.out]; exact hOR.2.lt)
              have hsua := HUA.out.store
              clear hOR
              clear hB
              refine hK.out _ _ ?_ (fun hHeld => ?_)
              · exact ⟨HA.out.2.1, HA.out.2.2.1, HA.out.2.2.2.1, HA2.out.2.1, HA2.out.2.2.1, HA2.out.2.2.2.1⟩
              clear hK K
              refine wpAnyH_take (i := 2) (v := ?_) rfl (by kernel_rfl) (by kernel_rfl) (by kernel_rfl) (fun _ _ _ h => absurd h.1 (by simp)) (Or.inl ⟨by rfl, ?_⟩) (by assumption) ?_
              rotate_left
              · (intro w hSw; (try dsimp only at hSw); go_simp; try with_reducible rfl)
              simp only [Act.put, List.getElem_toArray, List.getElem_cons_succ, List.getElem_cons_zero, List.setIfInBounds_toArray, List.set_cons_zero, List.set_cons_succ]
              refine wpAnyH_ready (rs := [4, 6, 7]) (by kernel_rfl) (by simp) ?_
              refine AllReadyH.cons (o := _) rfl (fun K hK => ?_) ?_
              · clear hHeld
                go_simp
                refine (lof_calls _ q _ md _ HLP.out HI2.out HT.out HC2.out.1).mono ?_
                rintro e W17 ⟨s4, c4, ub, rfl, hOR, hB⟩
                replace HZ := Lib.hid (And.intro HZ.out hB.size)
                replace HA := Lib.hid (HA.out.below hB)
                replace HA2 := Lib.hid (HA2.out.below hB)
                replace HI := Lib.hid (HI.out.grow hB)
                replace HI2 := Lib.hid (HI2.out.grow hB)
                replace HT := Lib.hid (fun j hj => keep_below hB _ _ (HT.out j hj))
                replace HW0 := Lib.hid (HW0.out.trans (hB.mono HW0.out.size))
                replace HUA := Lib.hid (HUA.out.grow hB)
                have HUB := Lib.hid (show IsV W17 (fun b => W16.heap.size ≤ b ∧ b < W17.heap.size) ub B by rw [← HBB.out]; exact hOR.2.lt)
                have hsub := HUB.out.store
                clear hOR
                clear hB
                refine hK.out _ _ ?_ (fun hHeld => ?_)
                · exact ⟨HA.out.2.1, HA.out.2.2.1, HA.out.2.2.2.1, HA2.out.2.1, HA2.out.2.2.1, HA2.out.2.2.2.1⟩
                clear hK K
                refine wpAnyH_take (i := 5) (v := ?_) rfl (by kernel_rfl) (by kernel_rfl) (by kernel_rfl) (fun _ _ _ h => absurd h.1 (by simp)) (Or.inl ⟨by rfl, ?_⟩) (by assumption) ?_
                rotate_left
                · (intro w hSw; (try dsimp only at hSw); go_simp; try with_reducible rfl)
                simp only [Act.put, List.getElem_toArray, List.getElem_cons_succ, List.getElem_cons_zero, List.setIfInBounds_toArray, List.set_cons_zero, List.set_cons_succ]
                refine wpAnyH_ready (rs := [6, 7]) (by kernel_rfl) (by simp) ?_
                refine AllReadyH.cons (o := _) rfl (fun K hK => ?_) ?_
                · clear hHeld
                  go_simp
                  obtain ⟨W18, hWn⟩ : ∃ xw9, W17.alloc (.cells #[.nilIface] 36) = xw9 := ⟨_, rfl⟩
                  have hB : Below W17.heap.size W17 W18 := by rw [← hWn]; exact below_new _ _
                  have hNB : At1 W18 W17.heap.size (.nilIface) := by rw [← hWn]; exact At1.new _ _ _
                  rw [hWn]
                  clear hWn
                  obtain ⟨r1, hnm⟩ : ∃ x, W17.heap.size = x := ⟨_, rfl⟩
                  rw [hnm] at hNB ⊢
                  replace HZ := Lib.hid (And.intro HZ.out (And.intro hnm hNB.1))
                  replace HA := Lib.hid (HA.out.below hB)
                  replace HA2 := Lib.hid (HA2.out.below hB)
                  replace HI := Lib.hid (HI.out.grow hB)
                  replace HI2 := Lib.hid (HI2.out.grow hB)
                  replace HT := Lib.hid (fun j hj => keep_below hB _ _ (HT.out j hj))
                  replace HW0 := Lib.hid (HW0.out.trans (hB.mono HW0.out.size))
                  replace HUA := Lib.hid (HUA.out.grow hB)
                  replace HUB := Lib.hid (HUB.out.grow hB)
                  have HR1 := Lib.hid hNB
                  clear hNB hB hnm
                  refine hK.out _ _ ?_ (fun hHeld => ?_)
                  · exact ⟨HA.out.2.1, HA.out.2.2.1, HA.out.2.2.2.1, HA2.out.2.1, HA2.out.2.2.1, HA2.out.2.2.2.1⟩
                  clear hK K
                  refine wpAnyH_ready (rs := [7]) (by kernel_rfl) (by simp) ?_
                  refine AllReadyH.cons (o := _) rfl (fun K hK => ?_) ?_
                  · clear hHeld
                    go_simp
                    obtain ⟨W19, hWn⟩ : ∃ xw9, W18.alloc (.cells #[.nilIface] 36) = xw9 := ⟨_, rfl⟩
                    have hB : Below W18.heap.size W18 W19 := by rw [← hWn]; exact below_new _ _
                    have hNB : At1 W19 W18.heap.size (.nilIface) := by rw [← hWn]; exact At1.new _ _ _
                    rw [hWn]
                    clear hWn
                    obtain ⟨r2, hnm⟩ : ∃ x, W18.heap.size = x := ⟨_, rfl⟩
                    rw [hnm] at hNB ⊢
                    replace HZ := Lib.hid (And.intro HZ.out (And.intro hnm hNB.1))
                    replace HA := Lib.hid (HA.out.below hB)
                    replace HA2 := Lib.hid (HA2.out.below hB)
                    replace HI := Lib.hid (HI.out.grow hB)
                    replace HI2 := Lib.hid (HI2.out.grow hB)
                    replace HT := Lib.hid (fun j hj => keep_below hB _ _ (HT.out j hj))
                    replace HW0 := Lib.hid (HW0.out.trans (hB.mono HW0.out.size))
                    replace HUA := Lib.hid (HUA.out.grow hB)
                    replace HUB := Lib.hid (HUB.out.grow hB)
                    replace HR1 := Lib.hid (HR1.out.below hB)
                    have HR2 := Lib.hid hNB
                    clear hNB hB hnm
                    refine hK.out _ _ ?_ (fun hHeld => ?_)
                    · exact ⟨HA.out.2.1, HA.out.2.2.1, HA.out.2.2.2.1, HA2.out.2.1, HA2.out.2.2.1, HA2.out.2.2.2.1⟩
                    clear hK K
                    refine wpAnyH_ready (rs := [8]) (by kernel_rfl) (by simp) ?_
                    refine AllReadyH.cons (o := _) rfl (fun K hK => ?_) ?_
                    · clear hHeld
                      have s0 := HR1.out.2.1
                      have t0 := HR1.out.2.2 0
                      go_simp
                      clear s0 t0
                      obtain ⟨W20, hWn⟩ : ∃ xw9, W19.setCell ⟨r1, 0, none⟩ ua = xw9 := ⟨_, rfl⟩
                      rw [hWn]
                      replace HUA := Lib.hid (show IsV W20 _ ua A by rw [← hWn]; exact HUA.out.keep (Kept.setCell _ _ _ (fun h => by have := HZ.out; simp only at h; omega)) (fun _ _ h => h))
                      replace HUB := Lib.hid (show IsV W20 _ ub B by rw [← hWn]; exact HUB.out.keep (Kept.setCell _ _ _ (fun h => by have := HZ.out; simp only at h; omega)) (fun _ _ h => h))
                      replace HW0 := Lib.hid (show Below wr.heap.size wr W20 by rw [← hWn]; exact HW0.out.setCell (p := ⟨r1, 0, none⟩) (by have := HZ.out; simp only; omega) _)
                      replace HR1 := Lib.hid (show At1 W20 r1 ua by rw [← hWn]; exact At1.put1 HR1.out _)
                      replace HR2 := Lib.hid (show At1 W20 r2 .nilIface by rw [← hWn]; exact HR2.out.grown (grown_setCell _ ⟨r1, 0, none⟩ _) (by have := HZ.out; simp; omega))
                      replace HA := Lib.hid (show At3 W20 w.heap.size (.slice so p.s.length sc) (.slice io n ic) (.int .i64 f) by rw [← hWn]; exact HA.out.grown (grown_setCell _ ⟨r1, 0, none⟩ _) (by have := HZ.out; have := HLTW.out; simp; omega))
                      replace HA2 := Lib.hid (show At3 W20 (w.heap.size + 1) (.slice qo q.s.length qc) (.slice jo m jc) (.int .i64 g) by rw [← hWn]; exact HA2.out.grown (grown_setCell _ ⟨r1, 0, none⟩ _) (by have := HZ.out; have := HLTW.out; simp; omega))
                      clear hWn
                      refine hK.out _ _ ?_ (fun hHeld => ?_)
                      · exact ⟨HA.out.2.1, HA.out.2.2.1, HA.out.2.2.2.1, HA2.out.2.1, HA2.out.2.2.1, HA2.out.2.2.2.1⟩
                      clear hK K
                      refine wpAnyH_ready (rs := [9]) (by kernel_rfl) (by simp) ?_
                      refine AllReadyH.cons (o := _) rfl (fun K hK => ?_) ?_
                      · clear hHeld
                        have s0 := HR2.out.2.1
                        have t0 := HR2.out.2.2 0
                        go_simp
                        clear s0 t0
                        obtain ⟨W21, hWn⟩ : ∃ xw9, W20.setCell ⟨r2, 0, none⟩ ub = xw9 := ⟨_, rfl⟩
                        rw [hWn]
                        replace HUA := Lib.hid (show IsV W21 _ ua A by rw [← hWn]; exact HUA.out.keep (Kept.setCell _ _ _ (fun h => by have := HZ.out; simp only at h; omega)) (fun _ _ h => h))
                        replace HUB := Lib.hid (show IsV W21 _ ub B by rw [← hWn]; exact HUB.out.keep (Kept.setCell _ _ _ (fun h => by have := HZ.out; simp only at h; omega)) (fun _ _ h => h))
                        replace HW0 := Lib.hid (show Below wr.heap.size wr W21 by rw [← hWn]; exact HW0.out.setCell (p := ⟨r2, 0, none⟩) (by have := HZ.out; simp only; omega) _)
                        replace HR2 := Lib.hid (show At1 W21 r2 ub by rw [← hWn]; exact At1.put1 HR2.out _)
                        replace HR1 := Lib.hid (show At1 W21 r1 ua by rw [← hWn]; exact HR1.out.grown (grown_setCell _ ⟨r2, 0, none⟩ _) (by have := HZ.out; simp; omega))
                        replace HA := Lib.hid (show At3 W21 w.heap.size (.slice so p.s.length sc) (.slice io n ic) (.int .i64 f) by rw [← hWn]; exact HA.out.grown (grown_setCell _ ⟨r2, 0, none⟩ _) (by have := HZ.out; have := HLTW.out; simp; omega))
                        replace HA2 := Lib.hid (show At3 W21 (w.heap.size + 1) (.slice qo q.s.length qc) (.slice jo m jc) (.int .i64 g) by rw [← hWn]; exact HA2.out.grown (grown_setCell _ ⟨r2, 0, none⟩ _) (by have := HZ.out; have := HLTW.out; simp; omega))
                        clear hWn
                        refine hK.out _ _ ?_ (fun hHeld => ?_)
                        · exact ⟨HA.out.2.1, HA.out.2.2.1, HA.out.2.2.2.1, HA2.out.2.1, HA2.out.2.2.1, HA2.out.2.2.2.1⟩
                        clear hK K
                        refine wpAnyH_done (by kernel_rfl) ?_ _
                        clear hHeld
                        exact ⟨rfl, _, _, ua, ub, r1, r2, rfl, HR1.out, HR2.out, IsV.any HUA.out, IsV.any HUB.out, HW0.out⟩
                      exact AllReadyH.nil
                    exact AllReadyH.nil
                  exact AllReadyH.nil
                refine AllReadyH.cons (o := _) rfl (fun K hK => ?_) ?_
                · clear hHeld
                  go_simp
                  obtain ⟨W18, hWn⟩ : ∃ xw9, W17.alloc (.cells #[.nilIface] 36) = xw9 := ⟨_, rfl⟩
                  have hB : Below W17.heap.size W17 W18 := by rw [← hWn]; exact below_new _ _
                  have hNB : At1 W18 W17.heap.size (.nilIface) := by rw [← hWn]; exact At1.new _ _ _
                  rw [hWn]
                  clear hWn
                  obtain ⟨r2, hnm⟩ : ∃ x, W17.heap.size = x := ⟨_, rfl⟩
                  rw [hnm] at hNB ⊢
                  replace HZ := Lib.hid (And.intro HZ.out (And.intro hnm hNB.1))
                  replace HA := Lib.hid (HA.out.below hB)
                  replace HA2 := Lib.hid (HA2.out.below hB)
                  replace HI := Lib.hid (HI.out.grow hB)
                  replace HI2 := Lib.hid (HI2.out.grow hB)
                  replace HT := Lib.hid (fun j hj => keep_below hB _ _ (HT.out j hj))
                  replace HW0 := Lib.hid (HW0.out.trans (hB.mono HW0.out.size))
                  replace HUA := Lib.hid (HUA.out.grow hB)
                  replace HUB := Lib.hid (HUB.out.grow hB)
                  have HR2 := Lib.hid hNB
                  clear hNB hB hnm
                  refine hK.out _ _ ?_ (fun hHeld => ?_)
                  · exact ⟨HA.out.2.1, HA.out.2.2.1, HA.out.2.2.2.1, HA2.out.2.1, HA2.out.2.2.1, HA2.out.2.2.2.1⟩
                  clear hK K
                  refine wpAnyH_ready (rs := [6]) (by kernel_rfl) (by simp) ?_
                  refine AllReadyH.cons (o := _) rfl (fun K hK => ?_) ?_
                  · clear hHeld
                    go_simp
                    obtain ⟨W19, hWn⟩ : ∃ xw9, W18.alloc (.cells #[.nilIface] 36) = xw9 := ⟨_, rfl⟩
                    have hB : Below W18.heap.size W18 W19 := by rw [← hWn]; exact below_new _ _
                    have hNB : At1 W19 W18.heap.size (.nilIface) := by rw [← hWn]; exact At1.new _ _ _
                    rw [hWn]
                    clear hWn
                    obtain ⟨r1, hnm⟩ : ∃ x, W18.heap.size = x := ⟨_, rfl⟩
                    rw [hnm] at hNB ⊢
                    replace HZ := Lib.hid (And.intro HZ.out (And.intro hnm hNB.1))
                    replace HA := Lib.hid (HA.out.below hB)
                    replace HA2 := Lib.hid (HA2.out.below hB)
                    replace HI := Lib.hid (HI.out.grow hB)
                    replace HI2 := Lib.hid (HI2.out.grow hB)
                    replace HT := Lib.hid (fun j hj => keep_below hB _ _ (HT.out j hj))
                    replace HW0 := Lib.hid (HW0.out.trans (hB.mono HW0.out.size))
                    replace HUA := Lib.hid (HUA.out.grow hB)
                    replace HUB := Lib.hid (HUB.out.grow hB)
                    replace HR2 := Lib.hid (HR2.out.below hB)
                    have HR1 := Lib.hid hNB
                    clear hNB hB hnm
                    refine hK.out _ _ ?_ (fun hHeld => ?_)
                    · exact ⟨HA.out.2.1, HA.out.2.2.1, HA.out.2.2.2.1, HA2.out.2.1, HA2.out.2.2.1, HA2.out.2.2.2.1⟩
                    clear hK K
                    refine wpAnyH_ready (rs := [8]) (by kernel_rfl) (by simp) ?_
                    refine AllReadyH.cons (o := _) rfl (fun K hK => ?_) ?_
                    · clear hHeld
                      have s0 := HR1.out.2.1
                      have t0 := HR1.out.2.2 0
                      go_simp
                      clear s0 t0
                      obtain ⟨W20, hWn⟩ : ∃ xw9, W19.setCell ⟨r1, 0, none⟩ ua = xw9 := ⟨_, rfl⟩
                      rw [hWn]
                      replace HUA := Lib.hid (show IsV W20 _ ua A by rw [← hWn]; exact HUA.out.keep (Kept.setCell _ _ _ (fun h => by have := HZ.out; simp only at h; omega)) (fun _ _ h => h))
                      replace HUB := Lib.hid (show IsV W20 _ ub B by rw [← hWn]; exact HUB.out.keep (Kept.setCell _ _ _ (fun h => by have := HZ.out; simp only at h; omega)) (fun _ _ h => h))
                      replace HW0 := Lib.hid (show Below wr.heap.size wr W20 by rw [← hWn]; exact HW0.out.setCell (p := ⟨r1, 0, none⟩) (by have := HZ.out; simp only; omega) _)
                      replace HR1 := Lib.hid (show At1 W20 r1 ua by rw [← hWn]; exact At1.put1 HR1.out _)
                      replace HR2 := Lib.hid (show At1 W20 r2 .nilIface by rw [← hWn]; exact HR2.out.grown (grown_setCell _ ⟨r1, 0, none⟩ _) (by have := HZ.out; simp; omega))
                      replace HA := Lib.hid (show At3 W20 w.heap.size (.slice so p.s.length sc) (.slice io n ic) (.int .i64 f) by rw [← hWn]; exact HA.out.grown (grown_setCell _ ⟨r1, 0, none⟩ _) (by have := HZ.out; have := HLTW.out; simp; omega))
                      replace HA2 := Lib.hid (show At3 W20 (w.heap.size + 1) (.slice qo q.s.length qc) (.slice jo m jc) (.int .i64 g) by rw [← hWn]; exact HA2.out.grown (grown_setCell _ ⟨r1, 0, none⟩ _) (by have := HZ.out; have := HLTW.out; simp; omega))
                      clear hWn
                      refine hK.out _ _ ?_ (fun hHeld => ?_)
                      · exact ⟨HA.out.2.1, HA.out.2.2.1, HA.out.2.2.2.1, HA2.out.2.1, HA2.out.2.2.1, HA2.out.2.2.2.1⟩
                      clear hK K
                      refine wpAnyH_ready (rs := [9]) (by kernel_rfl) (by simp) ?_
                      refine AllReadyH.cons (o := _) rfl (fun K hK => ?_) ?_
                      · clear hHeld
                        have s0 := HR2.out.2.1
                        have t0 := HR2.out.2.2 0
                        go_simp
                        clear s0 t0
                        obtain ⟨W21, hWn⟩ : ∃ xw9, W20.setCell ⟨r2, 0, none⟩ ub = xw9 := ⟨_, rfl⟩
                        rw [hWn]
                        replace HUA := Lib.hid (show IsV W21 _ ua A by rw [← hWn]; exact HUA.out.keep (Kept.setCell _ _ _ (fun h => by have := HZ.out; simp only at h; omega)) (fun _ _ h => h))
                        replace HUB := Lib.hid (show IsV W21 _ ub B by rw [← hWn]; exact HUB.out.keep (Kept.setCell _ _ _ (fun h => by have := HZ.out; simp only at h; omega)) (fun _ _ h => h))
                        replace HW0 := Lib.hid (show Below wr.heap.size wr W21 by rw [← hWn]; exact HW0.out.setCell (p := ⟨r2, 0, none⟩) (by have := HZ.out; simp only; omega) _)
                        replace HR2 := Lib.hid (show At1 W21 r2 ub by rw [← hWn]; exact At1.put1 HR2.out _)
                        replace HR1 := Lib.hid (show At1 W21 r1 ua by rw [← hWn]; exact HR1.out.grown (grown_setCell _ ⟨r2, 0, none⟩ _) (by have := HZ.out; simp; omega))
                        replace HA := Lib.hid (show At3 W21 w.heap.size (.slice so p.s.length sc) (.slice io n ic) (.int .i64 f) by rw [← hWn]; exact HA.out.grown (grown_setCell _ ⟨r2, 0, none⟩ _) (by have := HZ.out; have := HLTW.out; simp; omega))
                        replace HA2 := Lib.hid (show At3 W21 (w.heap.size + 1) (.slice qo q.s.length qc) (.slice jo m jc) (.int .i64 g) by rw [← hWn]; exact HA2.out.grown (grown_setCell _ ⟨r2, 0, none⟩ _) (by have := HZ.out; have := HLTW.out; simp; omega))
                        clear hWn
                        refine hK.out _ _ ?_ (fun hHeld => ?_)
                        · exact ⟨HA.out.2.1, HA.out.2.2.1, HA.out.2.2.2.1, HA2.out.2.1, HA2.out.2.2.1, HA2.out.2.2.2.1⟩
                        clear hK K
                        refine wpAnyH_done (by kernel_rfl) ?_ _
                        clear hHeld
                        exact ⟨rfl, _, _, ua, ub, r1, r2, rfl, HR1.out, HR2.out, IsV.any HUA.out, IsV.any HUB.out, HW0.out⟩
                      exact AllReadyH.nil
                    exact AllReadyH.nil
                  exact AllReadyH.nil
                exact AllReadyH.nil
              refine AllReadyH.cons (o := _) rfl (fun K hK => ?_) ?_
              · clear hHeld
                go_simp
                obtain ⟨W17, hWn⟩ : ∃ xw9, W16.alloc (.cells #[.nilIface] 36) = xw9 := ⟨_, rfl⟩
                have hB : Below W16.heap.size W16 W17 := by rw [← hWn]; exact below_new _ _
                have hNB : At1 W17 W16.heap.size (.nilIface) := by rw [← hWn]; exact At1.new _ _ _
                rw [hWn]
                clear hWn
                obtain ⟨r1, hnm⟩ : ∃ x, W16.heap.size = x := ⟨_, rfl⟩
                rw [hnm] at hNB ⊢
                replace HZ := Lib.hid (And.intro HZ.out (And.intro hnm hNB.1))
                replace HA := Lib.hid (HA.out.below hB)
                replace HA2 := Lib.hid (HA2.out.below hB)
                replace HI := Lib.hid (HI.out.grow hB)
                replace HI2 := Lib.hid (HI2.out.grow hB)
                replace HT := Lib.hid (fun j hj => keep_below hB _ _ (HT.out j hj))
                replace HW0 := Lib.hid (HW0.out.trans (hB.mono HW0.out.size))
                replace HUA := Lib.hid (HUA.out.grow hB)
                have HR1 := Lib.hid hNB
                clear hNB hB hnm
                refine hK.out _ _ ?_ (fun hHeld => ?_)
                · exact ⟨HA.out.2.1, HA.out.2.2.1, HA.out.2.2.2.1, HA2.out.2.1, HA2.out.2.2.1, HA2.out.2.2.2.1⟩
                clear hK K
                refine wpAnyH_ready (rs := [4, 7]) (by kernel_rfl) (by simp) ?_
                refine AllReadyH.cons (o := _) rfl (fun K hK => ?_) ?_
                · clear hHeld
                  go_simp
                  refine (lof_calls _ q _ md _ HLP.out HI2.out HT.out HC2.out.1).mono ?_
                  rintro e W18 ⟨s4, c4, ub, rfl, hOR, hB⟩
                  replace HZ := Lib.hid (And.intro HZ.out hB.size)
                  replace HA := Lib.hid (HA.out.below hB)
                  replace HA2 := Lib.hid (HA2.out.below hB)
                  replace HI := Lib.hid (HI.out.grow hB)
                  replace HI2 := Lib.hid (HI2.out.grow hB)
                  replace HT := Lib.hid (fun j hj => keep_below hB _ _ (HT.out j hj))
                  replace HW0 := Lib.hid (HW0.out.trans (hB.mono HW0.out.size))
                  replace HUA := Lib.hid (HUA.out.grow hB)
                  replace HR1 := Lib.hid (HR1.out.below hB)
                  have HUB := Lib.hid (show IsV W18 (fun b => W17.heap.size ≤ b ∧ b < W18.heap.size) ub B by rw [← HBB.out]; exact hOR.2.lt)
                  have hsub := HUB.out.store
                  clear hOR
                  clear hB
                  refine hK.out _ _ ?_ (fun hHeld => ?_)
                  · exact ⟨HA.out.2.1, HA.out.2.2.1, HA.out.2.2.2.1, HA2.out.2.1, HA2.out.2.2.1, HA2.out.2.2.2.1⟩
                  clear hK K
                  refine wpAnyH_take (i := 5) (v := ?_) rfl (by kernel_rfl) (by kernel_rfl) (by kernel_rfl) (fun _ _ _ h => absurd h.1 (by simp)) (Or.inl ⟨by rfl, ?_⟩) (by assumption) ?_
                  rotate_left
                  · (intro w hSw; (try dsimp only at hSw); go_simp; try with_reducible rfl)
                  simp only [Act.put, List.getElem_toArray, List.getElem_cons_succ, List.getElem_cons_zero, List.setIfInBounds_toArray, List.set_cons_zero, List.set_cons_succ]
                  refine wpAnyH_ready (rs := [7]) (by kernel_rfl) (by simp) ?_
                  refine AllReadyH.cons (o := _) rfl (fun K hK => ?_) ?_
                  · clear hHeld
                    go_simp
                    obtain ⟨W19, hWn⟩ : ∃ xw9, W18.alloc (.cells #[.nilIface] 36) = xw9 := ⟨_, rfl⟩
                    have hB : Below W18.heap.size W18 W19 := by rw [← hWn]; exact below_new _ _
                    have hNB : At1 W19 W18.heap.size (.nilIface) := by rw [← hWn]; exact At1.new _ _ _
                    rw [hWn]
                    clear hWn
                    obtain ⟨r2, hnm⟩ : ∃ x, W18.heap.size = x := ⟨_, rfl⟩
                    rw [hnm] at hNB ⊢
                    replace HZ := Lib.hid (And.intro HZ.out (And.intro hnm hNB.1))
                    replace HA := Lib.hid (HA.out.below hB)
                    replace HA2 := Lib.hid (HA2.out.below hB)
                    replace HI := Lib.hid (HI.out.grow hB)
                    replace HI2 := Lib.hid (HI2.out.grow hB)
                    replace HT := Lib.hid (fun j hj => keep_below hB _ _ (HT.out j hj))
                    replace HW0 := Lib.hid (HW0.out.trans (hB.mono HW0.out.size))
                    replace HUA := Lib.hid (HUA.out.grow hB)
                    replace HR1 := Lib.hid (HR1.out.below hB)
                    replace HUB := Lib.hid (HUB.out.grow hB)
                    have HR2 := Lib.hid hNB
                    clear hNB hB hnm
                    refine hK.out _ _ ?_ (fun hHeld => ?_)
                    · exact ⟨HA.out.2.1, HA.out.2.2.1, HA.out.2.2.2.1, HA2.out.2.1, HA2.out.2.2.1, HA2.out.2.2.2.1⟩
                    clear hK K
                    refine wpAnyH_ready (rs := [8]) (by kernel_rfl) (by simp) ?_
                    refine AllReadyH.cons (o := _) rfl (fun K hK => ?_) ?_
                    · clear hHeld
                      have s0 := HR1.out.2.1
                      have t0 := HR1.out.2.2 0
                      go_simp
                      clear s0 t0
                      obtain ⟨W20, hWn⟩ : ∃ xw9, W19.setCell ⟨r1, 0, none⟩ ua = xw9 := ⟨_, rfl⟩
                      rw [hWn]
                      replace HUA := Lib.hid (show IsV W20 _ ua A by rw [← hWn]; exact HUA.out.keep (Kept.setCell _ _ _ (fun h => by have := HZ.out; simp only at h; omega)) (fun _ _ h => h))
                      replace HUB := Lib.hid (show IsV W20 _ ub B by rw [← hWn]; exact HUB.out.keep (Kept.setCell _ _ _ (fun h => by have := HZ.out; simp only at h; omega)) (fun _ _ h => h))
                      replace HW0 := Lib.hid (show Below wr.heap.size wr W20 by rw [← hWn]; exact HW0.out.setCell (p := ⟨r1, 0, none⟩) (by have := HZ.out; simp only; omega) _)
                      replace HR1 := Lib.hid (show At1 W20 r1 ua by rw [← hWn]; exact At1.put1 HR1.out _)
                      replace HR2 := Lib.hid (show At1 W20 r2 .nilIface by rw [← hWn]; exact HR2.out.grown (grown_setCell _ ⟨r1, 0, none⟩ _) (by have := HZ.out; simp; omega))
                      replace HA := Lib.hid (show At3 W20 w.heap.size (.slice so p.s.length sc) (.slice io n ic) (.int .i64 f) by rw [← hWn]; exact HA.out.grown (grown_setCell _ ⟨r1, 0, none⟩ _) (by have := HZ.out; have := HLTW.out; simp; omega))
                      replace HA2 := Lib.hid (show At3 W20 (w.heap.size + 1) (.slice qo q.s.length qc) (.slice jo m jc) (.int .i64 g) by rw [← hWn]; exact HA2.out.grown (grown_setCell _ ⟨r1, 0, none⟩ _) (by have := HZ.out; have := HLTW.out; simp; omega))
                      clear hWn
                      refine hK.out _ _ ?_ (fun hHeld => ?_)
                      · exact ⟨HA.out.2.1, HA.out.2.2.1, HA.out.2.2.2.1, HA2.out.2.1, HA2.out.2.2.1, HA2.out.2.2.2.1⟩
                      clear hK K
                      refine wpAnyH_ready (rs := [9]) (by kernel_rfl) (by simp) ?_
                      refine AllReadyH.cons (o := _) rfl (fun K hK => ?_) ?_
                      · clear hHeld
                        have s0 := HR2.out.2.1
                        have t0 := HR2.out.2.2 0
                        go_simp
                        clear s0 t0
                        obtain ⟨W21, hWn⟩ : ∃ xw9, W20.setCell ⟨r2, 0, none⟩ ub = xw9 := ⟨_, rfl⟩
                        rw [hWn]
                        replace HUA := Lib.hid (show IsV W21 _ ua A by rw [← hWn]; exact HUA.out.keep (Kept.setCell _ _ _ (fun h => by have := HZ.out; simp only at h; omega)) (fun _ _ h => h))
                        replace HUB := Lib.hid (show IsV W21 _ ub B by rw [← hWn]; exact HUB.out.keep (Kept.setCell _ _ _ (fun h => by have := HZ.out; simp only at h; omega)) (fun _ _ h => h))
                        replace HW0 := Lib.hid (show Below wr.heap.size wr W21 by rw [← hWn]; exact HW0.out.setCell (p := ⟨r2, 0, none⟩) (by have := HZ.out; simp only; omega) _)
                        replace HR2 := Lib.hid (show At1 W21 r2 ub by rw [← hWn]; exact At1.put1 HR2.out _)
                        replace HR1 := Lib.hid (show At1 W21 r1 ua by rw [← hWn]; exact HR1.out.grown (grown_setCell _ ⟨r2, 0, none⟩ _) (by have := HZ.out; simp; omega))
                        replace HA := Lib.hid (show At3 W21 w.heap.size (.slice so p.s.length sc) (.slice io n ic) (.int .i64 f) by rw [← hWn]; exact HA.out.grown (grown_setCell _ ⟨r2, 0, none⟩ _) (by have := HZ.out; have := HLTW.out; simp; omega))
                        replace HA2 := Lib.hid (show At3 W21 (w.heap.size + 1) (.slice qo q.s.length qc) (.slice jo m jc) (.int .i64 g) by rw [← hWn]; exact HA2.out.grown (grown_setCell _ ⟨r2, 0, none⟩ _) (by have := HZ.out; have := HLTW.out; simp; omega))
                        clear hWn
                        refine hK.out _ _ ?_ (fun hHeld => ?_)
                        · exact ⟨HA.out.2.1, HA.out.2.2.1, HA.out.2.2.2.1, HA2.out.2.1, HA2.out.2.2.1, HA2.out.2.2.2.1⟩
                        clear hK K
                        refine wpAnyH_done (by kernel_rfl) ?_ _
                        clear hHeld
                        exact ⟨rfl, _, _, ua, ub, r1, r2, rfl, HR1.out, HR2.out, IsV.any HUA.out, IsV.any HUB.out, HW0.out⟩
                      exact AllReadyH.nil
                    exact AllReadyH.nil
                  exact AllReadyH.nil
                refine AllReadyH.cons (o := _) rfl (fun K hK => ?_) ?_
                · clear hHeld
                  go_simp
                  obtain ⟨W18, hWn⟩ : ∃ xw9, W17.alloc (.cells #[.nilIface] 36) = xw9 := ⟨_, rfl⟩
                  have hB : Below W17.heap.size W17 W18 := by rw [← hWn]; exact below_new _ _
                  have hNB : At1 W18 W17.heap.size (.nilIface) := by rw [← hWn]; exact At1.new _ _ _
                  rw [hWn]
                  clear hWn
                  obtain ⟨r2, hnm⟩ : ∃ x, W17.heap.size = x := ⟨_, rfl⟩
                  rw [hnm] at hNB ⊢
                  replace HZ := Lib.hid (And.intro HZ.out (And.intro hnm hNB.1))
                  replace HA := Lib.hid (HA.out.below hB)
                  replace HA2 := Lib.hid (HA2.out.below hB)
                  replace HI := Lib.hid (HI.out.grow hB)
                  replace HI2 := Lib.hid (HI2.out.grow hB)
                  replace HT := Lib.hid (fun j hj => keep_below hB _ _ (HT.out j hj))
                  replace HW0 := Lib.hid (HW0.out.trans (hB.mono HW0.out.size))
                  replace HUA := Lib.hid (HUA.out.grow hB)
                  replace HR1 := Lib.hid (HR1.out.below hB)
                  have HR2 := Lib.hid hNB
                  clear hNB hB hnm
                  refine hK.out _ _ ?_ (fun hHeld => ?_)
                  · exact ⟨HA.out.2.1, HA.out.2.2.1, HA.out.2.2.2.1, HA2.out.2.1, HA2.out.2.2.1, HA2.out.2.2.2.1⟩
                  clear hK K
                  refine wpAnyH_ready (rs := [4]) (by kernel_rfl) (by simp) ?_
                  refine AllReadyH.cons (o := _) rfl (fun K hK => ?_) ?_
                  · clear hHeld
                    go_simp
                    refine (lof_calls _ q _ md _ HLP.out HI2.out HT.out HC2.out.1).mono ?_
                    rintro e W19 ⟨s4, c4, ub, rfl, hOR, hB⟩
                    replace HZ := Lib.hid (And.intro HZ.out hB.size)
                    replace HA := Lib.hid (HA.out.below hB)
                    replace HA2 := Lib.hid (HA2.out.below hB)
                    replace HI := Lib.hid (HI.out.grow hB)
                    replace HI2 := Lib.hid (HI2.out.grow hB)
                    replace HT := Lib.hid (fun j hj => keep_below hB _ _ (HT.out j hj))
                    replace HW0 := Lib.hid (HW0.out.trans (hB.mono HW0.out.size))
                    replace HUA := Lib.hid (HUA.out.grow hB)
                    replace HR1 := Lib.hid (HR1.out.below hB)
                    replace HR2 := Lib.hid (HR2.out.below hB)
                    have HUB := Lib.hid (show IsV W19 (fun b => W18.heap.size ≤ b ∧ b < W19.heap.size) ub B by rw [← HBB.out]; exact hOR.2.lt)
                    have hsub := HUB.out.store
                    clear hOR
                    clear hB
                    refine hK.out _ _ ?_ (fun hHeld => ?_)
                    · exact ⟨HA.out.2.1, HA.out.2.2.1, HA.out.2.2.2.1, HA2.out.2.1, HA2.out.2.2.1, HA2.out.2.2.2.1⟩
                    clear hK K
                    refine wpAnyH_take (i := 5) (v := ?_) rfl (by kernel_rfl) (by kernel_rfl) (by kernel_rfl) (fun _ _ _ h => absurd h.1 (by simp)) (Or.inl ⟨by rfl, ?_⟩) (by assumption) ?_
                    rotate_left
                    · (intro w hSw; (try dsimp only at hSw); go_simp; try with_reducible rfl)
                    simp only [Act.put, List.getElem_toArray, List.getElem_cons_succ, List.getElem_cons_zero, List.setIfInBounds_toArray, List.set_cons_zero, List.set_cons_succ]
                    refine wpAnyH_ready (rs := [8]) (by kernel_rfl) (by simp) ?_
                    refine AllReadyH.cons (o := _) rfl (fun K hK => ?_) ?_
                    · clear hHeld
                      have s0 := HR1.out.2.1
                      have t0 := HR1.out.2.2 0
                      go_simp
                      clear s0 t0
                      obtain ⟨W20, hWn⟩ : ∃ xw9, W19.setCell ⟨r1, 0, none⟩ ua = xw9 := ⟨_, rfl⟩
                      rw [hWn]
                      replace HUA := Lib.hid (show IsV W20 _ ua A by rw [← hWn]; exact HUA.out.keep (Kept.setCell _ _ _ (fun h => by have := HZ.out; simp only at h; omega)) (fun _ _ h => h))
                      replace HUB := Lib.hid (show IsV W20 _ ub B by rw [← hWn]; exact HUB.out.keep (Kept.setCell _ _ _ (fun h => by have := HZ.out; simp only at h; omega)) (fun _ _ h => h))
                      replace HW0 := Lib.hid (show Below wr.heap.size wr W20 by rw [← hWn]; exact HW0.out.setCell (p := ⟨r1, 0, none⟩) (by have := HZ.out; simp only; omega) _)
                      replace HR1 := Lib.hid (show At1 W20 r1 ua by rw [← hWn]; exact At1.put1 HR1.out _)
                      replace HR2 := Lib.hid (show At1 W20 r2 .nilIface by rw [← hWn]; exact HR2.out.grown (grown_setCell _ ⟨r1, 0, none⟩ _) (by have := HZ.out; simp; omega))
                      replace HA := Lib.hid (show At3 W20 w.heap.size (.slice so p.s.length sc) (.slice io n ic) (.int .i64 f) by rw [← hWn]; exact HA.out.grown (grown_setCell _ ⟨r1, 0, none⟩ _) (by have := HZ.out; have := HLTW.out; simp; omega))
                      replace HA2 := Lib.hid (show At3 W20 (w.heap.size + 1) (.slice qo q.s.length qc) (.slice jo m jc) (.int .i64 g) by rw [← hWn]; exact HA2.out.grown (grown_setCell _ ⟨r1, 0, none⟩ _) (by have := HZ.out; have := HLTW.out; simp; omega))
                      clear hWn
                      refine hK.out _ _ ?_ (fun hHeld => ?_)
                      · exact ⟨HA.out.2.1, HA.out.2.2.1, HA.out.2.2.2.1, HA2.out.2.1, HA2.out.2.2.1, HA2.out.2.2.2.1⟩
                      clear hK K
                      refine wpAnyH_ready (rs := [9]) (by kernel_rfl) (by simp) ?_
                      refine AllReadyH.cons (o := _) rfl (fun K hK => ?_) ?_
                      · clear hHeld
                        have s0 := HR2.out.2.1
                        have t0 := HR2.out.2.2 0
                        go_simp
                        clear s0 t0
                        obtain ⟨W21, hWn⟩ : ∃ xw9, W20.setCell ⟨r2, 0, none⟩ ub = xw9 := ⟨_, rfl⟩
                        rw [hWn]
                        replace HUA := Lib.hid (show IsV W21 _ ua A by rw [← hWn]; exact HUA.out.keep (Kept.setCell _ _ _ (fun h => by have := HZ.out; simp only at h; omega)) (fun _ _ h => h))
                        replace HUB := Lib.hid (show IsV W21 _ ub B by rw [← hWn]; exact HUB.out.keep (Kept.setCell _ _ _ (fun h => by have := HZ.out; simp only at h; omega)) (fun _ _ h => h))
                        replace HW0 := Lib.hid (show Below wr.heap.size wr W21 by rw [← hWn]; exact HW0.out.setCell (p := ⟨r2, 0, none⟩) (by have := HZ.out; simp only; omega) _)
                        replace HR2 := Lib.hid (show At1 W21 r2 ub by rw [← hWn]; exact At1.put1 HR2.out _)
                        replace HR1 := Lib.hid (show At1 W21 r1 ua by rw [← hWn]; exact HR1.out.grown (grown_setCell _ ⟨r2, 0, none⟩ _) (by have := HZ.out; simp; omega))
                        replace HA := Lib.hid (show At3 W21 w.heap.size (.slice so p.s.length sc) (.slice io n ic) (.int .i64 f) by rw [← hWn]; exact HA.out.grown (grown_setCell _ ⟨r2, 0, none⟩ _) (by have := HZ.out; have := HLTW.out; simp; omega))
                        replace HA2 := Lib.hid (show At3 W21 (w.heap.size + 1) (.slice qo q.s.length qc) (.slice jo m jc) (.int .i64 g) by rw [← hWn]; exact HA2.out.grown (grown_setCell _ ⟨r2, 0, none⟩ _) (by have := HZ.out; have := HLTW.out; simp; omega))
                        clear hWn
                        refine hK.out _ _ ?_ (fun hHeld => ?_)
                        · exact ⟨HA.out.2.1, HA.out.2.2.1, HA.out.2.2.2.1, HA2.out.2.1, HA2.out.2.2.1, HA2.out.2.2.2.1⟩
                        clear hK K
                        refine wpAnyH_done (by kernel_rfl) ?_ _
                        clear hHeld
                        exact ⟨rfl, _, _, ua, ub, r1, r2, rfl, HR1.out, HR2.out, IsV.any HUA.out, IsV.any HUB.out, HW0.out⟩
                      exact AllReadyH.nil
                    exact AllReadyH.nil
                  exact AllReadyH.nil
                exact AllReadyH.nil
              refine AllReadyH.cons (o := _) rfl (fun K hK => ?_) ?_
              · clear hHeld
                go_simp
                obtain ⟨W17, hWn⟩ : ∃ xw9, W16.alloc (.cells #[.nilIface] 36) = xw9 := ⟨_, rfl⟩
                have hB : Below W16.heap.size W16 W17 := by rw [← hWn]; exact below_new _ _
                have hNB : At1 W17 W16.heap.size (.nilIface) := by rw [← hWn]; exact At1.new _ _ _
                rw [hWn]
                clear hWn
                obtain ⟨r2, hnm⟩ : ∃ x, W16.heap.size = x := ⟨_, rfl⟩
                rw [hnm] at hNB ⊢
                replace HZ := Lib.hid (And.intro HZ.out (And.intro hnm hNB.1))
                replace HA := Lib.hid (HA.out.below hB)
                replace HA2 := Lib.hid (HA2.out.below hB)
                replace HI := Lib.hid (HI.out.grow hB)
                replace HI2 := Lib.hid (HI2.out.grow hB)
                replace HT := Lib.hid (fun j hj => keep_below hB _ _ (HT.out j hj))
                replace HW0 := Lib.hid (HW0.out.trans (hB.mono HW0.out.size))
                replace HUA := Lib.hid (HUA.out.grow hB)
                have HR2 := Lib.hid hNB
                clear hNB hB hnm
                refine hK.out _ _ ?_ (fun hHeld => ?_)
                · exact ⟨HA.out.2.1, HA.out.2.2.1, HA.out.2.2.2.1, HA2.out.2.1, HA2.out.2.2.1, HA2.out.2.2.2.1⟩
                clear hK K
                refine wpAnyH_ready (rs := [4, 6]) (by kernel_rfl) (by simp) ?_
                refine AllReadyH.cons (o := _) rfl (fun K hK => ?_) ?_
                · clear hHeld
                  go_simp
                  refine (lof_calls _ q _ md _ HLP.out HI2.out HT.out HC2.out.1).mono ?_
                  rintro e W18 ⟨s4, c4, ub, rfl, hOR, hB⟩
                  replace HZ := Lib.hid (And.intro HZ.out hB.size)
                  replace HA := Lib.hid (HA.out.below hB)
                  replace HA2 := Lib.hid (HA2.out.below hB)
                  replace HI := Lib.hid (HI.out.grow hB)
                  replace HI2 := Lib.hid (HI2.out.grow hB)
                  replace HT := Lib.hid (fun j hj => keep_below hB _ _ (HT.out j hj))
                  replace HW0 := Lib.hid (HW0.out.trans (hB.mono HW0.out.size))
                  replace HUA := Lib.hid (HUA.out.grow hB)
                  replace HR2 := Lib.hid (HR2.out.below hB)
                  have HUB := Lib.hid (show IsV W18 (fun b => W17.heap.size ≤ b ∧ b < W18.heap.size) ub B by rw [← HBB.out]; exact hOR.2.lt)
                  have hsub := HUB.out.store
                  clear hOR
                  clear hB
                  refine hK.out _ _ ?_ (fun hHeld => ?_)
                  · exact ⟨HA.out.2.1, HA.out.2.2.1, HA.out.2.2.2.1, HA2.out.2.1, HA2.out.2.2.1, HA2.out.2.2.2.1⟩
                  clear hK K
                  refine wpAnyH_take (i := 5) (v := ?_) rfl (by kernel_rfl) (by kernel_rfl) (by kernel_rfl) (fun _ _ _ h => absurd h.1 (by simp)) (Or.inl ⟨by rfl, ?_⟩) (by assumption) ?_
                  rotate_left
                  · (intro w hSw; (try dsimp only at hSw); go_simp; try with_reducible rfl)
                  simp only [Act.put, List.getElem_toArray, List.getElem_cons_succ, List.getElem_cons_zero, List.setIfInBounds_toArray, List.set_cons_zero, List.set_cons_succ]
                  refine wpAnyH_ready (rs := [6]) (by kernel_rfl) (by simp) ?_
                  refine AllReadyH.cons (o := _) rfl (fun K hK => ?_) ?_
                  · clear hHeld
                    go_simp
                    obtain ⟨W19, hWn⟩ : ∃ xw9, W18.alloc (.cells #[.nilIface] 36) = xw9 := ⟨_, rfl⟩
                    have hB : Below W18.heap.size W18 W19 := by rw [← hWn]; exact below_new _ _
                    have hNB : At1 W19 W18.heap.size (.nilIface) := by rw [← hWn]; exact At1.new _ _ _
                    rw [hWn]
                    clear hWn
                    obtain ⟨r1, hnm⟩ : ∃ x, W18.heap.size = x := ⟨_, rfl⟩
                    rw [hnm] at hNB ⊢
                    replace HZ := Lib.hid (And.intro HZ.out (And.intro hnm hNB.1))
                    replace HA := Lib.hid (HA.out.below hB)
                    replace HA2 := Lib.hid (HA2.out.below hB)
                    replace HI := Lib.hid (HI.out.grow hB)
                    replace HI2 := Lib.hid (HI2.out.grow hB)
                    replace HT := Lib.hid (fun j hj => keep_below hB _ _ (HT.out j hj))
                    replace HW0 := Lib.hid (HW0.out.trans (hB.mono HW0.out.size))
                    replace HUA := Lib.hid (HUA.out.grow hB)
                    replace HR2 := Lib.hid (HR2.out.below hB)
                    replace HUB := Lib.hid (HUB.out.grow hB)
                    have HR1 := Lib.hid hNB
                    clear hNB hB hnm
                    refine hK.out _ _ ?_ (fun hHeld => ?_)
                    · exact ⟨HA.out.2.1, HA.out.2.2.1, HA.out.2.2.2.1, HA2.out.2.1, HA2.out.2.2.1, HA2.out.2.2.2.1⟩
                    clear hK K
                    refine wpAnyH_ready (rs := [8]) (by kernel_rfl) (by simp) ?_
                    refine AllReadyH.cons (o := _) rfl (fun K hK => ?_) ?_
                    · clear hHeld
                      have s0 := HR1.out.2.1
                      have t0 := HR1.out.2.2 0
                      go_simp
                      clear s0 t0
                      obtain ⟨W20, hWn⟩ : ∃ xw9, W19.setCell ⟨r1, 0, none⟩ ua = xw9 := ⟨_, rfl⟩
                      rw [hWn]
                      replace HUA := Lib.hid (show IsV W20 _ ua A by rw [← hWn]; exact HUA.out.keep (Kept.setCell _ _ _ (fun h => by have := HZ.out; simp only at h; omega)) (fun _ _ h => h))
                      replace HUB := Lib.hid (show IsV W20 _ ub B by rw [← hWn]; exact HUB.out.keep (Kept.setCell _ _ _ (fun h => by have := HZ.out; simp only at h; omega)) (fun _ _ h => h))
                      replace HW0 := Lib.hid (show Below wr.heap.size wr W20 by rw [← hWn]; exact HW0.out.setCell (p := ⟨r1, 0, none⟩) (by have := HZ.out; simp only; omega) _)
                      replace HR1 := Lib.hid (show At1 W20 r1 ua by rw [← hWn]; exact At1.put1 HR1.out _)
                      replace HR2 := Lib.hid (show At1 W20 r2 .nilIface by rw [← hWn]; exact HR2.out.grown (grown_setCell _ ⟨r1, 0, none⟩ _) (by have := HZ.out; simp; omega))
                      replace HA := Lib.hid (show At3 W20 w.heap.size (.slice so p.s.length sc) (.slice io n ic) (.int .i64 f) by rw [← hWn]; exact HA.out.grown (grown_setCell _ ⟨r1, 0, none⟩ _) (by have := HZ.out; have := HLTW.out; simp; omega))
                      replace HA2 := Lib.hid (show At3 W20 (w.heap.size + 1) (.slice qo q.s.length qc) (.slice jo m jc) (.int .i64 g) by rw [← hWn]; exact HA2.out.grown (grown_setCell _ ⟨r1, 0, none⟩ _) (by have := HZ.out; have := HLTW.out; simp; omega))
                      clear hWn
                      refine hK.out _ _ ?_ (fun hHeld => ?_)
                      · exact ⟨HA.out.2.1, HA.out.2.2.1, HA.out.2.2.2.1, HA2.out.2.1, HA2.out.2.2.1, HA2.out.2.2.2.1⟩
                      clear hK K
                      refine wpAnyH_ready (rs := [9]) (by kernel_rfl) (by simp) ?_
                      refine AllReadyH.cons (o := _) rfl (fun K hK => ?_) ?_
                      · clear hHeld
                        have s0 := HR2.out.2.1
                        have t0 := HR2.out.2.2 0
                        go_simp
                        clear s0 t0
                        obtain ⟨W21, hWn⟩ : ∃ xw9, W20.setCell ⟨r2, 0, none⟩ ub = xw9 := ⟨_, rfl⟩
                        rw [hWn]
                        replace HUA := Lib.hid (show IsV W21 _ ua A by rw [← hWn]; exact HUA.out.keep (Kept.setCell _ _ _ (fun h => by have := HZ.out; simp only at h; omega)) (fun _ _ h => h))
                        replace HUB := Lib.hid (show IsV W21 _ ub B by rw [← hWn]; exact HUB.out.keep (Kept.setCell _ _ _ (fun h => by have := HZ.out; simp only at h; omega)) (fun _ _ h => h))
                        replace HW0 := Lib.hid (show Below wr.heap.size wr W21 by rw [← hWn]; exact HW0.out.setCell (p := ⟨r2, 0, none⟩) (by have := HZ.out; simp only; omega) _)
                        replace HR2 := Lib.hid (show At1 W21 r2 ub by rw [← hWn]; exact At1.put1 HR2.out _)
                        replace HR1 := Lib.hid (show At1 W21 r1 ua by rw [← hWn]; exact HR1.out.grown (grown_setCell _ ⟨r2, 0, none⟩ _) (by have := HZ.out; simp; omega))
                        replace HA := Lib.hid (show At3 W21 w.heap.size (.slice so p.s.length sc) (.slice io n ic) (.int .i64 f) by rw [← hWn]; exact HA.out.grown (grown_setCell _ ⟨r2, 0, none⟩ _) (by have := HZ.out; have := HLTW.out; simp; omega))
                        replace HA2 := Lib.hid (show At3 W21 (w.heap.size + 1) (.slice qo q.s.length qc) (.slice jo m jc) (.int .i64 g) by rw [← hWn]; exact HA2.out.grown (grown_setCell _ ⟨r2, 0, none⟩ _) (by have := HZ.out; have := HLTW.out; simp; omega))
                        clear hWn
                        refine hK.out _ _ ?_ (fun hHeld => ?_)
                        · exact ⟨HA.out.2.1, HA.out.2.2.1, HA.out.2.2.2.1, HA2.out.2.1, HA2.out.2.2.1, HA2.out.2.2.2.1⟩
                        clear hK K
                        refine wpAnyH_done (by kernel_rfl) ?_ _
                        clear hHeld
                        exact ⟨rfl, _, _, ua, ub, r1, r2, rfl, HR1.out, HR2.out, IsV.any HUA.out, IsV.any HUB.out, HW0.out⟩
                      exact AllReadyH.nil
                    exact AllReadyH.nil
                  exact AllReadyH.nil
                refine AllReadyH.cons (o := _) rfl (fun K hK => ?_) ?_
                · clear hHeld
                  go_simp
                  obtain ⟨W18, hWn⟩ : ∃ xw9, W17.alloc (.cells #[.nilIface] 36) = xw9 := ⟨_, rfl⟩
                  have hB : Below W17.heap.size W17 W18 := by rw [← hWn]; exact below_new _ _
                  have hNB : At1 W18 W17.heap.size (.nilIface) := by rw [← hWn]; exact At1.new _ _ _
                  rw [hWn]
                  clear hWn
                  obtain ⟨r1, hnm⟩ : ∃ x, W17.heap.size = x := ⟨_, rfl⟩
                  rw [hnm] at hNB ⊢
                  replace HZ := Lib.hid (And.intro HZ.out (And.intro hnm hNB.1))
                  replace HA := Lib.hid (HA.out.below hB)
                  replace HA2 := Lib.hid (HA2.out.below hB)
                  replace HI := Lib.hid (HI.out.grow hB)
                  replace HI2 := Lib.hid (HI2.out.grow hB)
                  replace HT := Lib.hid (fun j hj => keep_below hB _ _ (HT.out j hj))
                  replace HW0 := Lib.hid (HW0.out.trans (hB.mono HW0.out.size))
                  replace HUA := Lib.hid (HUA.out.grow hB)
                  replace HR2 := Lib.hid (HR2.out.below hB)
                  have HR1 := Lib.hid hNB
                  clear hNB hB hnm
                  refine hK.out _ _ ?_ (fun hHeld => ?_)
                  · exact ⟨HA.out.2.1, HA.out.2.2.1, HA.out.2.2.2.1, HA2.out.2.1, HA2.out.2.2.1, HA2.out.2.2.2.1⟩
                  clear hK K
                  refine wpAnyH_ready (rs := [4]) (by kernel_rfl) (by simp) ?_
                  refine AllReadyH.cons (o := _) rfl (fun K hK => ?_) ?_
                  · clear hHeld
                    go_simp
                    refine (lof_calls _ q _ md _ HLP.out HI2.out HT.out HC2.out.1).mono ?_
                    rintro e W19 ⟨s4, c4, ub, rfl, hOR, hB⟩
                    replace HZ := Lib.hid (And.intro HZ.out hB.size)
                    replace HA := Lib.hid (HA.out.below hB)
                    replace HA2 := Lib.hid (HA2.out.below hB)
                    replace HI := Lib.hid (HI.out.grow hB)
                    replace HI2 := Lib.hid (HI2.out.grow hB)
                    replace HT := Lib.hid (fun j hj => keep_below hB _ _ (HT.out j hj))
                    replace HW0 := Lib.hid (HW0.out.trans (hB.mono HW0.out.size))
                    replace HUA := Lib.hid (HUA.out.grow hB)
                    replace HR2 := Lib.hid (HR2.out.below hB)
                    replace HR1 := Lib.hid (HR1.out.below hB)
                    have HUB := Lib.hid (show IsV W19 (fun b => W18.heap.size ≤ b ∧ b < W19.heap.size) ub B by rw [← HBB.out]; exact hOR.2.lt)
                    have hsub := HUB.out.store
                    clear hOR
                    clear hB
                    refine hK.out _ _ ?_ (fun hHeld => ?_)
                    · exact ⟨HA.out.2.1, HA.out.2.2.1, HA.out.2.2.2.1, HA2.out.2.1, HA2.out.2.2.1, HA2.out.2.2.2.1⟩
                    clear hK K
                    refine wpAnyH_take (i := 5) (v := ?_) rfl (by kernel_rfl) (by kernel_rfl) (by kernel_rfl) (fun _ _ _ h => absurd h.1 (by simp)) (Or.inl ⟨by rfl, ?_⟩) (by assumption) ?_
                    rotate_left
                    · (intro w hSw; (try dsimp only at hSw); go_simp; try with_reducible rfl)
                    simp only [Act.put, List.getElem_toArray, List.getElem_cons_succ, List.getElem_cons_zero, List.setIfInBounds_toArray, List.set_cons_zero, List.set_cons_succ]
                    refine wpAnyH_ready (rs := [8]) (by kernel_rfl) (by simp) ?_
                    refine AllReadyH.cons (o := _) rfl (fun K hK => ?_) ?_
                    · clear hHeld
                      have s0 := HR1.out.2.1
                      have t0 := HR1.out.2.2 0
                      go_simp
                      clear s0 t0
                      obtain ⟨W20, hWn⟩ : ∃ xw9, W19.setCell ⟨r1, 0, none⟩ ua = xw9 := ⟨_, rfl⟩
                      rw [hWn]
                      replace HUA := Lib.hid (show IsV W20 _ ua A by rw [← hWn]; exact HUA.out.keep (Kept.setCell _ _ _ (fun h => by have := HZ.out; simp only at h; omega)) (fun _ _ h => h))
                      replace HUB := Lib.hid (show IsV W20 _ ub B by rw [← hWn]; exact HUB.out.keep (Kept.setCell _ _ _ (fun h => by have := HZ.out; simp only at h; omega)) (fun _ _ h => h))
                      replace HW0 := Lib.hid (show Below wr.heap.size wr W20 by rw [← hWn]; exact HW0.out.setCell (p := ⟨r1, 0, none⟩) (by have := HZ.out; simp only; omega) _)
                      replace HR1 := Lib.hid (show At1 W20 r1 ua by rw [← hWn]; exact At1.put1 HR1.out _)
                      replace HR2 := Lib.hid (show At1 W20 r2 .nilIface by rw [← hWn]; exact HR2.out.grown (grown_setCell _ ⟨r1, 0, none⟩ _) (by have := HZ.out; simp; omega))
                      replace HA := Lib.hid (show At3 W20 w.heap.size (.slice so p.s.length sc) (.slice io n ic) (.int .i64 f) by rw [← hWn]; exact HA.out.grown (grown_setCell _ ⟨r1, 0, none⟩ _) (by have := HZ.out; have := HLTW.out; simp; omega))
                      replace HA2 := Lib.hid (show At3 W20 (w.heap.size + 1) (.slice qo q.s.length qc) (.slice jo m jc) (.int .i64 g) by rw [← hWn]; exact HA2.out.grown (grown_setCell _ ⟨r1, 0, none⟩ _) (by have := HZ.out; have := HLTW.out; simp; omega))
                      clear hWn
                      refine hK.out _ _ ?_ (fun hHeld => ?_)
                      · exact ⟨HA.out.2.1, HA.out.2.2.1, HA.out.2.2.2.1, HA2.out.2.1, HA2.out.2.2.1, HA2.out.2.2.2.1⟩
                      clear hK K
                      refine wpAnyH_ready (rs := [9]) (by kernel_rfl) (by simp) ?_
                      refine AllReadyH.cons (o := _) rfl (fun K hK => ?_) ?_
                      · clear hHeld
                        have s0 := HR2.out.2.1
                        have t0 := HR2.out.2.2 0
                        go_simp
                        clear s0 t0
                        obtain ⟨W21, hWn⟩ : ∃ xw9, W20.setCell ⟨r2, 0, none⟩ ub = xw9 := ⟨_, rfl⟩
                        rw [hWn]
                        replace HUA := Lib.hid (show IsV W21 _ ua A by rw [← hWn]; exact HUA.out.keep (Kept.setCell _ _ _ (fun h => by have := HZ.out; simp only at h; omega)) (fun _ _ h => h))
                        replace HUB := Lib.hid (show IsV W21 _ ub B by rw [← hWn]; exact HUB.out.keep (Kept.setCell _ _ _ (fun h => by have := HZ.out; simp only at h; omega)) (fun _ _ h => h))
                        replace HW0 := Lib.hid (show Below wr.heap.size wr W21 by rw [← hWn]; exact HW0.out.setCell (p := ⟨r2, 0, none⟩) (by have := HZ.out; simp only; omega) _)
                        replace HR2 := Lib.hid (show At1 W21 r2 ub by rw [← hWn]; exact At1.put1 HR2.out _)
                        replace HR1 := Lib.hid (show At1 W21 r1 ua by rw [← hWn]; exact HR1.out.grown (grown_setCell _ ⟨r2, 0, none⟩ _) (by have := HZ.out; simp; omega))
                        replace HA := Lib.hid (show At3 W21 w.heap.size (.slice so p.s.length sc) (.slice io n ic) (.int .i64 f) by rw [← hWn]; exact HA.out.grown (grown_setCell _ ⟨r2, 0, none⟩ _) (by have := HZ.out; have := HLTW.out; simp; omega))
                        replace HA2 := Lib.hid (show At3 W21 (w.heap.size + 1) (.slice qo q.s.length qc) (.slice jo m jc) (.int .i64 g) by rw [← hWn]; exact HA2.out.grown (grown_setCell _ ⟨r2, 0, none⟩ _) (by have := HZ.out; have := HLTW.out; simp; omega))
                        clear hWn
                        refine hK.out _ _ ?_ (fun hHeld => ?_)
                        · exact ⟨HA.out.2.1, HA.out.2.2.1, HA.out.2.2.2.1, HA2.out.2.1, HA2.out.2.2.1, HA2.out.2.2.2.1⟩
                        clear hK K
                        refine wpAnyH_done (by kernel_rfl) ?_ _
                        clear hHeld
                        exact ⟨rfl, _, _, ua, ub, r1, r2, rfl, HR1.out, HR2.out, IsV.any HUA.out, IsV.any HUB.out, HW0.out⟩
                      exact AllReadyH.nil
                    exact AllReadyH.nil
                  exact AllReadyH.nil
                exact AllReadyH.nil
              exact AllReadyH.nil
            refine AllReadyH.cons (o := _) rfl (fun K hK => ?_) ?_
            · clear hHeld
              go_simp
              obtain ⟨W16, hWn⟩ : ∃ xw9, W15.alloc (.cells #[.nilIface] 36) = xw9 := ⟨_, rfl⟩
              have hB : Below W15.heap.size W15 W16 := by rw [← hWn]; exact below_new _ _
              have hNB : At1 W16 W15.heap.size (.nilIface) := by rw [← hWn]; exact At1.new _ _ _
              rw [hWn]
              clear hWn
              obtain ⟨r1, hnm⟩ : ∃ x, W15.heap.size = x := ⟨_, rfl⟩
              rw [hnm] at hNB ⊢
              replace HZ := Lib.hid (And.intro HZ.out (And.intro hnm hNB.1))
              replace HA := Lib.hid (HA.out.below hB)
              replace HA2 := Lib.hid (HA2.out.below hB)
              replace HI := Lib.hid (HI.out.grow hB)
              replace HI2 := Lib.hid (HI2.out.grow hB)
              replace HT := Lib.hid (fun j hj => keep_below hB _ _ (HT.out j hj))
              replace HW0 := Lib.hid (HW0.out.trans (hB.mono HW0.out.size))
              have HR1 := Lib.hid hNB
              clear hNB hB hnm
              refine hK.out _ _ ?_ (fun hHeld => ?_)
              · exact ⟨HA.out.2.1, HA.out.2.2.1, HA.out.2.2.2.1, HA2.out.2.1, HA2.out.2.2.1, HA2.out.2.2.2.1⟩
              clear hK K
              refine wpAnyH_ready (rs := [1, 7]) (by kernel_rfl) (by simp) ?_
              refine AllReadyH.cons (o := _) rfl (fun K hK => ?_) ?_
              · clear hHeld
                go_simp
                refine (lof_calls _ p _ nd _ HLO.out HI.out HT.out HC1.out.1).mono ?_
                rintro e W17 ⟨s3, c3, ua, rfl, hOR, hB⟩
                replace HZ := Lib.hid (And.intro HZ.out hB.size)
                replace HA := Lib.hid (HA.out.below hB)
                replace HA2 := Lib.hid (HA2.out.below hB)
                replace HI := Lib.hid (HI.out.grow hB)
                replace HI2 := Lib.hid (HI2.out.grow hB)
                replace HT := Lib.hid (fun j hj => keep_below hB _ _ (HT.out j hj))
                replace HW0 := Lib.hid (HW0.out.trans (hB.mono HW0.out.size))
                replace HR1 := Lib.hid (HR1.out.below hB)
                have HUA := Lib.hid (show IsV W17 (fun b => W16.heap.size ≤ b ∧ b < W17.heap.size) ua A by rw [← HAA.out]; exact hOR.2.lt)
                have hsua := HUA.out.store
                clear hOR
                clear hB
                refine hK.out _ _ ?_ (fun hHeld => ?_)
                · exact ⟨HA.out.2.1, HA.out.2.2.1, HA.out.2.2.2.1, HA2.out.2.1, HA2.out.2.2.1, HA2.out.2.2.2.1⟩
                clear hK K
                refine wpAnyH_take (i := 2) (v := ?_) rfl (by kernel_rfl) (by kernel_rfl) (by kernel_rfl) (fun _ _ _ h => absurd h.1 (by simp)) (Or.inl ⟨by rfl, ?_⟩) (by assumption) ?_
                rotate_left
                · (intro w hSw; (try dsimp only at hSw); go_simp; try with_reducible rfl)
                simp only [Act.put, List.getElem_toArray, List.getElem_cons_succ, List.getElem_cons_zero, List.setIfInBounds_toArray, List.set_cons_zero, List.set_cons_succ]
                refine wpAnyH_ready (rs := [4, 7]) (by kernel_rfl) (by simp) ?_
                refine AllReadyH.cons (o := _) rfl (fun K hK => ?_) ?_
                · clear hHeld
                  go_simp
                  refine (lof_calls _ q _ md _ HLP.out HI2.out HT.out HC2.out.1).mono ?_
                  rintro e W18 ⟨s4, c4, ub, rfl, hOR, hB⟩
                  replace HZ := Lib.hid (And.intro HZ.out hB.size)
                  replace HA := Lib.hid (HA.out.below hB)
                  replace HA2 := Lib.hid (HA2.out.below hB)
                  replace HI := Lib.hid (HI.out.grow hB)
                  replace HI2 := Lib.hid (HI2.out.grow hB)
                  replace HT := Lib.hid (fun j hj => keep_below hB _ _ (HT.out j hj))
                  replace HW0 := Lib.hid (HW0.out.trans (hB.mono HW0.out.size))
                  replace HR1 := Lib.hid (HR1.out.below hB)
                  replace HUA := Lib.hid (HUA.out.grow hB)
                  have HUB := Lib.hid (show IsV W18 (fun b => W17.heap.size ≤ b ∧ b < W18.heap.size) ub B by rw [← HBB.out]; exact hOR.2.lt)
                  have hsub := HUB.out.store
                  clear hOR
                  clear hB
                  refine hK.out _ _ ?_ (fun hHeld => ?_)
                  · exact ⟨HA.out.2.1, HA.out.2.2.1, HA.out.2.2.2.1, HA2.out.2.1, HA2.out.2.2.1, HA2.out.2.2.2.1⟩
                  clear hK K
                  refine wpAnyH_take (i := 5) (v := ?_) rfl (by kernel_rfl) (by kernel_rfl) (by kernel_rfl) (fun _ _ _ h => absurd h.1 (by simp)) (Or.inl ⟨by rfl, ?_⟩) (by assumption) ?_
                  rotate_left
                  · (intro w hSw; (try dsimp only at hSw); go_simp; try with_reducible rfl)
                  simp only [Act.put, List.getElem_toArray, List.getElem_cons_succ, List.getElem_cons_zero, List.setIfInBounds_toArray, List.set_cons_zero, List.set_cons_succ]
                  refine wpAnyH_ready (rs := [7]) (by kernel_rfl) (by simp) ?_
                  refine AllReadyH.cons (o := _) rfl (fun K hK => ?_) ?_
                  · clear hHeld
                    go_simp
                    obtain ⟨W19, hWn⟩ : ∃ xw9, W18.alloc (.cells #[.nilIface] 36) = xw9 := ⟨_, rfl⟩
                    have hB : Below W18.heap.size W18 W19 := by rw [← hWn]; exact below_new _ _
                    have hNB : At1 W19 W18.heap.size (.nilIface) := by rw [← hWn]; exact At1.new _ _ _
                    rw [hWn]
                    clear hWn
                    obtain ⟨r2, hnm⟩ : ∃ x, W18.heap.size = x := ⟨_, rfl⟩
                    rw [hnm] at hNB ⊢
                    replace HZ := Lib.hid (And.intro HZ.out (And.intro hnm hNB.1))
                    replace HA := Lib.hid (HA.out.below hB)
                    replace HA2 := Lib.hid (HA2.out.below hB)
                    replace HI := Lib.hid (HI.out.grow hB)
                    replace HI2 := Lib.hid (HI2.out.grow hB)
                    replace HT := Lib.hid (fun j hj => keep_below hB _ _ (HT.out j hj))
                    replace HW0 := Lib.hid (HW0.out.trans (hB.mono HW0.out.size))
                    replace HR1 := Lib.hid (HR1.out.below hB)
                    replace HUA := Lib.hid (HUA.out.grow hB)
                    replace HUB := Lib.hid (HUB.out.grow hB)
                    have HR2 := Lib.hid hNB
                    clear hNB hB hnm
                    refine hK.out _ _ ?_ (fun hHeld => ?_)
                    · exact ⟨HA.out.2.1, HA.out.2.2.1, HA.out.2.2.2.1, HA2.out.2.1, HA2.out.2.2.1, HA2.out.2.2.2.1⟩
                    clear hK K
                    refine wpAnyH_ready (rs := [8]) (by kernel_rfl) (by simp) ?_
                    refine AllReadyH.cons (o := _) rfl (fun K hK => ?_) ?_
                    · clear hHeld
                      have s0 := HR1.out.2.1
                      have t0 := HR1.out.2.2 0
                      go_simp
                      clear s0 t0
                      obtain ⟨W20, hWn⟩ : ∃ xw9, W19.setCell ⟨r1, 0, none⟩ ua = xw9 := ⟨_, rfl⟩
                      rw [hWn]
                      replace HUA := Lib.hid (show IsV W20 _ ua A by rw [← hWn]; exact HUA.out.keep (Kept.setCell _ _ _ (fun h => by have := HZ.out; simp only at h; omega)) (fun _ _ h => h))
                      replace HUB := Lib.hid (show IsV W20 _ ub B by rw [← hWn]; exact HUB.out.keep (Kept.setCell _ _ _ (fun h => by have := HZ.out; simp only at h; omega)) (fun _ _ h => h))
                      replace HW0 := Lib.hid (show Below wr.heap.size wr W20 by rw [← hWn]; exact HW0.out.setCell (p := ⟨r1, 0, none⟩) (by have := HZ.out; simp only; omega) _)
                      replace HR1 := Lib.hid (show At1 W20 r1 ua by rw [← hWn]; exact At1.put1 HR1.out _)
                      replace HR2 := Lib.hid (show At1 W20 r2 .nilIface by rw [← hWn]; exact HR2.out.grown (grown_setCell _ ⟨r1, 0, none⟩ _) (by have := HZ.out; simp; omega))
                      replace HA := Lib.hid (show At3 W20 w.heap.size (.slice so p.s.length sc) (.slice io n ic) (.int .i64 f) by rw [← hWn]; exact HA.out.grown (grown_setCell _ ⟨r1, 0, none⟩ _) (by have := HZ.out; have := HLTW.out; simp; omega))
                      replace HA2 := Lib.hid (show At3 W20 (w.heap.size + 1) (.slice qo q.s.length qc) (.slice jo m jc) (.int .i64 g) by rw [← hWn]; exact HA2.out.grown (grown_setCell _ ⟨r1, 0, none⟩ _) (by have := HZ.out; have := HLTW.out; simp; omega))
                      clear hWn
                      refine hK.out _ _ ?_ (fun hHeld => ?_)
                      · exact ⟨HA.out.2.1, HA.out.2.2.1, HA.out.2.2.2.1, HA2.out.2.1, HA2.out.2.2.1, HA2.out.2.2.2.1⟩
                      clear hK K
                      refine wpAnyH_ready (rs := [9]) (by kernel_rfl) (by simp) ?_
                      refine AllReadyH.cons (o := _) rfl (fun K hK => ?_) ?_
                      · clear hHeld
                        have s0 := HR2.out.2.1
                        have t0 := HR2.out.2.2 0
                        go_simp
                        clear s0 t0
                        obtain ⟨W21, hWn⟩ : ∃ xw9, W20.setCell ⟨r2, 0, none⟩ ub = xw9 := ⟨_, rfl⟩
                        rw [hWn]
                        replace HUA := Lib.hid (show IsV W21 _ ua A by rw [← hWn]; exact HUA.out.keep (Kept.setCell _ _ _ (fun h => by have := HZ.out; simp only at h; omega)) (fun _ _ h => h))
                        replace HUB := Lib.hid (show IsV W21 _ ub B by rw [← hWn]; exact HUB.out.keep (Kept.setCell _ _ _ (fun h => by have := HZ.out; simp only at h; omega)) (fun _ _ h => h))
                        replace HW0 := Lib.hid (show Below wr.heap.size wr W21 by rw [← hWn]; exact HW0.out.setCell (p := ⟨r2, 0, none⟩) (by have := HZ.out; simp only; omega) _)
                        replace HR2 := Lib.hid (show At1 W21 r2 ub by rw [← hWn]; exact At1.put1 HR2.out _)
                        replace HR1 := Lib.hid (show At1 W21 r1 ua by rw [← hWn]; exact HR1.out.grown (grown_setCell _ ⟨r2, 0, none⟩ _) (by have := HZ.out; simp; omega))
                        replace HA := Lib.hid (show At3 W21 w.heap.size (.slice so p.s.length sc) (.slice io n ic) (.int .i64 f) by rw [← hWn]; exact HA.out.grown (grown_setCell _ ⟨r2, 0, none⟩ _) (by have := HZ.out; have := HLTW.out; simp; omega))
                        replace HA2 := Lib.hid (show At3 W21 (w.heap.size + 1) (.slice qo q.s.length qc) (.slice jo m jc) (.int .i64 g) by rw [← hWn]; exact HA2.out.grown (grown_setCell _ ⟨r2, 0, none⟩ _) (by have := HZ.out; have := HLTW.out; simp; omega))
                        clear hWn
                        refine hK.out _ _ ?_ (fun hHeld => ?_)
                        · exact ⟨HA.out.2.1, HA.out.2.2.1, HA.out.2.2.2.1, HA2.out.2.1, HA2.out.2.2.1, HA2.out.2.2.2.1⟩
                        clear hK K
                        refine wpAnyH_done (by kernel_rfl) ?_ _
                        clear hHeld
                        exact ⟨rfl, _, _, ua, ub, r1, r2, rfl, HR1.out, HR2.out, IsV.any HUA.out, IsV.any HUB.out, HW0.out⟩
                      exact AllReadyH.nil
                    exact AllReadyH.nil
                  exact AllReadyH.nil
                refine AllReadyH.cons (o := _) rfl (fun K hK => ?_) ?_
                · clear hHeld
                  go_simp
                  obtain ⟨W18, hWn⟩ : ∃ xw9, W17.alloc (.cells #[.nilIface] 36) = xw9 := ⟨_, rfl⟩
                  have hB : Below W17.heap.size W17 W18 := by rw [← hWn]; exact below_new _ _
                  have hNB : At1 W18 W17.heap.size (.nilIface) := by rw [← hWn]; exact At1.new _ _ _
                  rw [hWn]
                  clear hWn
                  obtain ⟨r2, hnm⟩ : ∃ x, W17.heap.size = x := ⟨_, rfl⟩
                  rw [hnm] at hNB ⊢
                  replace HZ := Lib.hid (And.intro HZ.out (And.intro hnm hNB.1))
                  replace HA := Lib.hid (HA.out.below hB)
                  replace HA2 := Lib.hid (HA2.out.below hB)
                  replace HI := Lib.hid (HI.out.grow hB)
                  replace HI2 := Lib.hid (HI2.out.grow hB)
                  replace HT := Lib.hid (fun j hj => keep_below hB _ _ (HT.out j hj))
                  replace HW0 := Lib.hid (HW0.out.trans (hB.mono HW0.out.size))
                  replace HR1 := Lib.hid (HR1.out.below hB)
                  replace HUA := Lib.hid (HUA.out.grow hB)
                  have HR2 := Lib.hid hNB
                  clear hNB hB hnm
                  refine hK.out _ _ ?_ (fun hHeld => ?_)
                  · exact ⟨HA.out.2.1, HA.out.2.2.1, HA.out.2.2.2.1, HA2.out.2.1, HA2.out.2.2.1, HA2.out.2.2.2.1⟩
                  clear hK K
                  refine wpAnyH_ready (rs := [4]) (by kernel_rfl) (by simp) ?_
                  refine AllReadyH.cons (o := _) rfl (fun K hK => ?_) ?_
                  · clear hHeld
                    go_simp
                    refine (lof_calls _ q _ md _ HLP.out HI2.out HT.out HC2.out.1).mono ?_
                    rintro e W19 ⟨s4, c4, ub, rfl, hOR, hB⟩
                    replace HZ := Lib.hid (And.intro HZ.out hB.size)
                    replace HA := Lib.hid (HA.out.below hB)
                    replace HA2 := Lib.hid (HA2.out.below hB)
                    replace HI := Lib.hid (HI.out.grow hB)
                    replace HI2 := Lib.hid (HI2.out.grow hB)
                    replace HT := Lib.hid (fun j hj => keep_below hB _ _ (HT.out j hj))
                    replace HW0 := Lib.hid (HW0.out.trans (hB.mono HW0.out.size))
                    replace HR1 := Lib.hid (HR1.out.below hB)
                    replace HUA := Lib.hid (HUA.out.grow hB)
                    replace HR2 := Lib.hid (HR2.out.below hB)
                    have HUB := Lib.hid (show IsV W19 (fun b => W18.heap.size ≤ b ∧ b < W19.heap.size) ub B by rw [← HBB.out]; exact hOR.2.lt)
                    have hsub := HUB.out.store
                    clear hOR
                    clear hB
                    refine hK.out _ _ ?_ (fun hHeld => ?_)
                    · exact ⟨HA.out.2.1, HA.out.2.2.1, HA.out.2.2.2.1, HA2.out.2.1, HA2.out.2.2.1, HA2.out.2.2.2.1⟩
                    clear hK K
                    refine wpAnyH_take (i := 5) (v := ?_) rfl (by kernel_rfl) (by kernel_rfl) (by kernel_rfl) (fun _ _ _ h => absurd h.1 (by simp)) (Or.inl ⟨by rfl, ?_⟩) (by assumption) ?_
                    rotate_left
                    · (intro w hSw; (try dsimp only at hSw); go_simp; try with_reducible rfl)
                    simp only [Act.put, List.getElem_toArray, List.getElem_cons_succ, List.getElem_cons_zero, List.setIfInBounds_toArray, List.set_cons_zero, List.set_cons_succ]
                    refine wpAnyH_ready (rs := [8]) (by kernel_rfl) (by simp) ?_
                    refine AllReadyH.cons (o := _) rfl (fun K hK => ?_) ?_
                    · clear hHeld
                      have s0 := HR1.out.2.1
                      have t0 := HR1.out.2.2 0
                      go_simp
                      clear s0 t0
                      obtain ⟨W20, hWn⟩ : ∃ xw9, W19.setCell ⟨r1, 0, none⟩ ua = xw9 := ⟨_, rfl⟩
                      rw [hWn]
                      replace HUA := Lib.hid (show IsV W20 _ ua A by rw [← hWn]; exact HUA.out.keep (Kept.setCell _ _ _ (fun h => by have := HZ.out; simp only at h; omega)) (fun _ _ h => h))
                      replace HUB := Lib.hid (show IsV W20 _ ub B by rw [← hWn]; exact HUB.out.keep (Kept.setCell _ _ _ (fun h => by have := HZ.out; simp only at h; omega)) (fun _ _ h => h))
                      replace HW0 := Lib.hid (show Below wr.heap.size wr W20 by rw [← hWn]; exact HW0.out.setCell (p := ⟨r1, 0, none⟩) (by have := HZ.out; simp only; omega) _)
                      replace HR1 := Lib.hid (show At1 W20 r1 ua by rw [← hWn]; exact At1.put1 HR1.out _)
                      replace HR2 := Lib.hid (show At1 W20 r2 .nilIface by rw [← hWn]; exact HR2.out.grown (grown_setCell _ ⟨r1, 0, none⟩ _) (by have := HZ.out; simp; omega))
                      replace HA := Lib.hid (show At3 W20 w.heap.size (.slice so p.s.length sc) (.slice io n ic) (.int .i64 f) by rw [← hWn]; exact HA.out.grown (grown_setCell _ ⟨r1, 0, none⟩ _) (by have := HZ.out; have := HLTW.out; simp; omega))
                      replace HA2 := Lib.hid (show At3 W20 (w.heap.size + 1) (.slice qo q.s.length qc) (.slice jo m jc) (.int .i64 g) by rw [← hWn]; exact HA2.out.grown (grown_setCell _ ⟨r1, 0, none⟩ _) (by have := HZ.out; have := HLTW.out; simp; omega))
                      clear hWn
                      refine hK.out _ _ ?_ (fun hHeld => ?_)
                      · exact ⟨HA.out.2.1, HA.out.2.2.1, HA.out.2.2.2.1, HA2.out.2.1, HA2.out.2.2.1, HA2.out.2.2.2.1⟩
                      clear hK K
                      refine wpAnyH_ready (rs := [9]) (by kernel_rfl) (by simp) ?_
                      refine AllReadyH.cons (o := _) rfl (fun K hK => ?_) ?_
                      · clear hHeld
                        have s0 := HR2.out.2.1
                        have t0 := HR2.out.2.2 0
                        go_simp
                        clear s0 t0
                        obtain ⟨W21, hWn⟩ : ∃ xw9, W20.setCell ⟨r2, 0, none⟩ ub = xw9 := ⟨_, rfl⟩
                        rw [hWn]
                        replace HUA := Lib.hid (show IsV W21 _ ua A by rw [← hWn]; exact HUA.out.keep (Kept.setCell _ _ _ (fun h => by have := HZ.out; simp only at h; omega)) (fun _ _ h => h))
                        replace HUB := Lib.hid (show IsV W21 _ ub B by rw [← hWn]; exact HUB.out.keep (Kept.setCell _ _ _ (fun h => by have := HZ.out; simp only at h; omega)) (fun _ _ h => h))
                        replace HW0 := Lib.hid (show Below wr.heap.size wr W21 by rw [← hWn]; exact HW0.out.setCell (p := ⟨r2, 0, none⟩) (by have := HZ.out; simp only; omega) _)
                        replace HR2 := Lib.hid (show At1 W21 r2 ub by rw [← hWn]; exact At1.put1 HR2.out _)
                        replace HR1 := Lib.hid (show At1 W21 r1 ua by rw [← hWn]; exact HR1.out.grown (grown_setCell _ ⟨r2, 0, none⟩ _) (by have := HZ.out; simp; omega))
                        replace HA := Lib.hid (show At3 W21 w.heap.size (.slice so p.s.length sc) (.slice io n ic) (.int .i64 f) by rw [← hWn]; exact HA.out.grown (grown_setCell _ ⟨r2, 0, none⟩ _) (by have := HZ.out; have := HLTW.out; simp; omega))
                        replace HA2 := Lib.hid (show At3 W21 (w.heap.size + 1) (.slice qo q.s.length qc) (.slice jo m jc) (.int .i64 g) by rw [← hWn]; exact HA2.out.grown (grown_setCell _ ⟨r2, 0, none⟩ _) (by have := HZ.out; have := HLTW.out; simp; omega))
                        clear hWn
                        refine hK.out _ _ ?_ (fun hHeld => ?_)
                        · exact ⟨HA.out.2.1, HA.out.2.2.1, HA.out.2.2.2.1, HA2.out.2.1, HA2.out.2.2.1, HA2.out.2.2.2.1⟩
                        clear hK K
                        refine wpAnyH_done (by kernel_rfl) ?_ _
                        clear hHeld
                        exact ⟨rfl, _, _, ua, ub, r1, r2, rfl, HR1.out, HR2.out, IsV.any HUA.out, IsV.any HUB.out, HW0.out⟩
                      exact AllReadyH.nil
                    exact AllReadyH.nil
                  exact AllReadyH.nil
                exact AllReadyH.nil
              refine AllReadyH.cons (o := _) rfl (fun K hK => ?_) ?_
              · clear hHeld
                go_simp
                obtain ⟨W17, hWn⟩ : ∃ xw9, W16.alloc (.cells #[.nilIface] 36) = xw9 := ⟨_, rfl⟩
                have hB : Below W16.heap.size W16 W17 := by rw [← hWn]; exact below_new _ _
                have hNB : At1 W17 W16.heap.size (.nilIface) := by rw [← hWn]; exact At1.new _ _ _
                rw [hWn]
                clear hWn
                obtain ⟨r2, hnm⟩ : ∃ x, W16.heap.size = x := ⟨_, rfl⟩
                rw [hnm] at hNB ⊢
                replace HZ := Lib.hid (And.intro HZ.out (And.intro hnm hNB.1))
                replace HA := Lib.hid (HA.out.below hB)
                replace HA2 := Lib.hid (HA2.out.below hB)
                replace HI := Lib.hid (HI.out.grow hB)
                replace HI2 := Lib.hid (HI2.out.grow hB)
                replace HT := Lib.hid (fun j hj => keep_below hB _ _ (HT.out j hj))
                replace HW0 := Lib.hid (HW0.out.trans (hB.mono HW0.out.size))
                replace HR1 := Lib.hid (HR1.out.below hB)
                have HR2 := Lib.hid hNB
                clear hNB hB hnm
                refine hK.out _ _ ?_ (fun hHeld => ?_)
                · exact ⟨HA.out.2.1, HA.out.2.2.1, HA.out.2.2.2.1, HA2.out.2.1, HA2.out.2.2.1, HA2.out.2.2.2.1⟩
                clear hK K
                refine wpAnyH_ready (rs := [1]) (by kernel_rfl) (by simp) ?_
                refine AllReadyH.cons (o := _) rfl (fun K hK => ?_) ?_
                · clear hHeld
                  go_simp
                  refine (lof_calls _ p _ nd _ HLO.out HI.out HT.out HC1.out.1).mono ?_
                  rintro e W18 ⟨s3, c3, ua, rfl, hOR, hB⟩
                  replace HZ := Lib.hid (And.intro HZ.out hB.size)
                  replace HA := Lib.hid (HA.out.below hB)
                  replace HA2 := Lib.hid (HA2.out.below hB)
                  replace HI := Lib.hid (HI.out.grow hB)
                  replace HI2 := Lib.hid (HI2.out.grow hB)
                  replace HT := Lib.hid (fun j hj => keep_below hB _ _ (HT.out j hj))
                  replace HW0 := Lib.hid (HW0.out.trans (hB.mono HW0.out.size))
                  replace HR1 := Lib.hid (HR1.out.below hB)
                  replace HR2 := Lib.hid (HR2.out.below hB)
                  have HUA := Lib.hid (show IsV W18 (fun b => W17.heap.size ≤ b ∧ b < W18.heap.size) ua A by rw [← HAA.out]; exact hOR.2.lt)
                  have hsua := HUA.out.store
                  clear hOR
                  clear hB
                  refine hK.out _ _ ?_ (fun hHeld => ?_)
                  · exact ⟨HA.out.2.1, HA.out.2.2.1, HA.out.2.2.2.1, HA2.out.2.1, HA2.out.2.2.1, HA2.out.2.2.2.1⟩
                  clear hK K
                  refine wpAnyH_take (i := 2) (v := ?_) rfl (by kernel_rfl) (by kernel_rfl) (by kernel_rfl) (fun _ _ _ h => absurd h.1 (by simp)) (Or.inl ⟨by rfl, ?_⟩) (by assumption) ?_
                  rotate_left
                  · (intro w hSw; (try dsimp only at hSw); go_simp; try with_reducible rfl)
                  simp only [Act.put, List.getElem_toArray, List.getElem_cons_succ, List.getElem_cons_zero, List.setIfInBounds_toArray, List.set_cons_zero, List.set_cons_succ]
                  refine wpAnyH_ready (rs := [4]) (by kernel_rfl) (by simp) ?_
                  refine AllReadyH.cons (o := _) rfl (fun K hK => ?_) ?_
                  · clear hHeld
                    go_simp
                    refine (lof_calls _ q _ md _ HLP.out HI2.out HT.out HC2.out.1).mono ?_
                    rintro e W19 ⟨s4, c4, ub, rfl, hOR, hB⟩
                    replace HZ := Lib.hid (And.intro HZ.out hB.size)
                    replace HA := Lib.hid (HA.out.below hB)
                    replace HA2 := Lib.hid (HA2.out.below hB)
                    replace HI := Lib.hid (HI.out.grow hB)
                    replace HI2 := Lib.hid (HI2.out.grow hB)
                    replace HT := Lib.hid (fun j hj => keep_below hB _ _ (HT.out j hj))
                    replace HW0 := Lib.hid (HW0.out.trans (hB.mono HW0.out.size))
                    replace HR1 := Lib.hid (HR1.out.below hB)
                    replace HR2 := Lib.hid (HR2.out.below hB)
                    replace HUA := Lib.hid (HUA.out.grow hB)
                    have HUB := Lib.hid (show IsV W19 (fun b => W18.heap.size ≤ b ∧ b < W19.heap.size) ub B by rw [← HBB.out]; exact hOR.2.lt)
                    have hsub := HUB.out.store
                    clear hOR
                    clear hB
                    refine hK.out _ _ ?_ (fun hHeld => ?_)
                    · exact ⟨HA.out.2.1, HA.out.2.2.1, HA.out.2.2.2.1, HA2.out.2.1, HA2.out.2.2.1, HA2.out.2.2.2.1⟩
                    clear hK K
                    refine wpAnyH_take (i := 5) (v := ?_) rfl (by kernel_rfl) (by kernel_rfl) (by kernel_rfl) (fun _ _ _ h => absurd h.1 (by simp)) (Or.inl ⟨by rfl, ?_⟩) (by assumption) ?_
                    rotate_left
                    · (intro w hSw; (try dsimp only at hSw); go_simp; try with_reducible rfl)
                    simp only [Act.put, List.getElem_toArray, List.getElem_cons_succ, List.getElem_cons_zero, List.setIfInBounds_toArray, List.set_cons_zero, List.set_cons_succ]
                    refine wpAnyH_ready (rs := [8]) (by kernel_rfl) (by simp) ?_
                    refine AllReadyH.cons (o := _) rfl (fun K hK => ?_) ?_
                    · clear hHeld
                      have s0 := HR1.out.2.1
                      have t0 := HR1.out.2.2 0
                      go_simp
                      clear s0 t0
                      obtain ⟨W20, hWn⟩ : ∃ xw9, W19.setCell ⟨r1, 0, none⟩ ua = xw9 := ⟨_, rfl⟩
                      rw [hWn]
                      replace HUA := Lib.hid (show IsV W20 _ ua A by rw [← hWn]; exact HUA.out.keep (Kept.setCell _ _ _ (fun h => by have := HZ.out; simp only at h; omega)) (fun _ _ h => h))
                      replace HUB := Lib.hid (show IsV W20 _ ub B by rw [← hWn]; exact HUB.out.keep (Kept.setCell _ _ _ (fun h => by have := HZ.out; simp only at h; omega)) (fun _ _ h => h))
                      replace HW0 := Lib.hid (show Below wr.heap.size wr W20 by rw [← hWn]; exact HW0.out.setCell (p := ⟨r1, 0, none⟩) (by have := HZ.out; simp only; omega) _)
                      replace HR1 := Lib.hid (show At1 W20 r1 ua by rw [← hWn]; exact At1.put1 HR1.out _)
                      replace HR2 := Lib.hid (show At1 W20 r2 .nilIface by rw [← hWn]; exact HR2.out.grown (grown_setCell _ ⟨r1, 0, none⟩ _) (by have := HZ.out; simp; omega))
                      replace HA := Lib.hid (show At3 W20 w.heap.size (.slice so p.s.length sc) (.slice io n ic) (.int .i64 f) by rw [← hWn]; exact HA.out.grown (grown_setCell _ ⟨r1, 0, none⟩ _) (by have := HZ.out; have := HLTW.out; simp; omega))
                      replace HA2 := Lib.hid (show At3 W20 (w.heap.size + 1) (.slice qo q.s.length qc) (.slice jo m jc) (.int .i64 g) by rw [← hWn]; exact HA2.out.grown (grown_setCell _ ⟨r1, 0, none⟩ _) (by have := HZ.out; have := HLTW.out; simp; omega))
                      clear hWn
                      refine hK.out _ _ ?_ (fun hHeld => ?_)
                      · exact ⟨HA.out.2.1, HA.out.2.2.1, HA.out.2.2.2.1, HA2.out.2.1, HA2.out.2.2.1, HA2.out.2.2.2.1⟩
                      clear hK K
                      refine wpAnyH_ready (rs := [9]) (by kernel_rfl) (by simp) ?_
                      refine AllReadyH.cons (o := _) rfl (fun K hK => ?_) ?_
                      · clear hHeld
                        have s0 := HR2.out.2.1
                        have t0 := HR2.out.2.2 0
                        go_simp
                        clear s0 t0
                        obtain ⟨W21, hWn⟩ : ∃ xw9, W20.setCell ⟨r2, 0, none⟩ ub = xw9 := ⟨_, rfl⟩
                        rw [hWn]
                        replace HUA := Lib.hid (show IsV W21 _ ua A by rw [← hWn]; exact HUA.out.keep (Kept.setCell _ _ _ (fun h => by have := HZ.out; simp only at h; omega)) (fun _ _ h => h))
                        replace HUB := Lib.hid (show IsV W21 _ ub B by rw [← hWn]; exact HUB.out.keep (Kept.setCell _ _ _ (fun h => by have := HZ.out; simp only at h; omega)) (fun _ _ h => h))
                        replace HW0 := Lib.hid (show Below wr.heap.size wr W21 by rw [← hWn]; exact HW0.out.setCell (p := ⟨r2, 0, none⟩) (by have := HZ.out; simp only; omega) _)
                        replace HR2 := Lib.hid (show At1 W21 r2 ub by rw [← hWn]; exact At1.put1 HR2.out _)
                        replace HR1 := Lib.hid (show At1 W21 r1 ua by rw [← hWn]; exact HR1.out.grown (grown_setCell _ ⟨r2, 0, none⟩ _) (by have := HZ.out; simp; omega))
                        replace HA := Lib.hid (show At3 W21 w.heap.size (.slice so p.s.length sc) (.slice io n ic) (.int .i64 f) by rw [← hWn]; exact HA.out.grown (grown_setCell _ ⟨r2, 0, none⟩ _) (by have := HZ.out; have := HLTW.out; simp; omega))
                        replace HA2 := Lib.hid (show At3 W21 (w.heap.size + 1) (.slice qo q.s.length qc) (.slice jo m jc) (.int .i64 g) by rw [← hWn]; exact HA2.out.grown (grown_setCell _ ⟨r2, 0, none⟩ _) (by have := HZ.out; have := HLTW.out; simp; omega))
                        clear hWn
                        refine hK.out _ _ ?_ (fun hHeld => ?_)
                        · exact ⟨HA.out.2.1, HA.out.2.2.1, HA.out.2.2.2.1, HA2.out.2.1, HA2.out.2.2.1, HA2.out.2.2.2.1⟩
                        clear hK K
                        refine wpAnyH_done (by kernel_rfl) ?_ _
                        clear hHeld
                        exact ⟨rfl, _, _, ua, ub, r1, r2, rfl, HR1.out, HR2.out, IsV.any HUA.out, IsV.any HUB.out, HW0.out⟩
                      exact AllReadyH.nil
                    exact AllReadyH.nil
                  exact AllReadyH.nil
                exact AllReadyH.nil
              exact AllReadyH.nil
            refine AllReadyH.cons (o := _) rfl (fun K hK => ?_) ?_
            · clear hHeld
              go_simp
              obtain ⟨W16, hWn⟩ : ∃ xw9, W15.alloc (.cells #[.nilIface] 36) = xw9 := ⟨_, rfl⟩
              have hB : Below W15.heap.size W15 W16 := by rw [← hWn]; exact below_new _ _
              have hNB : At1 W16 W15.heap.size (.nilIface) := by rw [← hWn]; exact At1.new _ _ _
              rw [hWn]
              clear hWn
              obtain ⟨r2, hnm⟩ : ∃ x, W15.heap.size = x := ⟨_, rfl⟩
              rw [hnm] at hNB ⊢
              replace HZ := Lib.hid (And.intro HZ.out (And.intro hnm hNB.1))
              replace HA := Lib.hid (HA.out.below hB)
              replace HA2 := Lib.hid (HA2.out.below hB)
              replace HI := Lib.hid (HI.out.grow hB)
              replace HI2 := Lib.hid (HI2.out.grow hB)
              replace HT := Lib.hid (fun j hj => keep_below hB _ _ (HT.out j hj))
              replace HW0 := Lib.hid (HW0.out.trans (hB.mono HW0.out.size))
              have HR2 := Lib.hid hNB
              clear hNB hB hnm
              refine hK.out _ _ ?_ (fun hHeld => ?_)
              · exact ⟨HA.out.2.1, HA.out.2.2.1, HA.out.2.2.2.1, HA2.out.2.1, HA2.out.2.2.1, HA2.out.2.2.2.1⟩
              clear hK K
              refine wpAnyH_ready (rs := [1, 6]) (by kernel_rfl) (by simp) ?_
              refine AllReadyH.cons (o := _) rfl (fun K hK => ?_) ?_
              · clear hHeld
                go_simp
                refine (lof_calls _ p _ nd _ HLO.out HI.out HT.out HC1.out.1).mono ?_
                rintro e W17 ⟨s3, c3, ua, rfl, hOR, hB⟩
                replace HZ := Lib.hid (And.intro HZ.out hB.size)
                replace HA := Lib.hid (HA.out.below hB)
                replace HA2 := Lib.hid (HA2.out.below hB)
                replace HI := Lib.hid (HI.out.grow hB)
                replace HI2 := Lib.hid (HI2.out.grow hB)
                replace HT := Lib.hid (fun j hj => keep_below hB _ _ (HT.out j hj))
                replace HW0 := Lib.hid (HW0.out.trans (hB.mono HW0.out.size))
                replace HR2 := Lib.hid (HR2.out.below hB)
                have HUA := Lib.hid (show IsV W17 (fun b => W16.heap.size ≤ b ∧ b < W17.heap.size) ua A by rw [← HAA.out]; exact hOR.2.lt)
                have hsua := HUA.out.store
                clear hOR
                clear hB
                refine hK.out _ _ ?_ (fun hHeld => ?_)
                · exact ⟨HA.out.2.1, HA.out.2.2.1, HA.out.2.2.2.1, HA2.out.2.1, HA2.out.2.2.1, HA2.out.2.2.2.1⟩
                clear hK K
                refine wpAnyH_take (i := 2) (v := ?_) rfl (by kernel_rfl) (by kernel_rfl) (by kernel_rfl) (fun _ _ _ h => absurd h.1 (by simp)) (Or.inl ⟨by rfl, ?_⟩) (by assumption) ?_
                rotate_left
                · (intro w hSw; (try dsimp only at hSw); go_simp; try with_reducible rfl)
                simp only [Act.put, List.getElem_toArray, List.getElem_cons_succ, List.getElem_cons_zero, List.setIfInBounds_toArray, List.set_cons_zero, List.set_cons_succ]
                refine wpAnyH_ready (rs := [4, 6]) (by kernel_rfl) (by simp) ?_
                refine AllReadyH.cons (o := _) rfl (fun K hK => ?_) ?_
                · clear hHeld
                  go_simp
                  refine (lof_calls _ q _ md _ HLP.out HI2.out HT.out HC2.out.1).mono ?_
                  rintro e W18 ⟨s4, c4, ub, rfl, hOR, hB⟩
                  replace HZ := Lib.hid (And.intro HZ.out hB.size)
                  replace HA := Lib.hid (HA.out.below hB)
                  replace HA2 := Lib.hid (HA2.out.below hB)
                  replace HI := Lib.hid (HI.out.grow hB)
                  replace HI2 := Lib.hid (HI2.out.grow hB)
                  replace HT := Lib.hid (fun j hj => keep_below hB _ _ (HT.out j hj))
                  replace HW0 := Lib.hid (HW0.out.trans (hB.mono HW0.out.size))
                  replace HR2 := Lib.hid (HR2.out.below hB)
                  replace HUA := Lib.hid (HUA.out.grow hB)
                  have HUB := Lib.hid (show IsV W18 (fun b => W17.heap.size ≤ b ∧ b < W18.heap.size) ub B by rw [← HBB.out]; exact hOR.2.lt)
                  have hsub := HUB.out.store
                  clear hOR
                  clear hB
                  refine hK.out _ _ ?_ (fun hHeld => ?_)
                  · exact ⟨HA.out.2.1, HA.out.2.2.1, HA.out.2.2.2.1, HA2.out.2.1, HA2.out.2.2.1, HA2.out.2.2.2.1⟩
                  clear hK K
                  refine wpAnyH_take (i := 5) (v := ?_) rfl (by kernel_rfl) (by kernel_rfl) (by kernel_rfl) (fun _ _ _ h => absurd h.1 (by simp)) (Or.inl ⟨by rfl, ?_⟩) (by assumption) ?_
                  rotate_left
                  · (intro w hSw; (try dsimp only at hSw); go_simp; try with_reducible rfl)
                  simp only [Act.put, List.getElem_toArray, List.getElem_cons_succ, List.getElem_cons_zero, List.setIfInBounds_toArray, List.set_cons_zero, List.set_cons_succ]
                  refine wpAnyH_ready (rs := [6]) (by kernel_rfl) (by simp) ?_
                  refine AllReadyH.cons (o := _) rfl (fun K hK => ?_) ?_
                  · clear hHeld
                    go_simp
                    obtain ⟨W19, hWn⟩ : ∃ xw9, W18.alloc (.cells #[.nilIface] 36) = xw9 := ⟨_, rfl⟩
                    have hB : Below W18.heap.size W18 W19 := by rw [← hWn]; exact below_new _ _
                    have hNB : At1 W19 W18.heap.size (.nilIface) := by rw [← hWn]; exact At1.new _ _ _
                    rw [hWn]
                    clear hWn
                    obtain ⟨r1, hnm⟩ : ∃ x, W18.heap.size = x := ⟨_, rfl⟩
                    rw [hnm] at hNB ⊢
                    replace HZ := Lib.hid (And.intro HZ.out (And.intro hnm hNB.1))
                    replace HA := Lib.hid (HA.out.below hB)
                    replace HA2 := Lib.hid (HA2.out.below hB)
                    replace HI := Lib.hid (HI.out.grow hB)
                    replace HI2 := Lib.hid (HI2.out.grow hB)
                    replace HT := Lib.hid (fun j hj => keep_below hB _ _ (HT.out j hj))
                    replace HW0 := Lib.hid (HW0.out.trans (hB.mono HW0.out.size))
                    replace HR2 := Lib.hid (HR2.out.below hB)
                    replace HUA := Lib.hid (HUA.out.grow hB)
                    replace HUB := Lib.hid (HUB.out.grow hB)
                    have HR1 := Lib.hid hNB
                    clear hNB hB hnm
                    refine hK.out _ _ ?_ (fun hHeld => ?_)
                    · exact ⟨HA.out.2.1, HA.out.2.2.1, HA.out.2.2.2.1, HA2.out.2.1, HA2.out.2.2.1, HA2.out.2.2.2.1⟩
                    clear hK K
                    refine wpAnyH_ready (rs := [8]) (by kernel_rfl) (by simp) ?_
                    refine AllReadyH.cons (o := _) rfl (fun K hK => ?_) ?_
                    · clear hHeld
                      have s0 := HR1.out.2.1
                      have t0 := HR1.out.2.2 0
                      go_simp
                      clear s0 t0
                      obtain ⟨W20, hWn⟩ : ∃ xw9, W19.setCell ⟨r1, 0, none⟩ ua = xw9 := ⟨_, rfl⟩
                      rw [hWn]
                      replace HUA := Lib.hid (show IsV W20 _ ua A by rw [← hWn]; exact HUA.out.keep (Kept.setCell _ _ _ (fun h => by have := HZ.out; simp only at h; omega)) (fun _ _ h => h))
                      replace HUB := Lib.hid (show IsV W20 _ ub B by rw [← hWn]; exact HUB.out.keep (Kept.setCell _ _ _ (fun h => by have := HZ.out; simp only at h; omega)) (fun _ _ h => h))
                      replace HW0 := Lib.hid (show Below wr.heap.size wr W20 by rw [← hWn]; exact HW0.out.setCell (p := ⟨r1, 0, none⟩) (by have := HZ.out; simp only; omega) _)
                      replace HR1 := Lib.hid (show At1 W20 r1 ua by rw [← hWn]; exact At1.put1 HR1.out _)
                      replace HR2 := Lib.hid (show At1 W20 r2 .nilIface by rw [← hWn]; exact HR2.out.grown (grown_setCell _ ⟨r1, 0, none⟩ _) (by have := HZ.out; simp; omega))
                      replace HA := Lib.hid (show At3 W20 w.heap.size (.slice so p.s.length sc) (.slice io n ic) (.int .i64 f) by rw [← hWn]; exact HA.out.grown (grown_setCell _ ⟨r1, 0, none⟩ _) (by have := HZ.out; have := HLTW.out; simp; omega))
                      replace HA2 := Lib.hid (show At3 W20 (w.heap.size + 1) (.slice qo q.s.length qc) (.slice jo m jc) (.int .i64 g) by rw [← hWn]; exact HA2.out.grown (grown_setCell _ ⟨r1, 0, none⟩ _) (by have := HZ.out; have := HLTW.out; simp; omega))
                      clear hWn
                      refine hK.out _ _ ?_ (fun hHeld => ?_)
                      · exact ⟨HA.out.2.1, HA.out.2.2.1, HA.out.2.2.2.1, HA2.out.2.1, HA2.out.2.2.1, HA2.out.2.2.2.1⟩
                      clear hK K
                      refine wpAnyH_ready (rs := [9]) (by kernel_rfl) (by simp) ?_
                      refine AllReadyH.cons (o := _) rfl (fun K hK => ?_) ?_
                      · clear hHeld
                        have s0 := HR2.out.2.1
                        have t0 := HR2.out.2.2 0
                        go_simp
                        clear s0 t0
                        obtain ⟨W21, hWn⟩ : ∃ xw9, W20.setCell ⟨r2, 0, none⟩ ub = xw9 := ⟨_, rfl⟩
                        rw [hWn]
                        replace HUA := Lib.hid (show IsV W21 _ ua A by rw [← hWn]; exact HUA.out.keep (Kept.setCell _ _ _ (fun h => by have := HZ.out; simp only at h; omega)) (fun _ _ h => h))
                        replace HUB := Lib.hid (show IsV W21 _ ub B by rw [← hWn]; exact HUB.out.keep (Kept.setCell _ _ _ (fun h => by have := HZ.out; simp only at h; omega)) (fun _ _ h => h))
                        replace HW0 := Lib.hid (show Below wr.heap.size wr W21 by rw [← hWn]; exact HW0.out.setCell (p := ⟨r2, 0, none⟩) (by have := HZ.out; simp only; omega) _)
                        replace HR2 := Lib.hid (show At1 W21 r2 ub by rw [← hWn]; exact At1.put1 HR2.out _)
                        replace HR1 := Lib.hid (show At1 W21 r1 ua by rw [← hWn]; exact HR1.out.grown (grown_setCell _ ⟨r2, 0, none⟩ _) (by have := HZ.out; simp; omega))
                        replace HA := Lib.hid (show At3 W21 w.heap.size (.slice so p.s.length sc) (.slice io n ic) (.int .i64 f) by rw [← hWn]; exact HA.out.grown (grown_setCell _ ⟨r2, 0, none⟩ _) (by have := HZ.out; have := HLTW.out; simp; omega))
                        replace HA2 := Lib.hid (show At3 W21 (w.heap.size + 1) (.slice qo q.s.length qc) (.slice jo m jc) (.int .i64 g) by rw [← hWn]; exact HA2.out.grown (grown_setCell _ ⟨r2, 0, none⟩ _) (by have := HZ.out; have := HLTW.out; simp; omega))
                        clear hWn
                        refine hK.out _ _ ?_ (fun hHeld => ?_)
                        · exact ⟨HA.out.2.1, HA.out.2.2.1, HA.out.2.2.2.1, HA2.out.2.1, HA2.out.2.2.1, HA2.out.2.2.2.1⟩
                        clear hK K
                        refine wpAnyH_done (by kernel_rfl) ?_ _
                        clear hHeld
                        exact ⟨rfl, _, _, ua, ub, r1, r2, rfl, HR1.out, HR2.out, IsV.any HUA.out, IsV.any HUB.out, HW0.out⟩
                      exact AllReadyH.nil
                    exact AllReadyH.nil
                  exact AllReadyH.nil
                refine AllReadyH.cons (o := _) rfl (fun K hK => ?_) ?_
                · clear hHeld
                  go_simp
                  obtain ⟨W18, hWn⟩ : ∃ xw9, W17.alloc (.cells #[.nilIface] 36) = xw9 := ⟨_, rfl⟩
                  have hB : Below W17.heap.size W17 W18 := by rw [← hWn]; exact below_new _ _
                  have hNB : At1 W18 W17.heap.size (.nilIface) := by rw [← hWn]; exact At1.new _ _ _
                  rw [hWn]
                  clear hWn
                  obtain ⟨r1, hnm⟩ : ∃ x, W17.heap.size = x := ⟨_, rfl⟩
                  rw [hnm] at hNB ⊢
                  replace HZ := Lib.hid (And.intro HZ.out (And.intro hnm hNB.1))
                  replace HA := Lib.hid (HA.out.below hB)
                  replace HA2 := Lib.hid (HA2.out.below hB)
                  replace HI := Lib.hid (HI.out.grow hB)
                  replace HI2 := Lib.hid (HI2.out.grow hB)
                  replace HT := Lib.hid (fun j hj => keep_below hB _ _ (HT.out j hj))
                  replace HW0 := Lib.hid (HW0.out.trans (hB.mono HW0.out.size))
                  replace HR2 := Lib.hid (HR2.out.below hB)
                  replace HUA := Lib.hid (HUA.out.grow hB)
                  have HR1 := Lib.hid hNB
                  clear hNB hB hnm
                  refine hK.out _ _ ?_ (fun hHeld => ?_)
                  · exact ⟨HA.out.2.1, HA.out.2.2.1, HA.out.2.2.2.1, HA2.out.2.1, HA2.out.2.2.1, HA2.out.2.2.2.1⟩
                  clear hK K
                  refine wpAnyH_ready (rs := [4]) (by kernel_rfl) (by simp) ?_
                  refine AllReadyH.cons (o := _) rfl (fun K hK => ?_) ?_
                  · clear hHeld
                    go_simp
                    refine (lof_calls _ q _ md _ HLP.out HI2.out HT.out HC2.out.1).mono ?_
                    rintro e W19 ⟨s4, c4, ub, rfl, hOR, hB⟩
                    replace HZ := Lib.hid (And.intro HZ.out hB.size)
                    replace HA := Lib.hid (HA.out.below hB)
                    replace HA2 := Lib.hid (HA2.out.below hB)
                    replace HI := Lib.hid (HI.out.grow hB)
                    replace HI2 := Lib.hid (HI2.out.grow hB)
                    replace HT := Lib.hid (fun j hj => keep_below hB _ _ (HT.out j hj))
                    replace HW0 := Lib.hid (HW0.out.trans (hB.mono HW0.out.size))
                    replace HR2 := Lib.hid (HR2.out.below hB)
                    replace HUA := Lib.hid (HUA.out.grow hB)
                    replace HR1 := Lib.hid (HR1.out.below hB)
                    have HUB := Lib.hid (show IsV W19 (fun b => W18.heap.size ≤ b ∧ b < W19.heap.size) ub B by rw [← HBB.out]; exact hOR.2.lt)
                    have hsub := HUB.out.store
                    clear hOR
                    clear hB
                    refine hK.out _ _ ?_ (fun hHeld => ?_)
                    · exact ⟨HA.out.2.1, HA.out.2.2.1, HA.out.2.2.2.1, HA2.out.2.1, HA2.out.2.2.1, HA2.out.2.2.2.1⟩
                    clear hK K
                    refine wpAnyH_take (i := 5) (v := ?_) rfl (by kernel_rfl) (by kernel_rfl) (by kernel_rfl) (fun _ _ _ h => absurd h.1 (by simp)) (Or.inl ⟨by rfl, ?_⟩) (by assumption) ?_
                    rotate_left
                    · (intro w hSw; (try dsimp only at hSw); go_simp; try with_reducible rfl)
                    simp only [Act.put, List.getElem_toArray, List.getElem_cons_succ, List.getElem_cons_zero, List.setIfInBounds_toArray, List.set_cons_zero, List.set_cons_succ]
                    refine wpAnyH_ready (rs := [8]) (by kernel_rfl) (by simp) ?_
                    refine AllReadyH.cons (o := _) rfl (fun K hK => ?_) ?_
                    · clear hHeld
                      have s0 := HR1.out.2.1
                      have t0 := HR1.out.2.2 0
                      go_simp
                      clear s0 t0
                      obtain ⟨W20, hWn⟩ : ∃ xw9, W19.setCell ⟨r1, 0, none⟩ ua = xw9 := ⟨_, rfl⟩
                      rw [hWn]
                      replace HUA := Lib.hid (show IsV W20 _ ua A by rw [← hWn]; exact HUA.out.keep (Kept.setCell _ _ _ (fun h => by have := HZ.out; simp only at h; omega)) (fun _ _ h => h))
                      replace HUB := Lib.hid (show IsV W20 _ ub B by rw [← hWn]; exact HUB.out.keep (Kept.setCell _ _ _ (fun h => by have := HZ.out; simp only at h; omega)) (fun _ _ h => h))
                      replace HW0 := Lib.hid (show Below wr.heap.size wr W20 by rw [← hWn]; exact HW0.out.setCell (p := ⟨r1, 0, none⟩) (by have := HZ.out; simp only; omega) _)
                      replace HR1 := Lib.hid (show At1 W20 r1 ua by rw [← hWn]; exact At1.put1 HR1.out _)
                      replace HR2 := Lib.hid (show At1 W20 r2 .nilIface by rw [← hWn]; exact HR2.out.grown (grown_setCell _ ⟨r1, 0, none⟩ _) (by have := HZ.out; simp; omega))
                      replace HA := Lib.hid (show At3 W20 w.heap.size (.slice so p.s.length sc) (.slice io n ic) (.int .i64 f) by rw [← hWn]; exact HA.out.grown (grown_setCell _ ⟨r1, 0, none⟩ _) (by have := HZ.out; have := HLTW.out; simp; omega))
                      replace HA2 := Lib.hid (show At3 W20 (w.heap.size + 1) (.slice qo q.s.length qc) (.slice jo m jc) (.int .i64 g) by rw [← hWn]; exact HA2.out.grown (grown_setCell _ ⟨r1, 0, none⟩ _) (by have := HZ.out; have := HLTW.out; simp; omega))
                      clear hWn
                      refine hK.out _ _ ?_ (fun hHeld => ?_)
                      · exact ⟨HA.out.2.1, HA.out.2.2.1, HA.out.2.2.2.1, HA2.out.2.1, HA2.out.2.2.1, HA2.out.2.2.2.1⟩
                      clear hK K
                      refine wpAnyH_ready (rs := [9]) (by kernel_rfl) (by simp) ?_
                      refine AllReadyH.cons (o := _) rfl (fun K hK => ?_) ?_
                      · clear hHeld
                        have s0 := HR2.out.2.1
                        have t0 := HR2.out.2.2 0
                        go_simp
                        clear s0 t0
                        obtain ⟨W21, hWn⟩ : ∃ xw9, W20.setCell ⟨r2, 0, none⟩ ub = xw9 := ⟨_, rfl⟩
                        rw [hWn]
                        replace HUA := Lib.hid (show IsV W21 _ ua A by rw [← hWn]; exact HUA.out.keep (Kept.setCell _ _ _ (fun h => by have := HZ.out; simp only at h; omega)) (fun _ _ h => h))
                        replace HUB := Lib.hid (show IsV W21 _ ub B by rw [← hWn]; exact HUB.out.keep (Kept.setCell _ _ _ (fun h => by have := HZ.out; simp only at h; omega)) (fun _ _ h => h))
                        replace HW0 := Lib.hid (show Below wr.heap.size wr W21 by rw [← hWn]; exact HW0.out.setCell (p := ⟨r2, 0, none⟩) (by have := HZ.out; simp only; omega) _)
                        replace HR2 := Lib.hid (show At1 W21 r2 ub by rw [← hWn]; exact At1.put1 HR2.out _)
                        replace HR1 := Lib.hid (show At1 W21 r1 ua by rw [← hWn]; exact HR1.out.grown (grown_setCell _ ⟨r2, 0, none⟩ _) (by have := HZ.out; simp; omega))
                        replace HA := Lib.hid (show At3 W21 w.heap.size (.slice so p.s.length sc) (.slice io n ic) (.int .i64 f) by rw [← hWn]; exact HA.out.grown (grown_setCell _ ⟨r2, 0, none⟩ _) (by have := HZ.out; have := HLTW.out; simp; omega))
                        replace HA2 := Lib.hid (show At3 W21 (w.heap.size + 1) (.slice qo q.s.length qc) (.slice jo m jc) (.int .i64 g) by rw [← hWn]; exact HA2.out.grown (grown_setCell _ ⟨r2, 0, none⟩ _) (by have := HZ.out; have := HLTW.out; simp; omega))
                        clear hWn
                        refine hK.out _ _ ?_ (fun hHeld => ?_)
                        · exact ⟨HA.out.2.1, HA.out.2.2.1, HA.out.2.2.2.1, HA2.out.2.1, HA2.out.2.2.1, HA2.out.2.2.2.1⟩
                        clear hK K
                        refine wpAnyH_done (by kernel_rfl) ?_ _
                        clear hHeld
                        exact ⟨rfl, _, _, ua, ub, r1, r2, rfl, HR1.out, HR2.out, IsV.any HUA.out, IsV.any HUB.out, HW0.out⟩
                      exact AllReadyH.nil
                    exact AllReadyH.nil
                  exact AllReadyH.nil
                exact AllReadyH.nil
              refine AllReadyH.cons (o := _) rfl (fun K hK => ?_) ?_
              · clear hHeld
                go_simp
                obtain ⟨W17, hWn⟩ : ∃ xw9, W16.alloc (.cells #[.nilIface] 36) = xw9 := ⟨_, rfl⟩
                have hB : Below W16.heap.size W16 W17 := by rw [← hWn]; exact below_new _ _
                have hNB : At1 W17 W16.heap.size (.nilIface) := by rw [← hWn]; exact At1.new _ _ _
                rw [hWn]
                clear hWn
                obtain ⟨r1, hnm⟩ : ∃ x, W16.heap.size = x := ⟨_, rfl⟩
                rw [hnm] at hNB ⊢
                replace HZ := Lib.hid (And.intro HZ.out (And.intro hnm hNB.1))
                replace HA := Lib.hid (HA.out.below hB)
                replace HA2 := Lib.hid (HA2.out.below hB)
                replace HI := Lib.hid (HI.out.grow hB)
                replace HI2 := Lib.hid (HI2.out.grow hB)
                replace HT := Lib.hid (fun j hj => keep_below hB _ _ (HT.out j hj))
                replace HW0 := Lib.hid (HW0.out.trans (hB.mono HW0.out.size))
                replace HR2 := Lib.hid (HR2.out.below hB)
                have HR1 := Lib.hid hNB
                clear hNB hB hnm
                refine hK.out _ _ ?_ (fun hHeld => ?_)
                · exact ⟨HA.out.2.1, HA.out.2.2.1, HA.out.2.2.2.1, HA2.out.2.1, HA2.out.2.2.1, HA2.out.2.2.2.1⟩
                clear hK K
                refine wpAnyH_ready (rs := [1]) (by kernel_rfl) (by simp) ?_
                refine AllReadyH.cons (o := _) rfl (fun K hK => ?_) ?_
                · clear hHeld
                  go_simp
                  refine (lof_calls _ p _ nd _ HLO.out HI.out HT.out HC1.out.1).mono ?_
                  rintro e W18 ⟨s3, c3, ua, rfl, hOR, hB⟩
                  replace HZ := Lib.hid (And.intro HZ.out hB.size)
                  replace HA := Lib.hid (HA.out.below hB)
                  replace HA2 := Lib.hid (HA2.out.below hB)
                  replace HI := Lib.hid (HI.out.grow hB)
                  replace HI2 := Lib.hid (HI2.out.grow hB)
                  replace HT := Lib.hid (fun j hj => keep_below hB _ _ (HT.out j hj))
                  replace HW0 := Lib.hid (HW0.out.trans (hB.mono HW0.out.size))
                  replace HR2 := Lib.hid (HR2.out.below hB)
                  replace HR1 := Lib.hid (HR1.out.below hB)
                  have HUA := Lib.hid (show IsV W18 (fun b => W17.heap.size ≤ b ∧ b < W18.heap.size) ua A by rw [← HAA.out]; exact hOR.2.lt)
                  have hsua := HUA.out.store
                  clear hOR
                  clear hB
                  refine hK.out _ _ ?_ (fun hHeld => ?_)
                  · exact ⟨HA.out.2.1, HA.out.2.2.1, HA.out.2.2.2.1, HA2.out.2.1, HA2.out.2.2.1, HA2.out.2.2.2.1⟩
                  clear hK K
                  refine wpAnyH_take (i := 2) (v := ?_) rfl (by kernel_rfl) (by kernel_rfl) (by kernel_rfl) (fun _ _ _ h => absurd h.1 (by simp)) (Or.inl ⟨by rfl, ?_⟩) (by assumption) ?_
                  rotate_left
                  · (intro w hSw; (try dsimp only at hSw); go_simp; try with_reducible rfl)
                  simp only [Act.put, List.getElem_toArray, List.getElem_cons_succ, List.getElem_cons_zero, List.setIfInBounds_toArray, List.set_cons_zero, List.set_cons_succ]
                  refine wpAnyH_ready (rs := [4]) (by kernel_rfl) (by simp) ?_
                  refine AllReadyH.cons (o := _) rfl (fun K hK => ?_) ?_
                  · clear hHeld
                    go_simp
                    refine (lof_calls _ q _ md _ HLP.out HI2.out HT.out HC2.out.1).mono ?_
                    rintro e W19 ⟨s4, c4, ub, rfl, hOR, hB⟩
                    replace HZ := Lib.hid (And.intro HZ.out hB.size)
                    replace HA := Lib.hid (HA.out.below hB)
                    replace HA2 := Lib.hid (HA2.out.below hB)
                    replace HI := Lib.hid (HI.out.grow hB)
                    replace HI2 := Lib.hid (HI2.out.grow hB)
                    replace HT := Lib.hid (fun j hj => keep_below hB _ _ (HT.out j hj))
                    replace HW0 := Lib.hid (HW0.out.trans (hB.mono HW0.out.size))
                    replace HR2 := Lib.hid (HR2.out.below hB)
                    replace HR1 := Lib.hid (HR1.out.below hB)
                    replace HUA := Lib.hid (HUA.out.grow hB)
                    have HUB := Lib.hid (show IsV W19 (fun b => W18.heap.size ≤ b ∧ b < W19.heap.size) ub B by rw [← HBB.out]; exact hOR.2.lt)
                    have hsub := HUB.out.store
                    clear hOR
                    clear hB
                    refine hK.out _ _ ?_ (fun hHeld => ?_)
                    · exact ⟨HA.out.2.1, HA.out.2.2.1, HA.out.2.2.2.1, HA2.out.2.1, HA2.out.2.2.1, HA2.out.2.2.2.1⟩
                    clear hK K
                    refine wpAnyH_take (i := 5) (v := ?_) rfl (by kernel_rfl) (by kernel_rfl) (by kernel_rfl) (fun _ _ _ h => absurd h.1 (by simp)) (Or.inl ⟨by rfl, ?_⟩) (by assumption) ?_
                    rotate_left
                    · (intro w hSw; (try dsimp only at hSw); go_simp; try with_reducible rfl)
                    simp only [Act.put, List.getElem_toArray, List.getElem_cons_succ, List.getElem_cons_zero, List.setIfInBounds_toArray, List.set_cons_zero, List.set_cons_succ]
                    refine wpAnyH_ready (rs := [8]) (by kernel_rfl) (by simp) ?_
                    refine AllReadyH.cons (o := _) rfl (fun K hK => ?_) ?_
                    · clear hHeld
                      have s0 := HR1.out.2.1
                      have t0 := HR1.out.2.2 0
                      go_simp
                      clear s0 t0
                      obtain ⟨W20, hWn⟩ : ∃ xw9, W19.setCell ⟨r1, 0, none⟩ ua = xw9 := ⟨_, rfl⟩
                      rw [hWn]
                      replace HUA := Lib.hid (show IsV W20 _ ua A by rw [← hWn]; exact HUA.out.keep (Kept.setCell _ _ _ (fun h => by have := HZ.out; simp only at h; omega)) (fun _ _ h => h))
                      replace HUB := Lib.hid (show IsV W20 _ ub B by rw [← hWn]; exact HUB.out.keep (Kept.setCell _ _ _ (fun h => by have := HZ.out; simp only at h; omega)) (fun _ _ h => h))
                      replace HW0 := Lib.hid (show Below wr.heap.size wr W20 by rw [← hWn]; exact HW0.out.setCell (p := ⟨r1, 0, none⟩) (by have := HZ.out; simp only; omega) _)
                      replace HR1 := Lib.hid (show At1 W20 r1 ua by rw [← hWn]; exact At1.put1 HR1.out _)
                      replace HR2 := Lib.hid (show At1 W20 r2 .nilIface by rw [← hWn]; exact HR2.out.grown (grown_setCell _ ⟨r1, 0, none⟩ _) (by have := HZ.out; simp; omega))
                      replace HA := Lib.hid (show At3 W20 w.heap.size (.slice so p.s.length sc) (.slice io n ic) (.int .i64 f) by rw [← hWn]; exact HA.out.grown (grown_setCell _ ⟨r1, 0, none⟩ _) (by have := HZ.out; have := HLTW.out; simp; omega))
                      replace HA2 := Lib.hid (show At3 W20 (w.heap.size + 1) (.slice qo q.s.length qc) (.slice jo m jc) (.int .i64 g) by rw [← hWn]; exact HA2.out.grown (grown_setCell _ ⟨r1, 0, none⟩ _) (by have := HZ.out; have := HLTW.out; simp; omega))
                      clear hWn
                      refine hK.out _ _ ?_ (fun hHeld => ?_)
                      · exact ⟨HA.out.2.1, HA.out.2.2.1, HA.out.2.2.2.1, HA2.out.2.1, HA2.out.2.2.1, HA2.out.2.2.2.1⟩
                      clear hK K
                      refine wpAnyH_ready (rs := [9]) (by kernel_rfl) (by simp) ?_
                      refine AllReadyH.cons (o := _) rfl (fun K hK => ?_) ?_
                      · clear hHeld
                        have s0 := HR2.out.2.1
                        have t0 := HR2.out.2.2 0
                        go_simp
                        clear s0 t0
                        obtain ⟨W21, hWn⟩ : ∃ xw9, W20.setCell ⟨r2, 0, none⟩ ub = xw9 := ⟨_, rfl⟩
                        rw [hWn]
                        replace HUA := Lib.hid (show IsV W21 _ ua A by rw [← hWn]; exact HUA.out.keep (Kept.setCell _ _ _ (fun h => by have := HZ.out; simp only at h; omega)) (fun _ _ h => h))
                        replace HUB := Lib.hid (show IsV W21 _ ub B by rw [← hWn]; exact HUB.out.keep (Kept.setCell _ _ _ (fun h => by have := HZ.out; simp only at h; omega)) (fun _ _ h => h))
                        replace HW0 := Lib.hid (show Below wr.heap.size wr W21 by rw [← hWn]; exact HW0.out.setCell (p := ⟨r2, 0, none⟩) (by have := HZ.out; simp only; omega) _)
                        replace HR2 := Lib.hid (show At1 W21 r2 ub by rw [← hWn]; exact At1.put1 HR2.out _)
                        replace HR1 := Lib.hid (show At1 W21 r1 ua by rw [← hWn]; exact HR1.out.grown (grown_setCell _ ⟨r2, 0, none⟩ _) (by have := HZ.out; simp; omega))
                        replace HA := Lib.hid (show At3 W21 w.heap.size (.slice so p.s.length sc) (.slice io n ic) (.int .i64 f) by rw [← hWn]; exact HA.out.grown (grown_setCell _ ⟨r2, 0, none⟩ _) (by have := HZ.out; have := HLTW.out; simp; omega))
                        replace HA2 := Lib.hid (show At3 W21 (w.heap.size + 1) (.slice qo q.s.length qc) (.slice jo m jc) (.int .i64 g) by rw [← hWn]; exact HA2.out.grown (grown_setCell _ ⟨r2, 0, none⟩ _) (by have := HZ.out; have := HLTW.out; simp; omega))
                        clear hWn
                        refine hK.out _ _ ?_ (fun hHeld => ?_)
                        · exact ⟨HA.out.2.1, HA.out.2.2.1, HA.out.2.2.2.1, HA2.out.2.1, HA2.out.2.2.1, HA2.out.2.2.2.1⟩
                        clear hK K
                        refine wpAnyH_done (by kernel_rfl) ?_ _
                        clear hHeld
                        exact ⟨rfl, _, _, ua, ub, r1, r2, rfl, HR1.out, HR2.out, IsV.any HUA.out, IsV.any HUB.out, HW0.out⟩
                      exact AllReadyH.nil
                    exact AllReadyH.nil
                  exact AllReadyH.nil
                exact AllReadyH.nil
              exact AllReadyH.nil
            exact AllReadyH.nil
          rintro _ W16 ⟨eo, es, ua, ub, r1, r2, rfl, h1, h2, h3, h4, hB⟩
          replace HA := Lib.hid (HA.out.below hB)
          replace HA2 := Lib.hid (HA2.out.below hB)
          replace HB := Lib.hid (HB.out.trans (hB.mono HB.out.size))
          replace HI := Lib.hid (HI.out.grow hB)
          replace HI2 := Lib.hid (HI2.out.grow hB)
          replace HT := Lib.hid (fun j hj => keep_below hB _ _ (HT.out j hj))
          replace HTI := Lib.hid (HTI.out.grow hB)
          replace HTJ := Lib.hid (HTJ.out.grow hB)
          replace HWA := Lib.hid (HWA.out.below hB)
          replace HWB := Lib.hid (HWB.out.below hB)
          have HR1 := Lib.hid h1
          have HR2 := Lib.hid h2
          have HUA := Lib.hid h3
          have HUB := Lib.hid h4
          have hsua := h3.store
          have hsub := h4.store
          clear h1 h2 h3 h4 hB
          simp only [Act.put, List.setIfInBounds_toArray, List.set_cons_zero, List.set_cons_succ]
          have cHA0 := HA.out.2.1
          have cHA1 := HA.out.2.2.1
          have cHA2 := HA.out.2.2.2.1
          have cHA20 := HA2.out.2.1
          have cHA21 := HA2.out.2.2.1
          have cHA22 := HA2.out.2.2.2.1
          have cHR10 := HR1.out.2.1
          have cHR20 := HR2.out.2.1
          go_wp2_with fail
          refine (hfind_calls _ _ A B _ HUA.out HHA.out.hg HUB.out HHB.out.hg HT.out).mono ?_
          rintro e W17 ⟨vf, rfl, hvf, hB⟩
          clear cHA0 cHA1 cHA2 cHA20 cHA21 cHA22 cHR10 cHR20
          replace HA := Lib.hid (HA.out.below hB)
          replace HA2 := Lib.hid (HA2.out.below hB)
          replace HB := Lib.hid (HB.out.trans (hB.mono HB.out.size))
          replace HI := Lib.hid (HI.out.grow hB)
          replace HI2 := Lib.hid (HI2.out.grow hB)
          replace HT := Lib.hid (fun j hj => keep_below hB _ _ (HT.out j hj))
          replace HTI := Lib.hid (HTI.out.grow hB)
          replace HTJ := Lib.hid (HTJ.out.grow hB)
          replace HWA := Lib.hid (HWA.out.below hB)
          replace HWB := Lib.hid (HWB.out.below hB)
          replace HR1 := Lib.hid (HR1.out.below hB)
          replace HR2 := Lib.hid (HR2.out.below hB)
          replace HUA := Lib.hid (HUA.out.grow hB)
          replace HUB := Lib.hid (HUB.out.grow hB)
          rw [HHB.out.len, HAI.out, HBI.out] at hvf
          have HVF := Lib.hid hvf.any
          obtain ⟨fo, fc, rfl, _⟩ := hvf.opened
          clear hvf
          clear hB
          have cHA0 := HA.out.2.1
          have cHA1 := HA.out.2.2.1
          have cHA2 := HA.out.2.2.2.1
          have cHA20 := HA2.out.2.1
          have cHA21 := HA2.out.2.2.1
          have cHA22 := HA2.out.2.2.2.1
          have cHR10 := HR1.out.2.1
          have cHR20 := HR2.out.2.1
          go_wp2_with fail
          refine (ints_eq _ _ (zL (LB.map (fndI LA))) m _ HVF.out HWA.out (by rw [zL_len, List.length_map]; exact HBL.out) (by have := HM1.out; omega)).mono ?_
          rintro e W18 ⟨rfl, hB⟩
          clear cHA0 cHA1 cHA2 cHA20 cHA21 cHA22 cHR10 cHR20
          replace HA := Lib.hid (HA.out.below hB)
          replace HA2 := Lib.hid (HA2.out.below hB)
          replace HB := Lib.hid (HB.out.trans (hB.mono HB.out.size))
          replace HI := Lib.hid (HI.out.grow hB)
          replace HI2 := Lib.hid (HI2.out.grow hB)
          replace HT := Lib.hid (fun j hj => keep_below hB _ _ (HT.out j hj))
          replace HTI := Lib.hid (HTI.out.grow hB)
          replace HTJ := Lib.hid (HTJ.out.grow hB)
          replace HWA := Lib.hid (HWA.out.below hB)
          replace HWB := Lib.hid (HWB.out.below hB)
          replace HR1 := Lib.hid (HR1.out.below hB)
          replace HR2 := Lib.hid (HR2.out.below hB)
          replace HUA := Lib.hid (HUA.out.grow hB)
          replace HUB := Lib.hid (HUB.out.grow hB)
          replace HVF := Lib.hid (HVF.out.below hB)
          clear hB
          have cHA0 := HA.out.2.1
          have cHA1 := HA.out.2.2.1
          have cHA2 := HA.out.2.2.2.1
          have cHA20 := HA2.out.2.1
          have cHA21 := HA2.out.2.2.1
          have cHA22 := HA2.out.2.2.2.1
          have cHR10 := HR1.out.2.1
          have cHR20 := HR2.out.2.1
          go_wp2_with fail
          refine (hhas_calls _ _ A B _ HUA.out HHA.out.hg HUB.out HHB.out.hg HT.out).mono ?_
          rintro e W19 ⟨vh, rfl, hvh, hB⟩
          clear cHA0 cHA1 cHA2 cHA20 cHA21 cHA22 cHR10 cHR20
          replace HA := Lib.hid (HA.out.below hB)
          replace HA2 := Lib.hid (HA2.out.below hB)
          replace HB := Lib.hid (HB.out.trans (hB.mono HB.out.size))
          replace HI := Lib.hid (HI.out.grow hB)
          replace HI2 := Lib.hid (HI2.out.grow hB)
          replace HT := Lib.hid (fun j hj => keep_below hB _ _ (HT.out j hj))
          replace HTI := Lib.hid (HTI.out.grow hB)
          replace HTJ := Lib.hid (HTJ.out.grow hB)
          replace HWA := Lib.hid (HWA.out.below hB)
          replace HWB := Lib.hid (HWB.out.below hB)
          replace HR1 := Lib.hid (HR1.out.below hB)
          replace HR2 := Lib.hid (HR2.out.below hB)
          replace HUA := Lib.hid (HUA.out.grow hB)
          replace HUB := Lib.hid (HUB.out.grow hB)
          replace HVF := Lib.hid (HVF.out.below hB)
          rw [HHB.out.len, HHA.out.len, HAI.out, HBI.out] at hvh
          have HVH := Lib.hid hvh.any
          obtain ⟨ho, hc, rfl, _⟩ := hvh.opened
          clear hvh
          clear hB
          have cHA0 := HA.out.2.1
          have cHA1 := HA.out.2.2.1
          have cHA2 := HA.out.2.2.2.1
          have cHA20 := HA2.out.2.1
          have cHA21 := HA2.out.2.2.1
          have cHA22 := HA2.out.2.2.2.1
          have cHR10 := HR1.out.2.1
          have cHR20 := HR2.out.2.1
          go_wp2_with fail
          refine (bools_eq19 _ _ (LB.map (fun x => decide (fndI LA x < n))) m _ HVH.out HWB.out (by rw [List.length_map]; exact HBL.out) (by have := HM1.out; omega)).mono ?_
          rintro e W20 ⟨rfl, hB⟩
          clear cHA0 cHA1 cHA2 cHA20 cHA21 cHA22 cHR10 cHR20
          replace HA := Lib.hid (HA.out.below hB)
          replace HA2 := Lib.hid (HA2.out.below hB)
          replace HB := Lib.hid (HB.out.trans (hB.mono HB.out.size))
          replace HI := Lib.hid (HI.out.grow hB)
          replace HI2 := Lib.hid (HI2.out.grow hB)
          replace HT := Lib.hid (fun j hj => keep_below hB _ _ (HT.out j hj))
          replace HTI := Lib.hid (HTI.out.grow hB)
          replace HTJ := Lib.hid (HTJ.out.grow hB)
          replace HWA := Lib.hid (HWA.out.below hB)
          replace HWB := Lib.hid (HWB.out.below hB)
          replace HR1 := Lib.hid (HR1.out.below hB)
          replace HR2 := Lib.hid (HR2.out.below hB)
          replace HUA := Lib.hid (HUA.out.grow hB)
          replace HUB := Lib.hid (HUB.out.grow hB)
          replace HVF := Lib.hid (HVF.out.below hB)
          replace HVH := Lib.hid (HVH.out.below hB)
          clear hB
          have cHA0 := HA.out.2.1
          have cHA1 := HA.out.2.2.1
          have cHA2 := HA.out.2.2.2.1
          have cHA20 := HA2.out.2.1
          have cHA21 := HA2.out.2.2.1
          have cHA22 := HA2.out.2.2.2.1
          have cHR10 := HR1.out.2.1
          have cHR20 := HR2.out.2.1
          go_wp2_with fail
          refine (awake19_calls _ HT.out).mono ?_
          rintro e W21 ⟨rfl, hB⟩
          clear cHA0 cHA1 cHA2 cHA20 cHA21 cHA22 cHR10 cHR20
          replace HA := Lib.hid (HA.out.below hB)
          replace HA2 := Lib.hid (HA2.out.below hB)
          replace HB := Lib.hid (HB.out.trans (hB.mono HB.out.size))
          replace HI := Lib.hid (HI.out.grow hB)
          replace HI2 := Lib.hid (HI2.out.grow hB)
          replace HT := Lib.hid (fun j hj => keep_below hB _ _ (HT.out j hj))
          replace HTI := Lib.hid (HTI.out.grow hB)
          replace HTJ := Lib.hid (HTJ.out.grow hB)
          replace HWA := Lib.hid (HWA.out.below hB)
          replace HWB := Lib.hid (HWB.out.below hB)
          replace HR1 := Lib.hid (HR1.out.below hB)
          replace HR2 := Lib.hid (HR2.out.below hB)
          replace HUA := Lib.hid (HUA.out.grow hB)
          replace HUB := Lib.hid (HUB.out.grow hB)
          replace HVF := Lib.hid (HVF.out.below hB)
          replace HVH := Lib.hid (HVH.out.below hB)
          clear hB
          have cHA0 := HA.out.2.1
          have cHA1 := HA.out.2.2.1
          have cHA2 := HA.out.2.2.2.1
          have cHA20 := HA2.out.2.1
          have cHA21 := HA2.out.2.2.1
          have cHA22 := HA2.out.2.2.2.1
          have cHR10 := HR1.out.2.1
          have cHR20 := HR2.out.2.1
          go_wp2_with fail
          go_ret
          exact ⟨rfl, HB.out⟩

theorem hashFinds_frame (w : World) (u : Value) (p : PA) (n : Nat) (hl : lo n p) (hp : IsP w (fun _ => True) u p) (hc : chO p) (v : Value) (q : PA) (m : Nat) (hl2 : lo m q) (hq : IsP w (fun _ => True) v q) (hc2 : chO q) (hT : TabAt w) :
    Calls Tryz.prog 3 #[u, v] w fun e w' => e = .returned (.bool true) ∧ Below w.heap.size w w' :=
  hashFinds_walk p q u v n m w hl hp hc hl2 hq hc2 hT
end Go.Proofs.YtbdhibcbpgjbmaaGreatDoor

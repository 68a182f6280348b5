/- Layer 19's law: HashFirsts. -/
import Derived.Test.YtbdhibcbpgjbmaaGreatDoorMgHa2
namespace Go.Proofs.YtbdhibcbpgjbmaaGreatDoor
set_option maxRecDepth 100000
open Go.RowKit Fl
set_option linter.unusedVariables false

theorem hunique_at {ok : Nat → Prop} (u : Value) (A : VV) (l : List PI) (f : Int) (w : World) (h : IsV w ok u A) (hg : hG A) (hc : A.cls = f) (hi : itsA 39 A = l) (hm : l.length ≤ 1048576) (hT : TabAt w) :
  Calls Tryz.prog 20 #[.agg #[u]] w fun e w' => ∃ u' B, e = .returned (.agg #[u']) ∧ IsV w' (fun _ => True) u' B ∧ Sel A B (uniqL l) f ∧ Below w.heap.size w w' := by
 refine (hunique_calls u A w h hg hT).mono ?_
 rintro e w' ⟨u', h1, h2, h3⟩
 exact ⟨u', _, h1, IsV.any h2, uniq_sel hg hc hi hm, h3⟩
theorem hunique_two {ok : Nat → Prop} (u : Value) (A : VV) (l : List PI) (f : Int) (w : World) (h : IsV w ok u A) (hg : hG A) (hc : A.cls = f) (hi : itsA 39 A = uniqL l) (hm : (uniqL l).length ≤ 1048576) (hT : TabAt w) :
  Calls Tryz.prog 20 #[.agg #[u]] w fun e w' => ∃ u' B, e = .returned (.agg #[u']) ∧ IsV w' (fun _ => True) u' B ∧ Sel A B (uniqL l) f ∧ Below w.heap.size w w' := by
 refine (hunique_calls u A w h hg hT).mono ?_
 rintro e w' ⟨u', h1, h2, h3⟩
 exact ⟨u', _, h1, IsV.any h2, uniq_sel2 hg hc hi hm, h3⟩
theorem hwithout_at {ok ok2 : Nat → Prop} (u u2 : Value) (A B : VV) (l m : List PI) (f : Int) (keep : Bool) (w : World) (h : IsV w ok u A) (hg : hG A) (hc : A.cls = f) (hi : itsA 39 A = l) (h2 : IsV w ok2 u2 B) (hg2 : hG B) (hj : itsA 39 B = m) (hm : l.length ≤ 1048576) (hT : TabAt w) :
  Calls Tryz.prog 21 #[.agg #[u], .agg #[u2], .bool keep] w fun e w' => ∃ u' C, e = .returned (.agg #[u']) ∧ IsV w' (fun _ => True) u' C ∧ Sel A C (witL l m keep) f ∧ Below w.heap.size w w' := by
 refine (hwithout_calls u u2 A B keep w h hg h2 hg2 hT).mono ?_
 rintro e w' ⟨u', h1, h2, h3⟩
 exact ⟨u', _, h1, IsV.any h2, with_sel keep hg hc hi hj hm, h3⟩
theorem rpick_uniq {ok ok2 : Nat → Prop} (lv : Value) (l : List PI) (c : Int) (hc : c = 0 ∨ c = 1 ∨ c = 2) (v : Value) (w : World) (hl : Its w ok lv l) (hv : Slc w ok2 v (frsL l).length (ints (zL (frsL l)))) (hm : l.length ≤ 200) :
  Calls Tryz.prog 16 #[lv, .int .i64 c, v] w fun e w' => ∃ u, e = .returned u ∧ Its w' (fun _ => True) u (uniqL l) ∧ Below w.heap.size w w' := by
 have hf := frsL_len l
 refine (rpick_calls lv l c hc v (zL (frsL l)) w hl (by rw [zL_len]; exact hv) (by rw [zL_len]; omega) (by omega)).mono ?_
 rintro e w' ⟨u, h1, h2, h3⟩
 rw [uniqL_pick] at h2
 exact ⟨u, h1, h2.wide (fun _ _ _ => trivial), h3⟩
set_option maxHeartbeats 16000000 in
theorem hashFirsts_walk (p q : PA) (u v : Value) (nd md : Nat) (w : World) (hl : lo nd p) (hp : IsP w (fun _ => True) u p) (hch : chO p) (hl2 : lo md q) (hq : IsP w (fun _ => True) v q) (hch2 : chO q) (hT : TabAt w) :
  Calls Tryz.prog 4 #[u, v] w (Yes19 w) := by
 have HP := Lib.hid hp
 have HQ := Lib.hid hq
 have HLO := Lib.hid hl
 have HLP := Lib.hid hl2
 have HCH := Lib.hid hch
 have HCH2 := Lib.hid hch2
 obtain ⟨so, sc, io, ic, rfl, hs, hit⟩ := hp.opened
 obtain ⟨qo, qc, jo, jc, rfl, hs2, hit2⟩ := hq.opened
 obtain ⟨W1, hW1⟩ : ∃ W1, W1 = (w.alloc (.cells #[.slice so p.s.length sc, .slice io p.l.length ic, .int .i64 p.f] 25)).alloc (.cells #[.slice qo q.s.length qc, .slice jo q.l.length jc, .int .i64 q.f] 25) := ⟨_, rfl⟩
 have HB := Lib.hid (show Below w.heap.size w W1 by rw [hW1]; exact (below_new _ _).alloc (by simp) _)
 have HA := Lib.hid (show At3 W1 w.heap.size (.slice so p.s.length sc) (.slice io p.l.length ic) (.int .i64 p.f) by rw [hW1]; exact (At3.new w _ _ _ _).below (below_new _ _))
 have HA2 := Lib.hid (show At3 W1 (w.heap.size + 1) (.slice qo q.s.length qc) (.slice jo q.l.length jc) (.int .i64 q.f) by rw [hW1]; have := At3.new (w.alloc (.cells #[.slice so p.s.length sc, .slice io p.l.length ic, .int .i64 p.f] 25)) (.slice qo q.s.length qc) (.slice jo q.l.length jc) (.int .i64 q.f) 25; simpa using this)
 have HI := Lib.hid (show IsP W1 (fun _ => True) _ p from HP.out.grow HB.out)
 have HI2 := Lib.hid (show IsP W1 (fun _ => True) _ q from HQ.out.grow HB.out)
 have HT := Lib.hid (show TabAt W1 from fun j hj => keep_below HB.out _ _ (hT j hj))
 obtain ⟨n, hn⟩ : ∃ n, p.l.length = n := ⟨_, rfl⟩
 obtain ⟨f, hf⟩ : ∃ f, p.f = f := ⟨_, rfl⟩
 obtain ⟨m, hm⟩ : ∃ m, q.l.length = m := ⟨_, rfl⟩
 obtain ⟨g, hg⟩ : ∃ g, q.f = g := ⟨_, rfl⟩
 have HN := Lib.hid hn
 have HF := Lib.hid hf
 have HM := Lib.hid hm
 have HG := Lib.hid hg
 have hfold := hW1.symm
 clear hs hit hs2 hit2 hp hq hl hl2 hW1 hT hch hch2
 rw [hn, hf] at HA HI hfold ⊢
 rw [hm, hg] at HA2 HI2 hfold ⊢
 clear hn hf hm hg HP HQ
 have cHA0 := HA.out.2.1
 have cHA1 := HA.out.2.2.1
 have cHA2 := HA.out.2.2.2.1
 have cHA20 := HA2.out.2.1
 have cHA21 := HA2.out.2.2.1
 have cHA22 := HA2.out.2.2.2.1
 go_enter Tryz.func4, Tryz.ntmps4
 go_wp2_with fail
 clear hfold
 refine (good19_calls _ p _ nd _ HLO.out HI.out).mono ?_
 rintro e W11 ⟨gg, rfl, hgg, hB⟩
 clear cHA0 cHA1 cHA2 cHA20 cHA21 cHA22
 replace HA := Lib.hid (HA.out.below hB)
 replace HA2 := Lib.hid (HA2.out.below hB)
 replace HB := Lib.hid (HB.out.trans (hB.mono HB.out.size))
 replace HI := Lib.hid (HI.out.grow hB)
 replace HI2 := Lib.hid (HI2.out.grow hB)
 replace HT := Lib.hid (fun j hj => keep_below hB _ _ (HT.out j hj))
 have HG1 := Lib.hid hgg
 clear hgg
 clear hB
 cases gg
 ·go_wp2_with fail
  refine (awake19_calls _ HT.out).mono ?_
  rintro e W12 ⟨rfl, hB⟩
  replace HA := Lib.hid (HA.out.below hB)
  replace HA2 := Lib.hid (HA2.out.below hB)
  replace HB := Lib.hid (HB.out.trans (hB.mono HB.out.size))
  replace HI := Lib.hid (HI.out.grow hB)
  replace HI2 := Lib.hid (HI2.out.grow hB)
  replace HT := Lib.hid (fun j hj => keep_below hB _ _ (HT.out j hj))
  clear hB
  have cHA0 := HA.out.2.1
  have cHA1 := HA.out.2.2.1
  have cHA2 := HA.out.2.2.2.1
  have cHA20 := HA2.out.2.1
  have cHA21 := HA2.out.2.2.1
  have cHA22 := HA2.out.2.2.2.1
  go_wp2_with fail
  go_ret
  exact ⟨rfl, HB.out⟩
 ·have HC1 := Lib.hid (HG1.out rfl)
  have cHA0 := HA.out.2.1
  have cHA1 := HA.out.2.2.1
  have cHA2 := HA.out.2.2.2.1
  have cHA20 := HA2.out.2.1
  have cHA21 := HA2.out.2.2.1
  have cHA22 := HA2.out.2.2.2.1
  go_wp2_with fail
  refine (good19_calls _ q _ md _ HLP.out HI2.out).mono ?_
  rintro e W12 ⟨gg, rfl, hgg, hB⟩
  clear cHA0 cHA1 cHA2 cHA20 cHA21 cHA22
  replace HA := Lib.hid (HA.out.below hB)
  replace HA2 := Lib.hid (HA2.out.below hB)
  replace HB := Lib.hid (HB.out.trans (hB.mono HB.out.size))
  replace HI := Lib.hid (HI.out.grow hB)
  replace HI2 := Lib.hid (HI2.out.grow hB)
  replace HT := Lib.hid (fun j hj => keep_below hB _ _ (HT.out j hj))
  have HG2 := Lib.hid hgg
  clear hgg
  clear hB
  cases gg
  ·go_wp2_with fail
   refine (awake19_calls _ HT.out).mono ?_
   rintro e W13 ⟨rfl, hB⟩
   replace HA := Lib.hid (HA.out.below hB)
   replace HA2 := Lib.hid (HA2.out.below hB)
   replace HB := Lib.hid (HB.out.trans (hB.mono HB.out.size))
   replace HI := Lib.hid (HI.out.grow hB)
   replace HI2 := Lib.hid (HI2.out.grow hB)
   replace HT := Lib.hid (fun j hj => keep_below hB _ _ (HT.out j hj))
   clear hB
   have cHA0 := HA.out.2.1
   have cHA1 := HA.out.2.2.1
   have cHA2 := HA.out.2.2.2.1
   have cHA20 := HA2.out.2.1
   have cHA21 := HA2.out.2.2.1
   have cHA22 := HA2.out.2.2.2.1
   go_wp2_with fail
   go_ret
   exact ⟨rfl, HB.out⟩
  ·have HC2 := Lib.hid (HG2.out rfl)
   have HN1 := Lib.hid (show n ≤ 200 by rw [← HN.out]; exact HC1.out.2)
   have HM1 := Lib.hid (show m ≤ 200 by rw [← HM.out]; exact HC2.out.2)
   obtain ⟨A, hA⟩ : ∃ A, (arrP 40 p).2 = A := ⟨_, rfl⟩
   obtain ⟨B, hB9⟩ : ∃ B, (arrP 40 q).2 = B := ⟨_, rfl⟩
   have HHA := Lib.hid (show Hold p A n f by rw [← hA, ← HN.out, ← HF.out]; exact hold_of HC1.out.1 HCH.out)
   have HHB := Lib.hid (show Hold q B m g by rw [← hB9, ← HM.out, ← HG.out]; exact hold_of HC2.out.1 HCH2.out)
   have HAA := Lib.hid hA
   have HBB := Lib.hid hB9
   obtain ⟨LA, hLA⟩ : ∃ LA, (tidyP 40 p).l = LA := ⟨_, rfl⟩
   obtain ⟨LB, hLB⟩ : ∃ LB, (tidyP 40 q).l = LB := ⟨_, rfl⟩
   have HLA := Lib.hid hLA
   have HLB := Lib.hid hLB
   have HAL := Lib.hid (show LA.length = n by rw [← hLA]; exact HHA.out.tl)
   have HBL := Lib.hid (show LB.length = m by rw [← hLB]; exact HHB.out.tl)
   have HAI := Lib.hid (show itsA 39 A = LA by rw [← hLA]; exact HHA.out.its)
   have HBI := Lib.hid (show itsA 39 B = LB by rw [← hLB]; exact HHB.out.its)
   have HAO := Lib.hid (show ∀ y ∈ LA, okI 39 y by rw [← hLA]; exact HHA.out.ok)
   have HBO := Lib.hid (show ∀ y ∈ LB, okI 39 y by rw [← hLB]; exact HHB.out.ok)
   have hfp := fld_its19
   have hfa := fld_arr16
   clear hA hB9 hLA hLB
   have cHA0 := HA.out.2.1
   have cHA1 := HA.out.2.2.1
   have cHA2 := HA.out.2.2.2.1
   have cHA20 := HA2.out.2.1
   have cHA21 := HA2.out.2.2.1
   have cHA22 := HA2.out.2.2.2.1
   go_wp2_with fail
   clear cHA0 cHA1 cHA2 cHA20 cHA21 cHA22
   refine wp_mid (fun s0 s1 w' => ∃ (uT uS : Value) (tio tjo : Option Addr) (tic tjc : Nat), s1 = ((((((((s0.put (some 22) (.agg #[.slice so p.s.length sc, .slice io n ic, .int .i64 f])).put (some 23) uT).put (some 24) (.slice tio n tic)).put (some 25) (.agg #[.slice qo q.s.length qc, .slice jo m jc, .int .i64 g])).put (some 26) uS).put (some 27) (.slice tjo m tjc)).put (some 5) (.slice tio n tic)).put (some 6) (.slice tjo m tjc)) ∧ Its w' (fun _ => True) (.slice tio n tic) LA ∧ Its w' (fun _ => True) (.slice tjo m tjc) LB ∧ Below W12.heap.size W12 w') ?_ ?_
   ·have HW0 := Lib.hid (Below.refl W12.heap.size W12)
    obtain ⟨W13, hWD⟩ : ∃ xw9, W12.drew = xw9 := ⟨_, rfl⟩
    have hB : Below W12.heap.size W12 W13 := by rw [← hWD]; exact Below.drewN' (Below.refl _ _) 1
    replace HA := Lib.hid (HA.out.below hB)
    replace HA2 := Lib.hid (HA2.out.below hB)
    replace HB := Lib.hid (HB.out.trans (hB.mono HB.out.size))
    replace HI := Lib.hid (HI.out.grow hB)
    replace HI2 := Lib.hid (HI2.out.grow hB)
    replace HT := Lib.hid (fun j hj => keep_below hB _ _ (HT.out j hj))
    replace HW0 := Lib.hid (HW0.out.trans (hB.mono HW0.out.size))
    clear hB
    refine wp_region_held_drew (S := fun w' => w'.cell? ⟨w.heap.size, 0, none⟩ = some (.slice so p.s.length sc) ∧ w'.cell? ⟨w.heap.size, 1, none⟩ = some (.slice io n ic) ∧ w'.cell? ⟨w.heap.size, 2, none⟩ = some (.int .i64 f) ∧ w'.cell? ⟨(w.heap.size + 1), 0, none⟩ = some (.slice qo q.s.length qc) ∧ w'.cell? ⟨(w.heap.size + 1), 1, none⟩ = some (.slice jo m jc) ∧ w'.cell? ⟨(w.heap.size + 1), 2, none⟩ = some (.int .i64 g)) (by kernel_rfl) (by rw [hWD]; exact ⟨HA.out.2.1, HA.out.2.2.1, HA.out.2.2.2.1, HA2.out.2.1, HA2.out.2.2.1, HA2.out.2.2.2.1⟩) (fun hHeld => ?_)
    rw [hWD] at hHeld ⊢
    clear hWD
    refine wpAnyH_take (i := 0) (v := ?_) rfl (by kernel_rfl) (by kernel_rfl) (by kernel_rfl) (fun _ _ _ h => absurd h.1 (by simp)) (Or.inl ⟨by rfl, ?_⟩) (by assumption) ?_
    rotate_left
    ·(intro w hSw; (try dsimp only at hSw); go_simp; try with_reducible rfl)
    simp only [Act.put, List.getElem_toArray, List.getElem_cons_zero, List.setIfInBounds_toArray, List.set_cons_zero, List.set_cons_succ]
    refine wpAnyH_take (i := 3) (v := ?_) rfl (by kernel_rfl) (by kernel_rfl) (by kernel_rfl) (fun _ _ _ h => absurd h.1 (by simp)) (Or.inl ⟨by rfl, ?_⟩) (by assumption) ?_
    rotate_left
    ·(intro w hSw; (try dsimp only at hSw); go_simp; try with_reducible rfl)
    simp only [Act.put, List.getElem_toArray, List.getElem_cons_succ, List.getElem_cons_zero, List.setIfInBounds_toArray, List.set_cons_zero, List.set_cons_succ]
    refine wpAnyH_ready (rs := [1]) (by kernel_rfl) (by simp) ?_
    refine AllReadyH.cons (o := _) rfl (fun K hK => ?_) ?_
    ·clear hHeld
     go_simp
     refine (ptidy_calls 40 (fun b => True) p _ _ HC1.out.1 (HI.out)).mono ?_
     rintro e W14 ⟨ut, rfl, hut, hB⟩
     replace HA := Lib.hid (HA.out.below hB)
     replace HA2 := Lib.hid (HA2.out.below hB)
     replace HB := Lib.hid (HB.out.trans (hB.mono HB.out.size))
     replace HI := Lib.hid (HI.out.grow hB)
     replace HI2 := Lib.hid (HI2.out.grow hB)
     replace HT := Lib.hid (fun j hj => keep_below hB _ _ (HT.out j hj))
     replace HW0 := Lib.hid (HW0.out.trans (hB.mono HW0.out.size))
     obtain ⟨tso, tsc, tio, tic, rfl, _, hti⟩ := hut.opened
     rw [HLA.out, HAL.out] at hti ⊢
     have HTI := Lib.hid (show Its W14 (fun _ => True) (.slice tio n tic) LA from hti.wide (fun _ _ _ => trivial))
     clear hut hti
     clear hB
     refine hK.out _ _ ?_ (fun hHeld => ?_)
     ·exact ⟨HA.out.2.1, HA.out.2.2.1, HA.out.2.2.2.1, HA2.out.2.1, HA2.out.2.2.1, HA2.out.2.2.2.1⟩
     clear hK K
     refine wpAnyH_take (i := 2) (v := ?_) rfl (by kernel_rfl) (by kernel_rfl) (by kernel_rfl) (fun _ _ _ h => absurd h.1 (by simp)) (Or.inl ⟨by rfl, ?_⟩) (by assumption) ?_
     rotate_left
     ·(intro w hSw; (try dsimp only at hSw); go_simp; try with_reducible rfl)
     simp only [Act.put, List.getElem_toArray, List.getElem_cons_succ, List.getElem_cons_zero, List.setIfInBounds_toArray, List.set_cons_zero, List.set_cons_succ]
     refine wpAnyH_ready (rs := [4]) (by kernel_rfl) (by simp) ?_
     refine AllReadyH.cons (o := _) rfl (fun K hK => ?_) ?_
     ·clear hHeld
      go_simp
      refine (ptidy_calls 40 (fun b => True) q _ _ HC2.out.1 (HI2.out)).mono ?_
      rintro e W15 ⟨us, rfl, hut, hB⟩
      replace HA := Lib.hid (HA.out.below hB)
      replace HA2 := Lib.hid (HA2.out.below hB)
      replace HB := Lib.hid (HB.out.trans (hB.mono HB.out.size))
      replace HI := Lib.hid (HI.out.grow hB)
      replace HI2 := Lib.hid (HI2.out.grow hB)
      replace HT := Lib.hid (fun j hj => keep_below hB _ _ (HT.out j hj))
      replace HW0 := Lib.hid (HW0.out.trans (hB.mono HW0.out.size))
      replace HTI := Lib.hid (HTI.out.grow hB)
      obtain ⟨tsq, tcq, tjo, tjc, rfl, _, hti⟩ := hut.opened
      rw [HLB.out, HBL.out] at hti ⊢
      have HTJ := Lib.hid (show Its W15 (fun _ => True) (.slice tjo m tjc) LB from hti.wide (fun _ _ _ => trivial))
      clear hut hti
      clear hB
      refine hK.out _ _ ?_ (fun hHeld => ?_)
      ·exact ⟨HA.out.2.1, HA.out.2.2.1, HA.out.2.2.2.1, HA2.out.2.1, HA2.out.2.2.1, HA2.out.2.2.2.1⟩
      clear hK K
      refine wpAnyH_take (i := 5) (v := ?_) rfl (by kernel_rfl) (by kernel_rfl) (by kernel_rfl) (fun _ _ _ h => absurd h.1 (by simp)) (Or.inl ⟨by rfl, ?_⟩) (by assumption) ?_
      rotate_left
      ·(intro w hSw; (try dsimp only at hSw); go_simp; try with_reducible rfl)
      simp only [Act.put, List.getElem_toArray, List.getElem_cons_succ, List.getElem_cons_zero, List.setIfInBounds_toArray, List.set_cons_zero, List.set_cons_succ]
      refine wpAnyH_take (i := 6) (v := ?_) rfl (by kernel_rfl) (by kernel_rfl) (by kernel_rfl) (fun _ _ _ h => absurd h.1 (by simp)) (Or.inl ⟨by rfl, ?_⟩) (by assumption) ?_
      rotate_left
      ·(intro w hSw; (try dsimp only at hSw); go_simp; try with_reducible rfl)
      simp only [Act.put, List.getElem_toArray, List.getElem_cons_succ, List.getElem_cons_zero, List.setIfInBounds_toArray, List.set_cons_zero, List.set_cons_succ]
      refine wpAnyH_take (i := 7) (v := ?_) rfl (by kernel_rfl) (by kernel_rfl) (by kernel_rfl) (fun _ _ _ h => absurd h.1 (by simp)) (Or.inl ⟨by rfl, ?_⟩) (by assumption) ?_
      rotate_left
      ·(intro w hSw; (try dsimp only at hSw); go_simp; try with_reducible rfl)
      simp only [Act.put, List.getElem_toArray, List.getElem_cons_succ, List.getElem_cons_zero, List.setIfInBounds_toArray, List.set_cons_zero, List.set_cons_succ]
      refine wpAnyH_done (by kernel_rfl) ?_ _
      clear hHeld
      exact ⟨rfl, _, _, tio, tjo, tic, tjc, rfl, HTI.out, HTJ.out, HW0.out⟩
     exact AllReadyH.nil
    exact AllReadyH.nil
   rintro _ W14 ⟨uT, uS, tio, tjo, tic, tjc, rfl, h1, h2, hB⟩
   replace HA := Lib.hid (HA.out.below hB)
   replace HA2 := Lib.hid (HA2.out.below hB)
   replace HB := Lib.hid (HB.out.trans (hB.mono HB.out.size))
   replace HI := Lib.hid (HI.out.grow hB)
   replace HI2 := Lib.hid (HI2.out.grow hB)
   replace HT := Lib.hid (fun j hj => keep_below hB _ _ (HT.out j hj))
   have HTI := Lib.hid h1
   have HTJ := Lib.hid h2
   clear h1 h2 hB
   simp only [Act.put, List.setIfInBounds_toArray, List.set_cons_zero, List.set_cons_succ]
   have cHA0 := HA.out.2.1
   have cHA1 := HA.out.2.2.1
   have cHA2 := HA.out.2.2.2.1
   have cHA20 := HA2.out.2.1
   have cHA21 := HA2.out.2.2.1
   have cHA22 := HA2.out.2.2.2.1
   go_wp2_with fail
   have HLTW := Lib.hid (show w.heap.size + 1 < W14.heap.size from HA2.out.1)
   clear cHA0 cHA1 cHA2 cHA20 cHA21 cHA22
   refine wp_mid (fun s0 s1 w' => ∃ (eo es ua ub : Value) (r1 r2 : Nat), s1 = ((((((((s0.put (some 28) (.agg #[.slice so p.s.length sc, .slice io n ic, .int .i64 f])).put (some 29) eo).put (some 30) (.agg #[ua])).put (some 31) (.agg #[.slice qo q.s.length qc, .slice jo m jc, .int .i64 g])).put (some 32) es).put (some 33) (.agg #[ub])).put (some 7) (.pointer (some ⟨r1, 0, none⟩))).put (some 8) (.pointer (some ⟨r2, 0, none⟩))) ∧ At1 w' r1 ua ∧ At1 w' r2 ub ∧ IsV w' (fun _ => True) ua A ∧ IsV w' (fun _ => True) ub B ∧ Below W14.heap.size W14 w') ?_ ?_
   ·have HW0 := Lib.hid (Below.refl W14.heap.size W14)
    have HZ := Lib.hid (Nat.le_refl W14.heap.size)
    obtain ⟨W15, hWD⟩ : ∃ xw9, W14.drew = xw9 := ⟨_, rfl⟩
    have hB : Below W14.heap.size W14 W15 := by rw [← hWD]; exact Below.drewN' (Below.refl _ _) 1
    replace HZ := Lib.hid (And.intro HZ.out hB.size)
    replace HA := Lib.hid (HA.out.below hB)
    replace HA2 := Lib.hid (HA2.out.below hB)
    replace HI := Lib.hid (HI.out.grow hB)
    replace HI2 := Lib.hid (HI2.out.grow hB)
    replace HT := Lib.hid (fun j hj => keep_below hB _ _ (HT.out j hj))
    replace HW0 := Lib.hid (HW0.out.trans (hB.mono HW0.out.size))
    clear hB
    refine wp_region_held_drew (S := fun w' => w'.cell? ⟨w.heap.size, 0, none⟩ = some (.slice so p.s.length sc) ∧ w'.cell? ⟨w.heap.size, 1, none⟩ = some (.slice io n ic) ∧ w'.cell? ⟨w.heap.size, 2, none⟩ = some (.int .i64 f) ∧ w'.cell? ⟨w.heap.size + 1, 0, none⟩ = some (.slice qo q.s.length qc) ∧ w'.cell? ⟨w.heap.size + 1, 1, none⟩ = some (.slice jo m jc) ∧ w'.cell? ⟨w.heap.size + 1, 2, none⟩ = some (.int .i64 g)) (by kernel_rfl) (by rw [hWD]; exact ⟨HA.out.2.1, HA.out.2.2.1, HA.out.2.2.2.1, HA2.out.2.1, HA2.out.2.2.1, HA2.out.2.2.2.1⟩) (fun hHeld => ?_)
    rw [hWD] at hHeld ⊢
    clear hWD
    refine wpAnyH_take (i := 0) (v := ?_) rfl (by kernel_rfl) (by kernel_rfl) (by kernel_rfl) (fun _ _ _ h => absurd h.1 (by simp)) (Or.inl ⟨by rfl, ?_⟩) (by assumption) ?_
    rotate_left
    ·(intro w hSw; (try dsimp only at hSw); go_simp; try with_reducible rfl)
    simp only [Act.put, List.getElem_toArray, List.getElem_cons_zero, List.setIfInBounds_toArray, List.set_cons_zero, List.set_cons_succ]
    refine wpAnyH_take (i := 3) (v := ?_) rfl (by kernel_rfl) (by kernel_rfl) (by kernel_rfl) (fun _ _ _ h => absurd h.1 (by simp)) (Or.inl ⟨by rfl, ?_⟩) (by assumption) ?_
    rotate_left
    ·(intro w hSw; (try dsimp only at hSw); go_simp; try with_reducible rfl)
    simp only [Act.put, List.getElem_toArray, List.getElem_cons_succ, List.getElem_cons_zero, List.setIfInBounds_toArray, List.set_cons_zero, List.set_cons_succ]
    refine wpAnyH_ready (rs := [1, 6, 7]) (by kernel_rfl) (by simp) ?_
    refine AllReadyH.cons (o := _) rfl (fun K hK => ?_) ?_
    ·clear hHeld
     go_simp
     refine (lof_calls _ p _ nd _ HLO.out HI.out HT.out HC1.out.1).mono ?_
     rintro e W16 ⟨s3, c3, ua, rfl, hOR, hB⟩
     replace HZ := Lib.hid (And.intro HZ.out hB.size)
     replace HA := Lib.hid (HA.out.below hB)
     replace HA2 := Lib.hid (HA2.out.below hB)
     replace HI := Lib.hid (HI.out.grow hB)
     replace HI2 := Lib.hid (HI2.out.grow hB)
     replace HT := Lib.hid (fun j hj => keep_below hB _ _ (HT.out j hj))
     replace HW0 := Lib.hid (HW0.out.trans (hB.mono HW0.out.size))
     have HUA := Lib.hid (show IsV W16 (fun b => W15.heap.size ≤ b ∧ b < W16.heap.size) ua A by rw [← HAA.out]; exact hOR.2.lt)
     have hsua := HUA.out.store
     clear hOR
     clear hB
     refine hK.out _ _ ?_ (fun hHeld => ?_)
     ·exact ⟨HA.out.2.1, HA.out.2.2.1, HA.out.2.2.2.1, HA2.out.2.1, HA2.out.2.2.1, HA2.out.2.2.2.1⟩
     clear hK K
     refine wpAnyH_take (i := 2) (v := ?_) rfl (by kernel_rfl) (by kernel_rfl) (by kernel_rfl) (fun _ _ _ h => absurd h.1 (by simp)) (Or.inl ⟨by rfl, ?_⟩) (by assumption) ?_
     rotate_left
     ·(intro w hSw; (try dsimp only at hSw); go_simp; try with_reducible rfl)
     simp only [Act.put, List.getElem_toArray, List.getElem_cons_succ, List.getElem_cons_zero, List.setIfInBounds_toArray, List.set_cons_zero, List.set_cons_succ]
     refine wpAnyH_ready (rs := [4, 6, 7]) (by kernel_rfl) (by simp) ?_
     refine AllReadyH.cons (o := _) rfl (fun K hK => ?_) ?_
     ·clear hHeld
      go_simp
      refine (lof_calls _ q _ md _ HLP.out HI2.out HT.out HC2.out.1).mono ?_
      rintro e W17 ⟨s4, c4, ub, rfl, hOR, hB⟩
      replace HZ := Lib.hid (And.intro HZ.out hB.size)
      replace HA := Lib.hid (HA.out.below hB)
      replace HA2 := Lib.hid (HA2.out.below hB)
      replace HI := Lib.hid (HI.out.grow hB)
      replace HI2 := Lib.hid (HI2.out.grow hB)
      replace HT := Lib.hid (fun j hj => keep_below hB _ _ (HT.out j hj))
      replace HW0 := Lib.hid (HW0.out.trans (hB.mono HW0.out.size))
      replace HUA := Lib.hid (HUA.out.grow hB)
      have HUB := Lib.hid (show IsV W17 (fun b => W16.heap.size ≤ b ∧ b < W17.heap.size) ub B by rw [← HBB.out]; exact hOR.2.lt)
      have hsub := HUB.out.store
      clear hOR
      clear hB
      refine hK.out _ _ ?_ (fun hHeld => ?_)
      ·exact ⟨HA.out.2.1, HA.out.2.2.1, HA.out.2.2.2.1, HA2.out.2.1, HA2.out.2.2.1, HA2.out.2.2.2.1⟩
      clear hK K
      refine wpAnyH_take (i := 5) (v := ?_) rfl (by kernel_rfl) (by kernel_rfl) (by kernel_rfl) (fun _ _ _ h => absurd h.1 (by simp)) (Or.inl ⟨by rfl, ?_⟩) (by assumption) ?_
      rotate_left
      ·(intro w hSw; (try dsimp only at hSw); go_simp; try with_reducible rfl)
      simp only [Act.put, List.getElem_toArray, List.getElem_cons_succ, List.getElem_cons_zero, List.setIfInBounds_toArray, List.set_cons_zero, List.set_cons_succ]
      refine wpAnyH_ready (rs := [6, 7]) (by kernel_rfl) (by simp) ?_
      refine AllReadyH.cons (o := _) rfl (fun K hK => ?_) ?_
      ·clear hHeld
       go_simp
       obtain ⟨W18, hWn⟩ : ∃ xw9, W17.alloc (.cells #[.nilIface] 36) = xw9 := ⟨_, rfl⟩
       have hB : Below W17.heap.size W17 W18 := by rw [← hWn]; exact below_new _ _
       have hNB : At1 W18 W17.heap.size (.nilIface) := by rw [← hWn]; exact At1.new _ _ _
       rw [hWn]
       clear hWn
       obtain ⟨r1, hnm⟩ : ∃ x, W17.heap.size = x := ⟨_, rfl⟩
       rw [hnm] at hNB ⊢
       replace HZ := Lib.hid (And.intro HZ.out (And.intro hnm hNB.1))
       replace HA := Lib.hid (HA.out.below hB)
       replace HA2 := Lib.hid (HA2.out.below hB)
       replace HI := Lib.hid (HI.out.grow hB)
       replace HI2 := Lib.hid (HI2.out.grow hB)
       replace HT := Lib.hid (fun j hj => keep_below hB _ _ (HT.out j hj))
       replace HW0 := Lib.hid (HW0.out.trans (hB.mono HW0.out.size))
       replace HUA := Lib.hid (HUA.out.grow hB)
       replace HUB := Lib.hid (HUB.out.grow hB)
       have HR1 := Lib.hid hNB
       clear hNB hB hnm
       refine hK.out _ _ ?_ (fun hHeld => ?_)
       ·exact ⟨HA.out.2.1, HA.out.2.2.1, HA.out.2.2.2.1, HA2.out.2.1, HA2.out.2.2.1, HA2.out.2.2.2.1⟩
       clear hK K
       refine wpAnyH_ready (rs := [7]) (by kernel_rfl) (by simp) ?_
       refine AllReadyH.cons (o := _) rfl (fun K hK => ?_) ?_
       ·clear hHeld
        go_simp
        obtain ⟨W19, hWn⟩ : ∃ xw9, W18.alloc (.cells #[.nilIface] 36) = xw9 := ⟨_, rfl⟩
        have hB : Below W18.heap.size W18 W19 := by rw [← hWn]; exact below_new _ _
        have hNB : At1 W19 W18.heap.size (.nilIface) := by rw [← hWn]; exact At1.new _ _ _
        rw [hWn]
        clear hWn
        obtain ⟨r2, hnm⟩ : ∃ x, W18.heap.size = x := ⟨_, rfl⟩
        rw [hnm] at hNB ⊢
        replace HZ := Lib.hid (And.intro HZ.out (And.intro hnm hNB.1))
        replace HA := Lib.hid (HA.out.below hB)
        replace HA2 := Lib.hid (HA2.out.below hB)
        replace HI := Lib.hid (HI.out.grow hB)
        replace HI2 := Lib.hid (HI2.out.grow hB)
        replace HT := Lib.hid (fun j hj => keep_below hB _ _ (HT.out j hj))
        replace HW0 := Lib.hid (HW0.out.trans (hB.mono HW0.out.size))
        replace HUA := Lib.hid (HUA.out.grow hB)
        replace HUB := Lib.hid (HUB.out.grow hB)
        replace HR1 := Lib.hid (HR1.out.below hB)
        have HR2 := Lib.hid hNB
        clear hNB hB hnm
        refine hK.out _ _ ?_ (fun hHeld => ?_)
        ·exact ⟨HA.out.2.1, HA.out.2.2.1, HA.out.2.2.2.1, HA2.out.2.1, HA2.out.2.2.1, HA2.out.2.2.2.1⟩
        clear hK K
        refine wpAnyH_ready (rs := [8]) (by kernel_rfl) (by simp) ?_
        refine AllReadyH.cons (o := _) rfl (fun K hK => ?_) ?_
        ·clear hHeld
         have s0 := HR1.out.2.1
         have t0 := HR1.out.2.2 0
         go_simp
         clear s0 t0
         obtain ⟨W20, hWn⟩ : ∃ xw9, W19.setCell ⟨r1, 0, none⟩ ua = xw9 := ⟨_, rfl⟩
         rw [hWn]
         replace HUA := Lib.hid (show IsV W20 _ ua A by rw [← hWn]; exact HUA.out.keep (Kept.setCell _ _ _ (fun h => by have := HZ.out; simp only at h; omega)) (fun _ _ h => h))
         replace HUB := Lib.hid (show IsV W20 _ ub B by rw [← hWn]; exact HUB.out.keep (Kept.setCell _ _ _ (fun h => by have := HZ.out; simp only at h; omega)) (fun _ _ h => h))
         replace HW0 := Lib.hid (show Below W14.heap.size W14 W20 by rw [← hWn]; exact HW0.out.setCell (p := ⟨r1, 0, none⟩) (by have := HZ.out; simp only; omega) _)
         replace HR1 := Lib.hid (show At1 W20 r1 ua by rw [← hWn]; exact At1.put1 HR1.out _)
         replace HR2 := Lib.hid (show At1 W20 r2 .nilIface by rw [← hWn]; exact HR2.out.grown (grown_setCell _ ⟨r1, 0, none⟩ _) (by have := HZ.out; simp; omega))
         replace HA := Lib.hid (show At3 W20 w.heap.size (.slice so p.s.length sc) (.slice io n ic) (.int .i64 f) by rw [← hWn]; exact HA.out.grown (grown_setCell _ ⟨r1, 0, none⟩ _) (by have := HZ.out; have := HLTW.out; simp; omega))
         replace HA2 := Lib.hid (show At3 W20 (w.heap.size + 1) (.slice qo q.s.length qc) (.slice jo m jc) (.int .i64 g) by rw [← hWn]; exact HA2.out.grown (grown_setCell _ ⟨r1, 0, none⟩ _) (by have := HZ.out; have := HLTW.out; simp; omega))
         clear hWn
         refine hK.out _ _ ?_ (fun hHeld => ?_)
         ·exact ⟨HA.out.2.1, HA.out.2.2.1, HA.out.2.2.2.1, HA2.out.2.1, HA2.out.2.2.1, HA2.out.2.2.2.1⟩
         clear hK K
         refine wpAnyH_ready (rs := [9]) (by kernel_rfl) (by simp) ?_
         refine AllReadyH.cons (o := _) rfl (fun K hK => ?_) ?_
         ·clear hHeld
          have s0 := HR2.out.2.1
          have t0 := HR2.out.2.2 0
          go_simp
          clear s0 t0
          obtain ⟨W21, hWn⟩ : ∃ xw9, W20.setCell ⟨r2, 0, none⟩ ub = xw9 := ⟨_, rfl⟩
          rw [hWn]
          replace HUA := Lib.hid (show IsV W21 _ ua A by rw [← hWn]; exact HUA.out.keep (Kept.setCell _ _ _ (fun h => by have := HZ.out; simp only at h; omega)) (fun _ _ h => h))
          replace HUB := Lib.hid (show IsV W21 _ ub B by rw [← hWn]; exact HUB.out.keep (Kept.setCell _ _ _ (fun h => by have := HZ.out; simp only at h; omega)) (fun _ _ h => h))
          replace HW0 := Lib.hid (show Below W14.heap.size W14 W21 by rw [← hWn]; exact HW0.out.setCell (p := ⟨r2, 0, none⟩) (by have := HZ.out; simp only; omega) _)
          replace HR2 := Lib.hid (show At1 W21 r2 ub by rw [← hWn]; exact At1.put1 HR2.out _)
          replace HR1 := Lib.hid (show At1 W21 r1 ua by rw [← hWn]; exact HR1.out.grown (grown_setCell _ ⟨r2, 0, none⟩ _) (by have := HZ.out; simp; omega))
          replace HA := Lib.hid (show At3 W21 w.heap.size (.slice so p.s.length sc) (.slice io n ic) (.int .i64 f) by rw [← hWn]; exact HA.out.grown (grown_setCell _ ⟨r2, 0, none⟩ _) (by have := HZ.out; have := HLTW.out; simp; omega))
          replace HA2 := Lib.hid (show At3 W21 (w.heap.size + 1) (.slice qo q.s.length qc) (.slice jo m jc) (.int .i64 g) by rw [← hWn]; exact HA2.out.grown (grown_setCell _ ⟨r2, 0, none⟩ _) (by have := HZ.out; have := HLTW.out; simp; omega))
          clear hWn
          refine hK.out _ _ ?_ (fun hHeld => ?_)
          ·exact ⟨HA.out.2.1, HA.out.2.2.1, HA.out.2.2.2.1, HA2.out.2.1, HA2.out.2.2.1, HA2.out.2.2.2.1⟩
          clear hK K
          refine wpAnyH_done (by kernel_rfl) ?_ _
          clear hHeld
          exact ⟨rfl, _, _, ua, ub, r1, r2, rfl, HR1.out, HR2.out, IsV.any HUA.out, IsV.any HUB.out, HW0.out⟩
         exact AllReadyH.nil
        exact AllReadyH.nil
       exact AllReadyH.nil
      refine AllReadyH.cons (o := _) rfl (fun K hK => ?_) ?_
      ·clear hHeld
       go_simp
       obtain ⟨W18, hWn⟩ : ∃ xw9, W17.alloc (.cells #[.nilIface] 36) = xw9 := ⟨_, rfl⟩
       have hB : Below W17.heap.size W17 W18 := by rw [← hWn]; exact below_new _ _
       have hNB : At1 W18 W17.heap.size (.nilIface) := by rw [← hWn]; exact At1.new _ _ _
       rw [hWn]
       clear hWn
       obtain ⟨r2, hnm⟩ : ∃ x, W17.heap.size = x := ⟨_, rfl⟩
       rw [hnm] at hNB ⊢
       replace HZ := Lib.hid (And.intro HZ.out (And.intro hnm hNB.1))
       replace HA := Lib.hid (HA.out.below hB)
       replace HA2 := Lib.hid (HA2.out.below hB)
       replace HI := Lib.hid (HI.out.grow hB)
       replace HI2 := Lib.hid (HI2.out.grow hB)
       replace HT := Lib.hid (fun j hj => keep_below hB _ _ (HT.out j hj))
       replace HW0 := Lib.hid (HW0.out.trans (hB.mono HW0.out.size))
       replace HUA := Lib.hid (HUA.out.grow hB)
       replace HUB := Lib.hid (HUB.out.grow hB)
       have HR2 := Lib.hid hNB
       clear hNB hB hnm
       refine hK.out _ _ ?_ (fun hHeld => ?_)
       ·exact ⟨HA.out.2.1, HA.out.2.2.1, HA.out.2.2.2.1, HA2.out.2.1, HA2.out.2.2.1, HA2.out.2.2.2.1⟩
       clear hK K
       refine wpAnyH_ready (rs := [6]) (by kernel_rfl) (by simp) ?_
       refine AllReadyH.cons (o := _) rfl (fun K hK => ?_) ?_
       ·clear hHeld
        go_simp
        obtain ⟨W19, hWn⟩ : ∃ xw9, W18.alloc (.cells #[.nilIface] 36) = xw9 := ⟨_, rfl⟩
        have hB : Below W18.heap.size W18 W19 := by rw [← hWn]; exact below_new _ _
        have hNB : At1 W19 W18.heap.size (.nilIface) := by rw [← hWn]; exact At1.new _ _ _
        rw [hWn]
        clear hWn
        obtain ⟨r1, hnm⟩ : ∃ x, W18.heap.size = x := ⟨_, rfl⟩
        rw [hnm] at hNB ⊢
        replace HZ := Lib.hid (And.intro HZ.out (And.intro hnm hNB.1))
        replace HA := Lib.hid (HA.out.below hB)
        replace HA2 := Lib.hid (HA2.out.below hB)
        replace HI := Lib.hid (HI.out.grow hB)
        replace HI2 := Lib.hid (HI2.out.grow hB)
        replace HT := Lib.hid (fun j hj => keep_below hB _ _ (HT.out j hj))
        replace HW0 := Lib.hid (HW0.out.trans (hB.mono HW0.out.size))
        replace HUA := Lib.hid (HUA.out.grow hB)
        replace HUB := Lib.hid (HUB.out.grow hB)
        replace HR2 := Lib.hid (HR2.out.below hB)
        have HR1 := Lib.hid hNB
        clear hNB hB hnm
        refine hK.out _ _ ?_ (fun hHeld => ?_)
        ·exact ⟨HA.out.2.1, HA.out.2.2.1, HA.out.2.2.2.1, HA2.out.2.1, HA2.out.2.2.1, HA2.out.2.2.2.1⟩
        clear hK K
        refine wpAnyH_ready (rs := [8]) (by kernel_rfl) (by simp) ?_
        refine AllReadyH.cons (o := _) rfl (fun K hK => ?_) ?_
        ·clear hHeld
         have s0 := HR1.out.2.1
         have t0 := HR1.out.2.2 0
         go_simp
         clear s0 t0
         obtain ⟨W20, hWn⟩ : ∃ xw9, W19.setCell ⟨r1, 0, none⟩ ua = xw9 := ⟨_, rfl⟩
         rw [hWn]
         replace HUA := Lib.hid (show IsV W20 _ ua A by rw [← hWn]; exact HUA.out.keep (Kept.setCell _ _ _ (fun h => by have := HZ.out; simp only at h; omega)) (fun _ _ h => h))
         replace HUB := Lib.hid (show IsV W20 _ ub B by rw [← hWn]; exact HUB.out.keep (Kept.setCell _ _ _ (fun h => by have := HZ.out; simp only at h; omega)) (fun _ _ h => h))
         replace HW0 := Lib.hid (show Below W14.heap.size W14 W20 by rw [← hWn]; exact HW0.out.setCell (p := ⟨r1, 0, none⟩) (by have := HZ.out; simp only; omega) _)
         replace HR1 := Lib.hid (show At1 W20 r1 ua by rw [← hWn]; exact At1.put1 HR1.out _)
         replace HR2 := Lib.hid (show At1 W20 r2 .nilIface by rw [← hWn]; exact HR2.out.grown (grown_setCell _ ⟨r1, 0, none⟩ _) (by have := HZ.out; simp; omega))
         replace HA := Lib.hid (show At3 W20 w.heap.size (.slice so p.s.length sc) (.slice io n ic) (.int .i64 f) by rw [← hWn]; exact HA.out.grown (grown_setCell _ ⟨r1, 0, none⟩ _) (by have := HZ.out; have := HLTW.out; simp; omega))
         replace HA2 := Lib.hid (show At3 W20 (w.heap.size + 1) (.slice qo q.s.length qc) (.slice jo m jc) (.int .i64 g) by rw [← hWn]; exact HA2.out.grown (grown_setCell _ ⟨r1, 0, none⟩ _) (by have := HZ.out; have := HLTW.out; simp; omega))
         clear hWn
         refine hK.out _ _ ?_ (fun hHeld => ?_)
         ·exact ⟨HA.out.2.1, HA.out.2.2.1, HA.out.2.2.2.1, HA2.out.2.1, HA2.out.2.2.1, HA2.out.2.2.2.1⟩
         clear hK K
         refine wpAnyH_ready (rs := [9]) (by kernel_rfl) (by simp) ?_
         refine AllReadyH.cons (o := _) rfl (fun K hK => ?_) ?_
         ·clear hHeld
          have s0 := HR2.out.2.1
          have t0 := HR2.out.2.2 0
          go_simp
          clear s0 t0
          obtain ⟨W21, hWn⟩ : ∃ xw9, W20.setCell ⟨r2, 0, none⟩ ub = xw9 := ⟨_, rfl⟩
          rw [hWn]
          replace HUA := Lib.hid (show IsV W21 _ ua A by rw [← hWn]; exact HUA.out.keep (Kept.setCell _ _ _ (fun h => by have := HZ.out; simp only at h; omega)) (fun _ _ h => h))
          replace HUB := Lib.hid (show IsV W21 _ ub B by rw [← hWn]; exact HUB.out.keep (Kept.setCell _ _ _ (fun h => by have := HZ.out; simp only at h; omega)) (fun _ _ h => h))
          replace HW0 := Lib.hid (show Below W14.heap.size W14 W21 by rw [← hWn]; exact HW0.out.setCell (p := ⟨r2, 0, none⟩) (by have := HZ.out; simp only; omega) _)
          replace HR2 := Lib.hid (show At1 W21 r2 ub by rw [← hWn]; exact At1.put1 HR2.out _)
          replace HR1 := Lib.hid (show At1 W21 r1 ua by rw [← hWn]; exact HR1.out.grown (grown_setCell _ ⟨r2, 0, none⟩ _) (by have := HZ.out; simp; omega))
          replace HA := Lib.hid (show At3 W21 w.heap.size (.slice so p.s.length sc) (.slice io n ic) (.int .i64 f) by rw [← hWn]; exact HA.out.grown (grown_setCell _ ⟨r2, 0, none⟩ _) (by have := HZ.out; have := HLTW.out; simp; omega))
          replace HA2 := Lib.hid (show At3 W21 (w.heap.size + 1) (.slice qo q.s.length qc) (.slice jo m jc) (.int .i64 g) by rw [← hWn]; exact HA2.out.grown (grown_setCell _ ⟨r2, 0, none⟩ _) (by have := HZ.out; have := HLTW.out; simp; omega))
          clear hWn
          refine hK.out _ _ ?_ (fun hHeld => ?_)
          ·exact ⟨HA.out.2.1, HA.out.2.2.1, HA.out.2.2.2.1, HA2.out.2.1, HA2.out.2.2.1, HA2.out.2.2.2.1⟩
          clear hK K
          refine wpAnyH_done (by kernel_rfl) ?_ _
          clear hHeld
          exact ⟨rfl, _, _, ua, ub, r1, r2, rfl, HR1.out, HR2.out, IsV.any HUA.out, IsV.any HUB.out, HW0.out⟩
         exact AllReadyH.nil
        exact AllReadyH.nil
       exact AllReadyH.nil
      exact AllReadyH.nil
     refine AllReadyH.cons (o := _) rfl (fun K hK => ?_) ?_
     ·clear hHeld
      go_simp
      obtain ⟨W17, hWn⟩ : ∃ xw9, W16.alloc (.cells #[.nilIface] 36) = xw9 := ⟨_, rfl⟩
      have hB : Below W16.heap.size W16 W17 := by rw [← hWn]; exact below_new _ _
      have hNB : At1 W17 W16.heap.size (.nilIface) := by rw [← hWn]; exact At1.new _ _ _
      rw [hWn]
      clear hWn
      obtain ⟨r1, hnm⟩ : ∃ x, W16.heap.size = x := ⟨_, rfl⟩
      rw [hnm] at hNB ⊢
      replace HZ := Lib.hid (And.intro HZ.out (And.intro hnm hNB.1))
      replace HA := Lib.hid (HA.out.below hB)
      replace HA2 := Lib.hid (HA2.out.below hB)
      replace HI := Lib.hid (HI.out.grow hB)
      replace HI2 := Lib.hid (HI2.out.grow hB)
      replace HT := Lib.hid (fun j hj => keep_below hB _ _ (HT.out j hj))
      replace HW0 := Lib.hid (HW0.out.trans (hB.mono HW0.out.size))
      replace HUA := Lib.hid (HUA.out.grow hB)
      have HR1 := Lib.hid hNB
      clear hNB hB hnm
      refine hK.out _ _ ?_ (fun hHeld => ?_)
      ·exact ⟨HA.out.2.1, HA.out.2.2.1, HA.out.2.2.2.1, HA2.out.2.1, HA2.out.2.2.1, HA2.out.2.2.2.1⟩
      clear hK K
      refine wpAnyH_ready (rs := [4, 7]) (by kernel_rfl) (by simp) ?_
      refine AllReadyH.cons (o := _) rfl (fun K hK => ?_) ?_
      ·clear hHeld
       go_simp
       refine (lof_calls _ q _ md _ HLP.out HI2.out HT.out HC2.out.1).mono ?_
       rintro e W18 ⟨s4, c4, ub, rfl, hOR, hB⟩
       replace HZ := Lib.hid (And.intro HZ.out hB.size)
       replace HA := Lib.hid (HA.out.below hB)
       replace HA2 := Lib.hid (HA2.out.below hB)
       replace HI := Lib.hid (HI.out.grow hB)
       replace HI2 := Lib.hid (HI2.out.grow hB)
       replace HT := Lib.hid (fun j hj => keep_below hB _ _ (HT.out j hj))
       replace HW0 := Lib.hid (HW0.out.trans (hB.mono HW0.out.size))
       replace HUA := Lib.hid (HUA.out.grow hB)
       replace HR1 := Lib.hid (HR1.out.below hB)
       have HUB := Lib.hid (show IsV W18 (fun b => W17.heap.size ≤ b ∧ b < W18.heap.size) ub B by rw [← HBB.out]; exact hOR.2.lt)
       have hsub := HUB.out.store
       clear hOR
       clear hB
       refine hK.out _ _ ?_ (fun hHeld => ?_)
       ·exact ⟨HA.out.2.1, HA.out.2.2.1, HA.out.2.2.2.1, HA2.out.2.1, HA2.out.2.2.1, HA2.out.2.2.2.1⟩
       clear hK K
       refine wpAnyH_take (i := 5) (v := ?_) rfl (by kernel_rfl) (by kernel_rfl) (by kernel_rfl) (fun _ _ _ h => absurd h.1 (by simp)) (Or.inl ⟨by rfl, ?_⟩) (by assumption) ?_
       rotate_left
       ·(intro w hSw; (try dsimp only at hSw); go_simp; try with_reducible rfl)
       simp only [Act.put, List.getElem_toArray, List.getElem_cons_succ, List.getElem_cons_zero, List.setIfInBounds_toArray, List.set_cons_zero, List.set_cons_succ]
       refine wpAnyH_ready (rs := [7]) (by kernel_rfl) (by simp) ?_
       refine AllReadyH.cons (o := _) rfl (fun K hK => ?_) ?_
       ·clear hHeld
        go_simp
        obtain ⟨W19, hWn⟩ : ∃ xw9, W18.alloc (.cells #[.nilIface] 36) = xw9 := ⟨_, rfl⟩
        have hB : Below W18.heap.size W18 W19 := by rw [← hWn]; exact below_new _ _
        have hNB : At1 W19 W18.heap.size (.nilIface) := by rw [← hWn]; exact At1.new _ _ _
        rw [hWn]
        clear hWn
        obtain ⟨r2, hnm⟩ : ∃ x, W18.heap.size = x := ⟨_, rfl⟩
        rw [hnm] at hNB ⊢
        replace HZ := Lib.hid (And.intro HZ.out (And.intro hnm hNB.1))
        replace HA := Lib.hid (HA.out.below hB)
        replace HA2 := Lib.hid (HA2.out.below hB)
        replace HI := Lib.hid (HI.out.grow hB)
        replace HI2 := Lib.hid (HI2.out.grow hB)
        replace HT := Lib.hid (fun j hj => keep_below hB _ _ (HT.out j hj))
        replace HW0 := Lib.hid (HW0.out.trans (hB.mono HW0.out.size))
        replace HUA := Lib.hid (HUA.out.grow hB)
        replace HR1 := Lib.hid (HR1.out.below hB)
        replace HUB := Lib.hid (HUB.out.grow hB)
        have HR2 := Lib.hid hNB
        clear hNB hB hnm
        refine hK.out _ _ ?_ (fun hHeld => ?_)
        ·exact ⟨HA.out.2.1, HA.out.2.2.1, HA.out.2.2.2.1, HA2.out.2.1, HA2.out.2.2.1, HA2.out.2.2.2.1⟩
        clear hK K
        refine wpAnyH_ready (rs := [8]) (by kernel_rfl) (by simp) ?_
        refine AllReadyH.cons (o := _) rfl (fun K hK => ?_) ?_
        ·clear hHeld
         have s0 := HR1.out.2.1
         have t0 := HR1.out.2.2 0
         go_simp
         clear s0 t0
         obtain ⟨W20, hWn⟩ : ∃ xw9, W19.setCell ⟨r1, 0, none⟩ ua = xw9 := ⟨_, rfl⟩
         rw [hWn]
         replace HUA := Lib.hid (show IsV W20 _ ua A by rw [← hWn]; exact HUA.out.keep (Kept.setCell _ _ _ (fun h => by have := HZ.out; simp only at h; omega)) (fun _ _ h => h))
         replace HUB := Lib.hid (show IsV W20 _ ub B by rw [← hWn]; exact HUB.out.keep (Kept.setCell _ _ _ (fun h => by have := HZ.out; simp only at h; omega)) (fun _ _ h => h))
         replace HW0 := Lib.hid (show Below W14.heap.size W14 W20 by rw [← hWn]; exact HW0.out.setCell (p := ⟨r1, 0, none⟩) (by have := HZ.out; simp only; omega) _)
         replace HR1 := Lib.hid (show At1 W20 r1 ua by rw [← hWn]; exact At1.put1 HR1.out _)
         replace HR2 := Lib.hid (show At1 W20 r2 .nilIface by rw [← hWn]; exact HR2.out.grown (grown_setCell _ ⟨r1, 0, none⟩ _) (by have := HZ.out; simp; omega))
         replace HA := Lib.hid (show At3 W20 w.heap.size (.slice so p.s.length sc) (.slice io n ic) (.int .i64 f) by rw [← hWn]; exact HA.out.grown (grown_setCell _ ⟨r1, 0, none⟩ _) (by have := HZ.out; have := HLTW.out; simp; omega))
         replace HA2 := Lib.hid (show At3 W20 (w.heap.size + 1) (.slice qo q.s.length qc) (.slice jo m jc) (.int .i64 g) by rw [← hWn]; exact HA2.out.grown (grown_setCell _ ⟨r1, 0, none⟩ _) (by have := HZ.out; have := HLTW.out; simp; omega))
         clear hWn
         refine hK.out _ _ ?_ (fun hHeld => ?_)
         ·exact ⟨HA.out.2.1, HA.out.2.2.1, HA.out.2.2.2.1, HA2.out.2.1, HA2.out.2.2.1, HA2.out.2.2.2.1⟩
         clear hK K
         refine wpAnyH_ready (rs := [9]) (by kernel_rfl) (by simp) ?_
         refine AllReadyH.cons (o := _) rfl (fun K hK => ?_) ?_
         ·clear hHeld
          have s0 := HR2.out.2.1
          have t0 := HR2.out.2.2 0
          go_simp
          clear s0 t0
          obtain ⟨W21, hWn⟩ : ∃ xw9, W20.setCell ⟨r2, 0, none⟩ ub = xw9 := ⟨_, rfl⟩
          rw [hWn]
          replace HUA := Lib.hid (show IsV W21 _ ua A by rw [← hWn]; exact HUA.out.keep (Kept.setCell _ _ _ (fun h => by have := HZ.out; simp only at h; omega)) (fun _ _ h => h))
          replace HUB := Lib.hid (show IsV W21 _ ub B by rw [← hWn]; exact HUB.out.keep (Kept.setCell _ _ _ (fun h => by have := HZ.out; simp only at h; omega)) (fun _ _ h => h))
          replace HW0 := Lib.hid (show Below W14.heap.size W14 W21 by rw [← hWn]; exact HW0.out.setCell (p := ⟨r2, 0, none⟩) (by have := HZ.out; simp only; omega) _)
          replace HR2 := Lib.hid (show At1 W21 r2 ub by rw [← hWn]; exact At1.put1 HR2.out _)
          replace HR1 := Lib.hid (show At1 W21 r1 ua by rw [← hWn]; exact HR1.out.grown (grown_setCell _ ⟨r2, 0, none⟩ _) (by have := HZ.out; simp; omega))
          replace HA := Lib.hid (show At3 W21 w.heap.size (.slice so p.s.length sc) (.slice io n ic) (.int .i64 f) by rw [← hWn]; exact HA.out.grown (grown_setCell _ ⟨r2, 0, none⟩ _) (by have := HZ.out; have := HLTW.out; simp; omega))
          replace HA2 := Lib.hid (show At3 W21 (w.heap.size + 1) (.slice qo q.s.length qc) (.slice jo m jc) (.int .i64 g) by rw [← hWn]; exact HA2.out.grown (grown_setCell _ ⟨r2, 0, none⟩ _) (by have := HZ.out; have := HLTW.out; simp; omega))
          clear hWn
          refine hK.out _ _ ?_ (fun hHeld => ?_)
          ·exact ⟨HA.out.2.1, HA.out.2.2.1, HA.out.2.2.2.1, HA2.out.2.1, HA2.out.2.2.1, HA2.out.2.2.2.1⟩
          clear hK K
          refine wpAnyH_done (by kernel_rfl) ?_ _
          clear hHeld
          exact ⟨rfl, _, _, ua, ub, r1, r2, rfl, HR1.out, HR2.out, IsV.any HUA.out, IsV.any HUB.out, HW0.out⟩
         exact AllReadyH.nil
        exact AllReadyH.nil
       exact AllReadyH.nil
      refine AllReadyH.cons (o := _) rfl (fun K hK => ?_) ?_
      ·clear hHeld
       go_simp
       obtain ⟨W18, hWn⟩ : ∃ xw9, W17.alloc (.cells #[.nilIface] 36) = xw9 := ⟨_, rfl⟩
       have hB : Below W17.heap.size W17 W18 := by rw [← hWn]; exact below_new _ _
       have hNB : At1 W18 W17.heap.size (.nilIface) := by rw [← hWn]; exact At1.new _ _ _
       rw [hWn]
       clear hWn
       obtain ⟨r2, hnm⟩ : ∃ x, W17.heap.size = x := ⟨_, rfl⟩
       rw [hnm] at hNB ⊢
       replace HZ := Lib.hid (And.intro HZ.out (And.intro hnm hNB.1))
       replace HA := Lib.hid (HA.out.below hB)
       replace HA2 := Lib.hid (HA2.out.below hB)
       replace HI := Lib.hid (HI.out.grow hB)
       replace HI2 := Lib.hid (HI2.out.grow hB)
       replace HT := Lib.hid (fun j hj => keep_below hB _ _ (HT.out j hj))
       replace HW0 := Lib.hid (HW0.out.trans (hB.mono HW0.out.size))
       replace HUA := Lib.hid (HUA.out.grow hB)
       replace HR1 := Lib.hid (HR1.out.below hB)
       have HR2 := Lib.hid hNB
       clear hNB hB hnm
       refine hK.out _ _ ?_ (fun hHeld => ?_)
       ·exact ⟨HA.out.2.1, HA.out.2.2.1, HA.out.2.2.2.1, HA2.out.2.1, HA2.out.2.2.1, HA2.out.2.2.2.1⟩
       clear hK K
       refine wpAnyH_ready (rs := [4]) (by kernel_rfl) (by simp) ?_
       refine AllReadyH.cons (o := _) rfl (fun K hK => ?_) ?_
       ·clear hHeld
        go_simp
        refine (lof_calls _ q _ md _ HLP.out HI2.out HT.out HC2.out.1).mono ?_
        rintro e W19 ⟨s4, c4, ub, rfl, hOR, hB⟩
        replace HZ := Lib.hid (And.intro HZ.out hB.size)
        replace HA := Lib.hid (HA.out.below hB)
        replace HA2 := Lib.hid (HA2.out.below hB)
        replace HI := Lib.hid (HI.out.grow hB)
        replace HI2 := Lib.hid (HI2.out.grow hB)
        replace HT := Lib.hid (fun j hj => keep_below hB _ _ (HT.out j hj))
        replace HW0 := Lib.hid (HW0.out.trans (hB.mono HW0.out.size))
        replace HUA := Lib.hid (HUA.out.grow hB)
        replace HR1 := Lib.hid (HR1.out.below hB)
        replace HR2 := Lib.hid (HR2.out.below hB)
        have HUB := Lib.hid (show IsV W19 (fun b => W18.heap.size ≤ b ∧ b < W19.heap.size) ub B by rw [← HBB.out]; exact hOR.2.lt)
        have hsub := HUB.out.store
        clear hOR
        clear hB
        refine hK.out _ _ ?_ (fun hHeld => ?_)
        ·exact ⟨HA.out.2.1, HA.out.2.2.1, HA.out.2.2.2.1, HA2.out.2.1, HA2.out.2.2.1, HA2.out.2.2.2.1⟩
        clear hK K
        refine wpAnyH_take (i := 5) (v := ?_) rfl (by kernel_rfl) (by kernel_rfl) (by kernel_rfl) (fun _ _ _ h => absurd h.1 (by simp)) (Or.inl ⟨by rfl, ?_⟩) (by assumption) ?_
        rotate_left
        ·(intro w hSw; (try dsimp only at hSw); go_simp; try with_reducible rfl)
        simp only [Act.put, List.getElem_toArray, List.getElem_cons_succ, List.getElem_cons_zero, List.setIfInBounds_toArray, List.set_cons_zero, List.set_cons_succ]
        refine wpAnyH_ready (rs := [8]) (by kernel_rfl) (by simp) ?_
        refine AllReadyH.cons (o := _) rfl (fun K hK => ?_) ?_
        ·clear hHeld
         have s0 := HR1.out.2.1
         have t0 := HR1.out.2.2 0
         go_simp
         clear s0 t0
         obtain ⟨W20, hWn⟩ : ∃ xw9, W19.setCell ⟨r1, 0, none⟩ ua = xw9 := ⟨_, rfl⟩
         rw [hWn]
         replace HUA := Lib.hid (show IsV W20 _ ua A by rw [← hWn]; exact HUA.out.keep (Kept.setCell _ _ _ (fun h => by have := HZ.out; simp only at h; omega)) (fun _ _ h => h))
         replace HUB := Lib.hid (show IsV W20 _ ub B by rw [← hWn]; exact HUB.out.keep (Kept.setCell _ _ _ (fun h => by have := HZ.out; simp only at h; omega)) (fun _ _ h => h))
         replace HW0 := Lib.hid (show Below W14.heap.size W14 W20 by rw [← hWn]; exact HW0.out.setCell (p := ⟨r1, 0, none⟩) (by have := HZ.out; simp only; omega) _)
         replace HR1 := Lib.hid (show At1 W20 r1 ua by rw [← hWn]; exact At1.put1 HR1.out _)
         replace HR2 := Lib.hid (show At1 W20 r2 .nilIface by rw [← hWn]; exact HR2.out.grown (grown_setCell _ ⟨r1, 0, none⟩ _) (by have := HZ.out; simp; omega))
         replace HA := Lib.hid (show At3 W20 w.heap.size (.slice so p.s.length sc) (.slice io n ic) (.int .i64 f) by rw [← hWn]; exact HA.out.grown (grown_setCell _ ⟨r1, 0, none⟩ _) (by have := HZ.out; have := HLTW.out; simp; omega))
         replace HA2 := Lib.hid (show At3 W20 (w.heap.size + 1) (.slice qo q.s.length qc) (.slice jo m jc) (.int .i64 g) by rw [← hWn]; exact HA2.out.grown (grown_setCell _ ⟨r1, 0, none⟩ _) (by have := HZ.out; have := HLTW.out; simp; omega))
         clear hWn
         refine hK.out _ _ ?_ (fun hHeld => ?_)
         ·exact ⟨HA.out.2.1, HA.out.2.2.1, HA.out.2.2.2.1, HA2.out.2.1, HA2.out.2.2.1, HA2.out.2.2.2.1⟩
         clear hK K
         refine wpAnyH_ready (rs := [9]) (by kernel_rfl) (by simp) ?_
         refine AllReadyH.cons (o := _) rfl (fun K hK => ?_) ?_
         ·clear hHeld
          have s0 := HR2.out.2.1
          have t0 := HR2.out.2.2 0
          go_simp
          clear s0 t0
          obtain ⟨W21, hWn⟩ : ∃ xw9, W20.setCell ⟨r2, 0, none⟩ ub = xw9 := ⟨_, rfl⟩
          rw [hWn]
          replace HUA := Lib.hid (show IsV W21 _ ua A by rw [← hWn]; exact HUA.out.keep (Kept.setCell _ _ _ (fun h => by have := HZ.out; simp only at h; omega)) (fun _ _ h => h))
          replace HUB := Lib.hid (show IsV W21 _ ub B by rw [← hWn]; exact HUB.out.keep (Kept.setCell _ _ _ (fun h => by have := HZ.out; simp only at h; omega)) (fun _ _ h => h))
          replace HW0 := Lib.hid (show Below W14.heap.size W14 W21 by rw [← hWn]; exact HW0.out.setCell (p := ⟨r2, 0, none⟩) (by have := HZ.out; simp only; omega) _)
          replace HR2 := Lib.hid (show At1 W21 r2 ub by rw [← hWn]; exact At1.put1 HR2.out _)
          replace HR1 := Lib.hid (show At1 W21 r1 ua by rw [← hWn]; exact HR1.out.grown (grown_setCell _ ⟨r2, 0, none⟩ _) (by have := HZ.out; simp; omega))
          replace HA := Lib.hid (show At3 W21 w.heap.size (.slice so p.s.length sc) (.slice io n ic) (.int .i64 f) by rw [← hWn]; exact HA.out.grown (grown_setCell _ ⟨r2, 0, none⟩ _) (by have := HZ.out; have := HLTW.out; simp; omega))
          replace HA2 := Lib.hid (show At3 W21 (w.heap.size + 1) (.slice qo q.s.length qc) (.slice jo m jc) (.int .i64 g) by rw [← hWn]; exact HA2.out.grown (grown_setCell _ ⟨r2, 0, none⟩ _) (by have := HZ.out; have := HLTW.out; simp; omega))
          clear hWn
          refine hK.out _ _ ?_ (fun hHeld => ?_)
          ·exact ⟨HA.out.2.1, HA.out.2.2.1, HA.out.2.2.2.1, HA2.out.2.1, HA2.out.2.2.1, HA2.out.2.2.2.1⟩
          clear hK K
          refine wpAnyH_done (by kernel_rfl) ?_ _
          clear hHeld
          exact ⟨rfl, _, _, ua, ub, r1, r2, rfl, HR1.out, HR2.out, IsV.any HUA.out, IsV.any HUB.out, HW0.out⟩
         exact AllReadyH.nil
        exact AllReadyH.nil
       exact AllReadyH.nil
      exact AllReadyH.nil
     refine AllReadyH.cons (o := _) rfl (fun K hK => ?_) ?_
     ·clear hHeld
      go_simp
      obtain ⟨W17, hWn⟩ : ∃ xw9, W16.alloc (.cells #[.nilIface] 36) = xw9 := ⟨_, rfl⟩
      have hB : Below W16.heap.size W16 W17 := by rw [← hWn]; exact below_new _ _
      have hNB : At1 W17 W16.heap.size (.nilIface) := by rw [← hWn]; exact At1.new _ _ _
      rw [hWn]
      clear hWn
      obtain ⟨r2, hnm⟩ : ∃ x, W16.heap.size = x := ⟨_, rfl⟩
      rw [hnm] at hNB ⊢
      replace HZ := Lib.hid (And.intro HZ.out (And.intro hnm hNB.1))
      replace HA := Lib.hid (HA.out.below hB)
      replace HA2 := Lib.hid (HA2.out.below hB)
      replace HI := Lib.hid (HI.out.grow hB)
      replace HI2 := Lib.hid (HI2.out.grow hB)
      replace HT := Lib.hid (fun j hj => keep_below hB _ _ (HT.out j hj))
      replace HW0 := Lib.hid (HW0.out.trans (hB.mono HW0.out.size))
      replace HUA := Lib.hid (HUA.out.grow hB)
      have HR2 := Lib.hid hNB
      clear hNB hB hnm
      refine hK.out _ _ ?_ (fun hHeld => ?_)
      ·exact ⟨HA.out.2.1, HA.out.2.2.1, HA.out.2.2.2.1, HA2.out.2.1, HA2.out.2.2.1, HA2.out.2.2.2.1⟩
      clear hK K
      refine wpAnyH_ready (rs := [4, 6]) (by kernel_rfl) (by simp) ?_
      refine AllReadyH.cons (o := _) rfl (fun K hK => ?_) ?_
      ·clear hHeld
       go_simp
       refine (lof_calls _ q _ md _ HLP.out HI2.out HT.out HC2.out.1).mono ?_
       rintro e W18 ⟨s4, c4, ub, rfl, hOR, hB⟩
       replace HZ := Lib.hid (And.intro HZ.out hB.size)
       replace HA := Lib.hid (HA.out.below hB)
       replace HA2 := Lib.hid (HA2.out.below hB)
       replace HI := Lib.hid (HI.out.grow hB)
       replace HI2 := Lib.hid (HI2.out.grow hB)
       replace HT := Lib.hid (fun j hj => keep_below hB _ _ (HT.out j hj))
       replace HW0 := Lib.hid (HW0.out.trans (hB.mono HW0.out.size))
       replace HUA := Lib.hid (HUA.out.grow hB)
       replace HR2 := Lib.hid (HR2.out.below hB)
       have HUB := Lib.hid (show IsV W18 (fun b => W17.heap.size ≤ b ∧ b < W18.heap.size) ub B by rw [← HBB.out]; exact hOR.2.lt)
       have hsub := HUB.out.store
       clear hOR
       clear hB
       refine hK.out _ _ ?_ (fun hHeld => ?_)
       ·exact ⟨HA.out.2.1, HA.out.2.2.1, HA.out.2.2.2.1, HA2.out.2.1, HA2.out.2.2.1, HA2.out.2.2.2.1⟩
       clear hK K
       refine wpAnyH_take (i := 5) (v := ?_) rfl (by kernel_rfl) (by kernel_rfl) (by kernel_rfl) (fun _ _ _ h => absurd h.1 (by simp)) (Or.inl ⟨by rfl, ?_⟩) (by assumption) ?_
       rotate_left
       ·(intro w hSw; (try dsimp only at hSw); go_simp; try with_reducible rfl)
       simp only [Act.put, List.getElem_toArray, List.getElem_cons_succ, List.getElem_cons_zero, List.setIfInBounds_toArray, List.set_cons_zero, List.set_cons_succ]
       refine wpAnyH_ready (rs := [6]) (by kernel_rfl) (by simp) ?_
       refine AllReadyH.cons (o := _) rfl (fun K hK => ?_) ?_
       ·clear hHeld
        go_simp
        obtain ⟨W19, hWn⟩ : ∃ xw9, W18.alloc (.cells #[.nilIface] 36) = xw9 := ⟨_, rfl⟩
        have hB : Below W18.heap.size W18 W19 := by rw [← hWn]; exact below_new _ _
        have hNB : At1 W19 W18.heap.size (.nilIface) := by rw [← hWn]; exact At1.new _ _ _
        rw [hWn]
        clear hWn
        obtain ⟨r1, hnm⟩ : ∃ x, W18.heap.size = x := ⟨_, rfl⟩
        rw [hnm] at hNB ⊢
        replace HZ := Lib.hid (And.intro HZ.out (And.intro hnm hNB.1))
        replace HA := Lib.hid (HA.out.below hB)
        replace HA2 := Lib.hid (HA2.out.below hB)
        replace HI := Lib.hid (HI.out.grow hB)
        replace HI2 := Lib.hid (HI2.out.grow hB)
        replace HT := Lib.hid (fun j hj => keep_below hB _ _ (HT.out j hj))
        replace HW0 := Lib.hid (HW0.out.trans (hB.mono HW0.out.size))
        replace HUA := Lib.hid (HUA.out.grow hB)
        replace HR2 := Lib.hid (HR2.out.below hB)
        replace HUB := Lib.hid (HUB.out.grow hB)
        have HR1 := Lib.hid hNB
        clear hNB hB hnm
        refine hK.out _ _ ?_ (fun hHeld => ?_)
        ·exact ⟨HA.out.2.1, HA.out.2.2.1, HA.out.2.2.2.1, HA2.out.2.1, HA2.out.2.2.1, HA2.out.2.2.2.1⟩
        clear hK K
        refine wpAnyH_ready (rs := [8]) (by kernel_rfl) (by simp) ?_
        refine AllReadyH.cons (o := _) rfl (fun K hK => ?_) ?_
        ·clear hHeld
         have s0 := HR1.out.2.1
         have t0 := HR1.out.2.2 0
         go_simp
         clear s0 t0
         obtain ⟨W20, hWn⟩ : ∃ xw9, W19.setCell ⟨r1, 0, none⟩ ua = xw9 := ⟨_, rfl⟩
         rw [hWn]
         replace HUA := Lib.hid (show IsV W20 _ ua A by rw [← hWn]; exact HUA.out.keep (Kept.setCell _ _ _ (fun h => by have := HZ.out; simp only at h; omega)) (fun _ _ h => h))
         replace HUB := Lib.hid (show IsV W20 _ ub B by rw [← hWn]; exact HUB.out.keep (Kept.setCell _ _ _ (fun h => by have := HZ.out; simp only at h; omega)) (fun _ _ h => h))
         replace HW0 := Lib.hid (show Below W14.heap.size W14 W20 by rw [← hWn]; exact HW0.out.setCell (p := ⟨r1, 0, none⟩) (by have := HZ.out; simp only; omega) _)
         replace HR1 := Lib.hid (show At1 W20 r1 ua by rw [← hWn]; exact At1.put1 HR1.out _)
         replace HR2 := Lib.hid (show At1 W20 r2 .nilIface by rw [← hWn]; exact HR2.out.grown (grown_setCell _ ⟨r1, 0, none⟩ _) (by have := HZ.out; simp; omega))
         replace HA := Lib.hid (show At3 W20 w.heap.size (.slice so p.s.length sc) (.slice io n ic) (.int .i64 f) by rw [← hWn]; exact HA.out.grown (grown_setCell _ ⟨r1, 0, none⟩ _) (by have := HZ.out; have := HLTW.out; simp; omega))
         replace HA2 := Lib.hid (show At3 W20 (w.heap.size + 1) (.slice qo q.s.length qc) (.slice jo m jc) (.int .i64 g) by rw [← hWn]; exact HA2.out.grown (grown_setCell _ ⟨r1, 0, none⟩ _) (by have := HZ.out; have := HLTW.out; simp; omega))
         clear hWn
         refine hK.out _ _ ?_ (fun hHeld => ?_)
         ·exact ⟨HA.out.2.1, HA.out.2.2.1, HA.out.2.2.2.1, HA2.out.2.1, HA2.out.2.2.1, HA2.out.2.2.2.1⟩
         clear hK K
         refine wpAnyH_ready (rs := [9]) (by kernel_rfl) (by simp) ?_
         refine AllReadyH.cons (o := _) rfl (fun K hK => ?_) ?_
         ·clear hHeld
          have s0 := HR2.out.2.1
          have t0 := HR2.out.2.2 0
          go_simp
          clear s0 t0
          obtain ⟨W21, hWn⟩ : ∃ xw9, W20.setCell ⟨r2, 0, none⟩ ub = xw9 := ⟨_, rfl⟩
          rw [hWn]
          replace HUA := Lib.hid (show IsV W21 _ ua A by rw [← hWn]; exact HUA.out.keep (Kept.setCell _ _ _ (fun h => by have := HZ.out; simp only at h; omega)) (fun _ _ h => h))
          replace HUB := Lib.hid (show IsV W21 _ ub B by rw [← hWn]; exact HUB.out.keep (Kept.setCell _ _ _ (fun h => by have := HZ.out; simp only at h; omega)) (fun _ _ h => h))
          replace HW0 := Lib.hid (show Below W14.heap.size W14 W21 by rw [← hWn]; exact HW0.out.setCell (p := ⟨r2, 0, none⟩) (by have := HZ.out; simp only; omega) _)
          replace HR2 := Lib.hid (show At1 W21 r2 ub by rw [← hWn]; exact At1.put1 HR2.out _)
          replace HR1 := Lib.hid (show At1 W21 r1 ua by rw [← hWn]; exact HR1.out.grown (grown_setCell _ ⟨r2, 0, none⟩ _) (by have := HZ.out; simp; omega))
          replace HA := Lib.hid (show At3 W21 w.heap.size (.slice so p.s.length sc) (.slice io n ic) (.int .i64 f) by rw [← hWn]; exact HA.out.grown (grown_setCell _ ⟨r2, 0, none⟩ _) (by have := HZ.out; have := HLTW.out; simp; omega))
          replace HA2 := Lib.hid (show At3 W21 (w.heap.size + 1) (.slice qo q.s.length qc) (.slice jo m jc) (.int .i64 g) by rw [← hWn]; exact HA2.out.grown (grown_setCell _ ⟨r2, 0, none⟩ _) (by have := HZ.out; have := HLTW.out; simp; omega))
          clear hWn
          refine hK.out _ _ ?_ (fun hHeld => ?_)
          ·exact ⟨HA.out.2.1, HA.out.2.2.1, HA.out.2.2.2.1, HA2.out.2.1, HA2.out.2.2.1, HA2.out.2.2.2.1⟩
          clear hK K
          refine wpAnyH_done (by kernel_rfl) ?_ _
          clear hHeld
          exact ⟨rfl, _, _, ua, ub, r1, r2, rfl, HR1.out, HR2.out, IsV.any HUA.out, IsV.any HUB.out, HW0.out⟩
         exact AllReadyH.nil
        exact AllReadyH.nil
       exact AllReadyH.nil
      refine AllReadyH.cons (o := _) rfl (fun K hK => ?_) ?_
      ·clear hHeld
       go_simp
       obtain ⟨W18, hWn⟩ : ∃ xw9, W17.alloc (.cells #[.nilIface] 36) = xw9 := ⟨_, rfl⟩
       have hB : Below W17.heap.size W17 W18 := by rw [← hWn]; exact below_new _ _
       have hNB : At1 W18 W17.heap.size (.nilIface) := by rw [← hWn]; exact At1.new _ _ _
       rw [hWn]
       clear hWn
       obtain ⟨r1, hnm⟩ : ∃ x, W17.heap.size = x := ⟨_, rfl⟩
       rw [hnm] at hNB ⊢
       replace HZ := Lib.hid (And.intro HZ.out (And.intro hnm hNB.1))
       replace HA := Lib.hid (HA.out.below hB)
       replace HA2 := Lib.hid (HA2.out.below hB)
       replace HI := Lib.hid (HI.out.grow hB)
       replace HI2 := Lib.hid (HI2.out.grow hB)
       replace HT := Lib.hid (fun j hj => keep_below hB _ _ (HT.out j hj))
       replace HW0 := Lib.hid (HW0.out.trans (hB.mono HW0.out.size))
       replace HUA := Lib.hid (HUA.out.grow hB)
       replace HR2 := Lib.hid (HR2.out.below hB)
       have HR1 := Lib.hid hNB
       clear hNB hB hnm
       refine hK.out _ _ ?_ (fun hHeld => ?_)
       ·exact ⟨HA.out.2.1, HA.out.2.2.1, HA.out.2.2.2.1, HA2.out.2.1, HA2.out.2.2.1, HA2.out.2.2.2.1⟩
       clear hK K
       refine wpAnyH_ready (rs := [4]) (by kernel_rfl) (by simp) ?_
       refine AllReadyH.cons (o := _) rfl (fun K hK => ?_) ?_
       ·clear hHeld
        go_simp
        refine (lof_calls _ q _ md _ HLP.out HI2.out HT.out HC2.out.1).mono ?_
        rintro e W19 ⟨s4, c4, ub, rfl, hOR, hB⟩
        replace HZ := Lib.hid (And.intro HZ.out hB.size)
        replace HA := Lib.hid (HA.out.below hB)
        replace HA2 := Lib.hid (HA2.out.below hB)
        replace HI := Lib.hid (HI.out.grow hB)
        replace HI2 := Lib.hid (HI2.out.grow hB)
        replace HT := Lib.hid (fun j hj => keep_below hB _ _ (HT.out j hj))
        replace HW0 := Lib.hid (HW0.out.trans (hB.mono HW0.out.size))
        replace HUA := Lib.hid (HUA.out.grow hB)
        replace HR2 := Lib.hid (HR2.out.below hB)
        replace HR1 := Lib.hid (HR1.out.below hB)
        have HUB := Lib.hid (show IsV W19 (fun b => W18.heap.size ≤ b ∧ b < W19.heap.size) ub B by rw [← HBB.out]; exact hOR.2.lt)
        have hsub := HUB.out.store
        clear hOR
        clear hB
        refine hK.out _ _ ?_ (fun hHeld => ?_)
        ·exact ⟨HA.out.2.1, HA.out.2.2.1, HA.out.2.2.2.1, HA2.out.2.1, HA2.out.2.2.1, HA2.out.2.2.2.1⟩
        clear hK K
        refine wpAnyH_take (i := 5) (v := ?_) rfl (by kernel_rfl) (by kernel_rfl) (by kernel_rfl) (fun _ _ _ h => absurd h.1 (by simp)) (Or.inl ⟨by rfl, ?_⟩) (by assumption) ?_
        rotate_left
        ·(intro w hSw; (try dsimp only at hSw); go_simp; try with_reducible rfl)
        simp only [Act.put, List.getElem_toArray, List.getElem_cons_succ, List.getElem_cons_zero, List.setIfInBounds_toArray, List.set_cons_zero, List.set_cons_succ]
        refine wpAnyH_ready (rs := [8]) (by kernel_rfl) (by simp) ?_
        refine AllReadyH.cons (o := _) rfl (fun K hK => ?_) ?_
        ·clear hHeld
         have s0 := HR1.out.2.1
         have t0 := HR1.out.2.2 0
         go_simp
         clear s0 t0
         obtain ⟨W20, hWn⟩ : ∃ xw9, W19.setCell ⟨r1, 0, none⟩ ua = xw9 := ⟨_, rfl⟩
         rw [hWn]
         replace HUA := Lib.hid (show IsV W20 _ ua A by rw [← hWn]; exact HUA.out.keep (Kept.setCell _ _ _ (fun h => by have := HZ.out; simp only at h; omega)) (fun _ _ h => h))
         replace HUB := Lib.hid (show IsV W20 _ ub B by rw [← hWn]; exact HUB.out.keep (Kept.setCell _ _ _ (fun h => by have := HZ.out; simp only at h; omega)) (fun _ _ h => h))
         replace HW0 := Lib.hid (show Below W14.heap.size W14 W20 by rw [← hWn]; exact HW0.out.setCell (p := ⟨r1, 0, none⟩) (by have := HZ.out; simp only; omega) _)
         replace HR1 := Lib.hid (show At1 W20 r1 ua by rw [← hWn]; exact At1.put1 HR1.out _)
         replace HR2 := Lib.hid (show At1 W20 r2 .nilIface by rw [← hWn]; exact HR2.out.grown (grown_setCell _ ⟨r1, 0, none⟩ _) (by have := HZ.out; simp; omega))
         replace HA := Lib.hid (show At3 W20 w.heap.size (.slice so p.s.length sc) (.slice io n ic) (.int .i64 f) by rw [← hWn]; exact HA.out.grown (grown_setCell _ ⟨r1, 0, none⟩ _) (by have := HZ.out; have := HLTW.out; simp; omega))
         replace HA2 := Lib.hid (show At3 W20 (w.heap.size + 1) (.slice qo q.s.length qc) (.slice jo m jc) (.int .i64 g) by rw [← hWn]; exact HA2.out.grown (grown_setCell _ ⟨r1, 0, none⟩ _) (by have := HZ.out; have := HLTW.out; simp; omega))
         clear hWn
         refine hK.out _ _ ?_ (fun hHeld => ?_)
         ·exact ⟨HA.out.2.1, HA.out.2.2.1, HA.out.2.2.2.1, HA2.out.2.1, HA2.out.2.2.1, HA2.out.2.2.2.1⟩
         clear hK K
         refine wpAnyH_ready (rs := [9]) (by kernel_rfl) (by simp) ?_
         refine AllReadyH.cons (o := _) rfl (fun K hK => ?_) ?_
         ·clear hHeld
          have s0 := HR2.out.2.1
          have t0 := HR2.out.2.2 0
          go_simp
          clear s0 t0
          obtain ⟨W21, hWn⟩ : ∃ xw9, W20.setCell ⟨r2, 0, none⟩ ub = xw9 := ⟨_, rfl⟩
          rw [hWn]
          replace HUA := Lib.hid (show IsV W21 _ ua A by rw [← hWn]; exact HUA.out.keep (Kept.setCell _ _ _ (fun h => by have := HZ.out; simp only at h; omega)) (fun _ _ h => h))
          replace HUB := Lib.hid (show IsV W21 _ ub B by rw [← hWn]; exact HUB.out.keep (Kept.setCell _ _ _ (fun h => by have := HZ.out; simp only at h; omega)) (fun _ _ h => h))
          replace HW0 := Lib.hid (show Below W14.heap.size W14 W21 by rw [← hWn]; exact HW0.out.setCell (p := ⟨r2, 0, none⟩) (by have := HZ.out; simp only; omega) _)
          replace HR2 := Lib.hid (show At1 W21 r2 ub by rw [← hWn]; exact At1.put1 HR2.out _)
          replace HR1 := Lib.hid (show At1 W21 r1 ua by rw [← hWn]; exact HR1.out.grown (grown_setCell _ ⟨r2, 0, none⟩ _) (by have := HZ.out; simp; omega))
          replace HA := Lib.hid (show At3 W21 w.heap.size (.slice so p.s.length sc) (.slice io n ic) (.int .i64 f) by rw [← hWn]; exact HA.out.grown (grown_setCell _ ⟨r2, 0, none⟩ _) (by have := HZ.out; have := HLTW.out; simp; omega))
          replace HA2 := Lib.hid (show At3 W21 (w.heap.size + 1) (.slice qo q.s.length qc) (.slice jo m jc) (.int .i64 g) by rw [← hWn]; exact HA2.out.grown (grown_setCell _ ⟨r2, 0, none⟩ _) (by have := HZ.out; have := HLTW.out; simp; omega))
          clear hWn
          refine hK.out _ _ ?_ (fun hHeld => ?_)
          ·exact ⟨HA.out.2.1, HA.out.2.2.1, HA.out.2.2.2.1, HA2.out.2.1, HA2.out.2.2.1, HA2.out.2.2.2.1⟩
          clear hK K
          refine wpAnyH_done (by kernel_rfl) ?_ _
          clear hHeld
          exact ⟨rfl, _, _, ua, ub, r1, r2, rfl, HR1.out, HR2.out, IsV.any HUA.out, IsV.any HUB.out, HW0.out⟩
         exact AllReadyH.nil
        exact AllReadyH.nil
       exact AllReadyH.nil
      exact AllReadyH.nil
     exact AllReadyH.nil
    refine AllReadyH.cons (o := _) rfl (fun K hK => ?_) ?_
    ·clear hHeld
     go_simp
     obtain ⟨W16, hWn⟩ : ∃ xw9, W15.alloc (.cells #[.nilIface] 36) = xw9 := ⟨_, rfl⟩
     have hB : Below W15.heap.size W15 W16 := by rw [← hWn]; exact below_new _ _
     have hNB : At1 W16 W15.heap.size (.nilIface) := by rw [← hWn]; exact At1.new _ _ _
     rw [hWn]
     clear hWn
     obtain ⟨r1, hnm⟩ : ∃ x, W15.heap.size = x := ⟨_, rfl⟩
     rw [hnm] at hNB ⊢
     replace HZ := Lib.hid (And.intro HZ.out (And.intro hnm hNB.1))
     replace HA := Lib.hid (HA.out.below hB)
     replace HA2 := Lib.hid (HA2.out.below hB)
     replace HI := Lib.hid (HI.out.grow hB)
     replace HI2 := Lib.hid (HI2.out.grow hB)
     replace HT := Lib.hid (fun j hj => keep_below hB _ _ (HT.out j hj))
     replace HW0 := Lib.hid (HW0.out.trans (hB.mono HW0.out.size))
     have HR1 := Lib.hid hNB
     clear hNB hB hnm
     refine hK.out _ _ ?_ (fun hHeld => ?_)
     ·exact ⟨HA.out.2.1, HA.out.2.2.1, HA.out.2.2.2.1, HA2.out.2.1, HA2.out.2.2.1, HA2.out.2.2.2.1⟩
     clear hK K
     refine wpAnyH_ready (rs := [1, 7]) (by kernel_rfl) (by simp) ?_
     refine AllReadyH.cons (o := _) rfl (fun K hK => ?_) ?_
     ·clear hHeld
      go_simp
      refine (lof_calls _ p _ nd _ HLO.out HI.out HT.out HC1.out.1).mono ?_
      rintro e W17 ⟨s3, c3, ua, rfl, hOR, hB⟩
      replace HZ := Lib.hid (And.intro HZ.out hB.size)
      replace HA := Lib.hid (HA.out.below hB)
      replace HA2 := Lib.hid (HA2.out.below hB)
      replace HI := Lib.hid (HI.out.grow hB)
      replace HI2 := Lib.hid (HI2.out.grow hB)
      replace HT := Lib.hid (fun j hj => keep_below hB _ _ (HT.out j hj))
      replace HW0 := Lib.hid (HW0.out.trans (hB.mono HW0.out.size))
      replace HR1 := Lib.hid (HR1.out.below hB)
      have HUA := Lib.hid (show IsV W17 (fun b => W16.heap.size ≤ b ∧ b < W17.heap.size) ua A by rw [← HAA.out]; exact hOR.2.lt)
      have hsua := HUA.out.store
      clear hOR
      clear hB
      refine hK.out _ _ ?_ (fun hHeld => ?_)
      ·exact ⟨HA.out.2.1, HA.out.2.2.1, HA.out.2.2.2.1, HA2.out.2.1, HA2.out.2.2.1, HA2.out.2.2.2.1⟩
      clear hK K
      refine wpAnyH_take (i := 2) (v := ?_) rfl (by kernel_rfl) (by kernel_rfl) (by kernel_rfl) (fun _ _ _ h => absurd h.1 (by simp)) (Or.inl ⟨by rfl, ?_⟩) (by assumption) ?_
      rotate_left
      ·(intro w hSw; (try dsimp only at hSw); go_simp; try with_reducible rfl)
      simp only [Act.put, List.getElem_toArray, List.getElem_cons_succ, List.getElem_cons_zero, List.setIfInBounds_toArray, List.set_cons_zero, List.set_cons_succ]
      refine wpAnyH_ready (rs := [4, 7]) (by kernel_rfl) (by simp) ?_
      refine AllReadyH.cons (o := _) rfl (fun K hK => ?_) ?_
      ·clear hHeld
       go_simp
       refine (lof_calls _ q _ md _ HLP.out HI2.out HT.out HC2.out.1).mono ?_
       rintro e W18 ⟨s4, c4, ub, rfl, hOR, hB⟩
       replace HZ := Lib.hid (And.intro HZ.out hB.size)
       replace HA := Lib.hid (HA.out.below hB)
       replace HA2 := Lib.hid (HA2.out.below hB)
       replace HI := Lib.hid (HI.out.grow hB)
       replace HI2 := Lib.hid (HI2.out.grow hB)
       replace HT := Lib.hid (fun j hj => keep_below hB _ _ (HT.out j hj))
       replace HW0 := Lib.hid (HW0.out.trans (hB.mono HW0.out.size))
       replace HR1 := Lib.hid (HR1.out.below hB)
       replace HUA := Lib.hid (HUA.out.grow hB)
       have HUB := Lib.hid (show IsV W18 (fun b => W17.heap.size ≤ b ∧ b < W18.heap.size) ub B by rw [← HBB.out]; exact hOR.2.lt)
       have hsub := HUB.out.store
       clear hOR
       clear hB
       refine hK.out _ _ ?_ (fun hHeld => ?_)
       ·exact ⟨HA.out.2.1, HA.out.2.2.1, HA.out.2.2.2.1, HA2.out.2.1, HA2.out.2.2.1, HA2.out.2.2.2.1⟩
       clear hK K
       refine wpAnyH_take (i := 5) (v := ?_) rfl (by kernel_rfl) (by kernel_rfl) (by kernel_rfl) (fun _ _ _ h => absurd h.1 (by simp)) (Or.inl ⟨by rfl, ?_⟩) (by assumption) ?_
       rotate_left
       ·(intro w hSw; (try dsimp only at hSw); go_simp; try with_reducible rfl)
       simp only [Act.put, List.getElem_toArray, List.getElem_cons_succ, List.getElem_cons_zero, List.setIfInBounds_toArray, List.set_cons_zero, List.set_cons_succ]
       refine wpAnyH_ready (rs := [7]) (by kernel_rfl) (by simp) ?_
       refine AllReadyH.cons (o := _) rfl (fun K hK => ?_) ?_
       ·clear hHeld
        go_simp
        obtain ⟨W19, hWn⟩ : ∃ xw9, W18.alloc (.cells #[.nilIface] 36) = xw9 := ⟨_, rfl⟩
        have hB : Below W18.heap.size W18 W19 := by rw [← hWn]; exact below_new _ _
        have hNB : At1 W19 W18.heap.size (.nilIface) := by rw [← hWn]; exact At1.new _ _ _
        rw [hWn]
        clear hWn
        obtain ⟨r2, hnm⟩ : ∃ x, W18.heap.size = x := ⟨_, rfl⟩
        rw [hnm] at hNB ⊢
        replace HZ := Lib.hid (And.intro HZ.out (And.intro hnm hNB.1))
        replace HA := Lib.hid (HA.out.below hB)
        replace HA2 := Lib.hid (HA2.out.below hB)
        replace HI := Lib.hid (HI.out.grow hB)
        replace HI2 := Lib.hid (HI2.out.grow hB)
        replace HT := Lib.hid (fun j hj => keep_below hB _ _ (HT.out j hj))
        replace HW0 := Lib.hid (HW0.out.trans (hB.mono HW0.out.size))
        replace HR1 := Lib.hid (HR1.out.below hB)
        replace HUA := Lib.hid (HUA.out.grow hB)
        replace HUB := Lib.hid (HUB.out.grow hB)
        have HR2 := Lib.hid hNB
        clear hNB hB hnm
        refine hK.out _ _ ?_ (fun hHeld => ?_)
        ·exact ⟨HA.out.2.1, HA.out.2.2.1, HA.out.2.2.2.1, HA2.out.2.1, HA2.out.2.2.1, HA2.out.2.2.2.1⟩
        clear hK K
        refine wpAnyH_ready (rs := [8]) (by kernel_rfl) (by simp) ?_
        refine AllReadyH.cons (o := _) rfl (fun K hK => ?_) ?_
        ·clear hHeld
         have s0 := HR1.out.2.1
         have t0 := HR1.out.2.2 0
         go_simp
         clear s0 t0
         obtain ⟨W20, hWn⟩ : ∃ xw9, W19.setCell ⟨r1, 0, none⟩ ua = xw9 := ⟨_, rfl⟩
         rw [hWn]
         replace HUA := Lib.hid (show IsV W20 _ ua A by rw [← hWn]; exact HUA.out.keep (Kept.setCell _ _ _ (fun h => by have := HZ.out; simp only at h; omega)) (fun _ _ h => h))
         replace HUB := Lib.hid (show IsV W20 _ ub B by rw [← hWn]; exact HUB.out.keep (Kept.setCell _ _ _ (fun h => by have := HZ.out; simp only at h; omega)) (fun _ _ h => h))
         replace HW0 := Lib.hid (show Below W14.heap.size W14 W20 by rw [← hWn]; exact HW0.out.setCell (p := ⟨r1, 0, none⟩) (by have := HZ.out; simp only; omega) _)
         replace HR1 := Lib.hid (show At1 W20 r1 ua by rw [← hWn]; exact At1.put1 HR1.out _)
         replace HR2 := Lib.hid (show At1 W20 r2 .nilIface by rw [← hWn]; exact HR2.out.grown (grown_setCell _ ⟨r1, 0, none⟩ _) (by have := HZ.out; simp; omega))
         replace HA := Lib.hid (show At3 W20 w.heap.size (.slice so p.s.length sc) (.slice io n ic) (.int .i64 f) by rw [← hWn]; exact HA.out.grown (grown_setCell _ ⟨r1, 0, none⟩ _) (by have := HZ.out; have := HLTW.out; simp; omega))
         replace HA2 := Lib.hid (show At3 W20 (w.heap.size + 1) (.slice qo q.s.length qc) (.slice jo m jc) (.int .i64 g) by rw [← hWn]; exact HA2.out.grown (grown_setCell _ ⟨r1, 0, none⟩ _) (by have := HZ.out; have := HLTW.out; simp; omega))
         clear hWn
         refine hK.out _ _ ?_ (fun hHeld => ?_)
         ·exact ⟨HA.out.2.1, HA.out.2.2.1, HA.out.2.2.2.1, HA2.out.2.1, HA2.out.2.2.1, HA2.out.2.2.2.1⟩
         clear hK K
         refine wpAnyH_ready (rs := [9]) (by kernel_rfl) (by simp) ?_
         refine AllReadyH.cons (o := _) rfl (fun K hK => ?_) ?_
         ·clear hHeld
          have s0 := HR2.out.2.1
          have t0 := HR2.out.2.2 0
          go_simp
          clear s0 t0
          obtain ⟨W21, hWn⟩ : ∃ xw9, W20.setCell ⟨r2, 0, none⟩ ub = xw9 := ⟨_, rfl⟩
          rw [hWn]
          replace HUA := Lib.hid (show IsV W21 _ ua A by rw [← hWn]; exact HUA.out.keep (Kept.setCell _ _ _ (fun h => by have := HZ.out; simp only at h; omega)) (fun _ _ h => h))
          replace HUB := Lib.hid (show IsV W21 _ ub B by rw [← hWn]; exact HUB.out.keep (Kept.setCell _ _ _ (fun h => by have := HZ.out; simp only at h; omega)) (fun _ _ h => h))
          replace HW0 := Lib.hid (show Below W14.heap.size W14 W21 by rw [← hWn]; exact HW0.out.setCell (p := ⟨r2, 0, none⟩) (by have := HZ.out; simp only; omega) _)
          replace HR2 := Lib.hid (show At1 W21 r2 ub by rw [← hWn]; exact At1.put1 HR2.out _)
          replace HR1 := Lib.hid (show At1 W21 r1 ua by rw [← hWn]; exact HR1.out.grown (grown_setCell _ ⟨r2, 0, none⟩ _) (by have := HZ.out; simp; omega))
          replace HA := Lib.hid (show At3 W21 w.heap.size (.slice so p.s.length sc) (.slice io n ic) (.int .i64 f) by rw [← hWn]; exact HA.out.grown (grown_setCell _ ⟨r2, 0, none⟩ _) (by have := HZ.out; have := HLTW.out; simp; omega))
          replace HA2 := Lib.hid (show At3 W21 (w.heap.size + 1) (.slice qo q.s.length qc) (.slice jo m jc) (.int .i64 g) by rw [← hWn]; exact HA2.out.grown (grown_setCell _ ⟨r2, 0, none⟩ _) (by have := HZ.out; have := HLTW.out; simp; omega))
          clear hWn
          refine hK.out _ _ ?_ (fun hHeld => ?_)
          ·exact ⟨HA.out.2.1, HA.out.2.2.1, HA.out.2.2.2.1, HA2.out.2.1, HA2.out.2.2.1, HA2.out.2.2.2.1⟩
          clear hK K
          refine wpAnyH_done (by kernel_rfl) ?_ _
          clear hHeld
          exact ⟨rfl, _, _, ua, ub, r1, r2, rfl, HR1.out, HR2.out, IsV.any HUA.out, IsV.any HUB.out, HW0.out⟩
         exact AllReadyH.nil
        exact AllReadyH.nil
       exact AllReadyH.nil
      refine AllReadyH.cons (o := _) rfl (fun K hK => ?_) ?_
      ·clear hHeld
       go_simp
       obtain ⟨W18, hWn⟩ : ∃ xw9, W17.alloc (.cells #[.nilIface] 36) = xw9 := ⟨_, rfl⟩
       have hB : Below W17.heap.size W17 W18 := by rw [← hWn]; exact below_new _ _
       have hNB : At1 W18 W17.heap.size (.nilIface) := by rw [← hWn]; exact At1.new _ _ _
       rw [hWn]
       clear hWn
       obtain ⟨r2, hnm⟩ : ∃ x, W17.heap.size = x := ⟨_, rfl⟩
       rw [hnm] at hNB ⊢
       replace HZ := Lib.hid (And.intro HZ.out (And.intro hnm hNB.1))
       replace HA := Lib.hid (HA.out.below hB)
       replace HA2 := Lib.hid (HA2.out.below hB)
       replace HI := Lib.hid (HI.out.grow hB)
       replace HI2 := Lib.hid (HI2.out.grow hB)
       replace HT := Lib.hid (fun j hj => keep_below hB _ _ (HT.out j hj))
       replace HW0 := Lib.hid (HW0.out.trans (hB.mono HW0.out.size))
       replace HR1 := Lib.hid (HR1.out.below hB)
       replace HUA := Lib.hid (HUA.out.grow hB)
       have HR2 := Lib.hid hNB
       clear hNB hB hnm
       refine hK.out _ _ ?_ (fun hHeld => ?_)
       ·exact ⟨HA.out.2.1, HA.out.2.2.1, HA.out.2.2.2.1, HA2.out.2.1, HA2.out.2.2.1, HA2.out.2.2.2.1⟩
       clear hK K
       refine wpAnyH_ready (rs := [4]) (by kernel_rfl) (by simp) ?_
       refine AllReadyH.cons (o := _) rfl (fun K hK => ?_) ?_
       ·clear hHeld
        go_simp
        refine (lof_calls _ q _ md _ HLP.out HI2.out HT.out HC2.out.1).mono ?_
        rintro e W19 ⟨s4, c4, ub, rfl, hOR, hB⟩
        replace HZ := Lib.hid (And.intro HZ.out hB.size)
        replace HA := Lib.hid (HA.out.below hB)
        replace HA2 := Lib.hid (HA2.out.below hB)
        replace HI := Lib.hid (HI.out.grow hB)
        replace HI2 := Lib.hid (HI2.out.grow hB)
        replace HT := Lib.hid (fun j hj => keep_below hB _ _ (HT.out j hj))
        replace HW0 := Lib.hid (HW0.out.trans (hB.mono HW0.out.size))
        replace HR1 := Lib.hid (HR1.out.below hB)
        replace HUA := Lib.hid (HUA.out.grow hB)
        replace HR2 := Lib.hid (HR2.out.below hB)
        have HUB := Lib.hid (show IsV W19 (fun b => W18.heap.size ≤ b ∧ b < W19.heap.size) ub B by rw [← HBB.out]; exact hOR.2.lt)
        have hsub := HUB.out.store
        clear hOR
        clear hB
        refine hK.out _ _ ?_ (fun hHeld => ?_)
        ·exact ⟨HA.out.2.1, HA.out.2.2.1, HA.out.2.2.2.1, HA2.out.2.1, HA2.out.2.2.1, HA2.out.2.2.2.1⟩
        clear hK K
        refine wpAnyH_take (i := 5) (v := ?_) rfl (by kernel_rfl) (by kernel_rfl) (by kernel_rfl) (fun _ _ _ h => absurd h.1 (by simp)) (Or.inl ⟨by rfl, ?_⟩) (by assumption) ?_
        rotate_left
        ·(intro w hSw; (try dsimp only at hSw); go_simp; try with_reducible rfl)
        simp only [Act.put, List.getElem_toArray, List.getElem_cons_succ, List.getElem_cons_zero, List.setIfInBounds_toArray, List.set_cons_zero, List.set_cons_succ]
        refine wpAnyH_ready (rs := [8]) (by kernel_rfl) (by simp) ?_
        refine AllReadyH.cons (o := _) rfl (fun K hK => ?_) ?_
        ·clear hHeld
         have s0 := HR1.out.2.1
         have t0 := HR1.out.2.2 0
         go_simp
         clear s0 t0
         obtain ⟨W20, hWn⟩ : ∃ xw9, W19.setCell ⟨r1, 0, none⟩ ua = xw9 := ⟨_, rfl⟩
         rw [hWn]
         replace HUA := Lib.hid (show IsV W20 _ ua A by rw [← hWn]; exact HUA.out.keep (Kept.setCell _ _ _ (fun h => by have := HZ.out; simp only at h; omega)) (fun _ _ h => h))
         replace HUB := Lib.hid (show IsV W20 _ ub B by rw [← hWn]; exact HUB.out.keep (Kept.setCell _ _ _ (fun h => by have := HZ.out; simp only at h; omega)) (fun _ _ h => h))
         replace HW0 := Lib.hid (show Below W14.heap.size W14 W20 by rw [← hWn]; exact HW0.out.setCell (p := ⟨r1, 0, none⟩) (by have := HZ.out; simp only; omega) _)
         replace HR1 := Lib.hid (show At1 W20 r1 ua by rw [← hWn]; exact At1.put1 HR1.out _)
         replace HR2 := Lib.hid (show At1 W20 r2 .nilIface by rw [← hWn]; exact HR2.out.grown (grown_setCell _ ⟨r1, 0, none⟩ _) (by have := HZ.out; simp; omega))
         replace HA := Lib.hid (show At3 W20 w.heap.size (.slice so p.s.length sc) (.slice io n ic) (.int .i64 f) by rw [← hWn]; exact HA.out.grown (grown_setCell _ ⟨r1, 0, none⟩ _) (by have := HZ.out; have := HLTW.out; simp; omega))
         replace HA2 := Lib.hid (show At3 W20 (w.heap.size + 1) (.slice qo q.s.length qc) (.slice jo m jc) (.int .i64 g) by rw [← hWn]; exact HA2.out.grown (grown_setCell _ ⟨r1, 0, none⟩ _) (by have := HZ.out; have := HLTW.out; simp; omega))
         clear hWn
         refine hK.out _ _ ?_ (fun hHeld => ?_)
         ·exact ⟨HA.out.2.1, HA.out.2.2.1, HA.out.2.2.2.1, HA2.out.2.1, HA2.out.2.2.1, HA2.out.2.2.2.1⟩
         clear hK K
         refine wpAnyH_ready (rs := [9]) (by kernel_rfl) (by simp) ?_
         refine AllReadyH.cons (o := _) rfl (fun K hK => ?_) ?_
         ·clear hHeld
          have s0 := HR2.out.2.1
          have t0 := HR2.out.2.2 0
          go_simp
          clear s0 t0
          obtain ⟨W21, hWn⟩ : ∃ xw9, W20.setCell ⟨r2, 0, none⟩ ub = xw9 := ⟨_, rfl⟩
          rw [hWn]
          replace HUA := Lib.hid (show IsV W21 _ ua A by rw [← hWn]; exact HUA.out.keep (Kept.setCell _ _ _ (fun h => by have := HZ.out; simp only at h; omega)) (fun _ _ h => h))
          replace HUB := Lib.hid (show IsV W21 _ ub B by rw [← hWn]; exact HUB.out.keep (Kept.setCell _ _ _ (fun h => by have := HZ.out; simp only at h; omega)) (fun _ _ h => h))
          replace HW0 := Lib.hid (show Below W14.heap.size W14 W21 by rw [← hWn]; exact HW0.out.setCell (p := ⟨r2, 0, none⟩) (by have := HZ.out; simp only; omega) _)
          replace HR2 := Lib.hid (show At1 W21 r2 ub by rw [← hWn]; exact At1.put1 HR2.out _)
          replace HR1 := Lib.hid (show At1 W21 r1 ua by rw [← hWn]; exact HR1.out.grown (grown_setCell _ ⟨r2, 0, none⟩ _) (by have := HZ.out; simp; omega))
          replace HA := Lib.hid (show At3 W21 w.heap.size (.slice so p.s.length sc) (.slice io n ic) (.int .i64 f) by rw [← hWn]; exact HA.out.grown (grown_setCell _ ⟨r2, 0, none⟩ _) (by have := HZ.out; have := HLTW.out; simp; omega))
          replace HA2 := Lib.hid (show At3 W21 (w.heap.size + 1) (.slice qo q.s.length qc) (.slice jo m jc) (.int .i64 g) by rw [← hWn]; exact HA2.out.grown (grown_setCell _ ⟨r2, 0, none⟩ _) (by have := HZ.out; have := HLTW.out; simp; omega))
          clear hWn
          refine hK.out _ _ ?_ (fun hHeld => ?_)
          ·exact ⟨HA.out.2.1, HA.out.2.2.1, HA.out.2.2.2.1, HA2.out.2.1, HA2.out.2.2.1, HA2.out.2.2.2.1⟩
          clear hK K
          refine wpAnyH_done (by kernel_rfl) ?_ _
          clear hHeld
          exact ⟨rfl, _, _, ua, ub, r1, r2, rfl, HR1.out, HR2.out, IsV.any HUA.out, IsV.any HUB.out, HW0.out⟩
         exact AllReadyH.nil
        exact AllReadyH.nil
       exact AllReadyH.nil
      exact AllReadyH.nil
     refine AllReadyH.cons (o := _) rfl (fun K hK => ?_) ?_
     ·clear hHeld
      go_simp
      obtain ⟨W17, hWn⟩ : ∃ xw9, W16.alloc (.cells #[.nilIface] 36) = xw9 := ⟨_, rfl⟩
      have hB : Below W16.heap.size W16 W17 := by rw [← hWn]; exact below_new _ _
      have hNB : At1 W17 W16.heap.size (.nilIface) := by rw [← hWn]; exact At1.new _ _ _
      rw [hWn]
      clear hWn
      obtain ⟨r2, hnm⟩ : ∃ x, W16.heap.size = x := ⟨_, rfl⟩
      rw [hnm] at hNB ⊢
      replace HZ := Lib.hid (And.intro HZ.out (And.intro hnm hNB.1))
      replace HA := Lib.hid (HA.out.below hB)
      replace HA2 := Lib.hid (HA2.out.below hB)
      replace HI := Lib.hid (HI.out.grow hB)
      replace HI2 := Lib.hid (HI2.out.grow hB)
      replace HT := Lib.hid (fun j hj => keep_below hB _ _ (HT.out j hj))
      replace HW0 := Lib.hid (HW0.out.trans (hB.mono HW0.out.size))
      replace HR1 := Lib.hid (HR1.out.below hB)
      have HR2 := Lib.hid hNB
      clear hNB hB hnm
      refine hK.out _ _ ?_ (fun hHeld => ?_)
      ·exact ⟨HA.out.2.1, HA.out.2.2.1, HA.out.2.2.2.1, HA2.out.2.1, HA2.out.2.2.1, HA2.out.2.2.2.1⟩
      clear hK K
      refine wpAnyH_ready (rs := [1]) (by kernel_rfl) (by simp) ?_
      refine AllReadyH.cons (o := _) rfl (fun K hK => ?_) ?_
      ·clear hHeld
       go_simp
       refine (lof_calls _ p _ nd _ HLO.out HI.out HT.out HC1.out.1).mono ?_
       rintro e W18 ⟨s3, c3, ua, rfl, hOR, hB⟩
       replace HZ := Lib.hid (And.intro HZ.out hB.size)
       replace HA := Lib.hid (HA.out.below hB)
       replace HA2 := Lib.hid (HA2.out.below hB)
       replace HI := Lib.hid (HI.out.grow hB)
       replace HI2 := Lib.hid (HI2.out.grow hB)
       replace HT := Lib.hid (fun j hj => keep_below hB _ _ (HT.out j hj))
       replace HW0 := Lib.hid (HW0.out.trans (hB.mono HW0.out.size))
       replace HR1 := Lib.hid (HR1.out.below hB)
       replace HR2 := Lib.hid (HR2.out.below hB)
       have HUA := Lib.hid (show IsV W18 (fun b => W17.heap.size ≤ b ∧ b < W18.heap.size) ua A by rw [← HAA.out]; exact hOR.2.lt)
       have hsua := HUA.out.store
       clear hOR
       clear hB
       refine hK.out _ _ ?_ (fun hHeld => ?_)
       ·exact ⟨HA.out.2.1, HA.out.2.2.1, HA.out.2.2.2.1, HA2.out.2.1, HA2.out.2.2.1, HA2.out.2.2.2.1⟩
       clear hK K
       refine wpAnyH_take (i := 2) (v := ?_) rfl (by kernel_rfl) (by kernel_rfl) (by kernel_rfl) (fun _ _ _ h => absurd h.1 (by simp)) (Or.inl ⟨by rfl, ?_⟩) (by assumption) ?_
       rotate_left
       ·(intro w hSw; (try dsimp only at hSw); go_simp; try with_reducible rfl)
       simp only [Act.put, List.getElem_toArray, List.getElem_cons_succ, List.getElem_cons_zero, List.setIfInBounds_toArray, List.set_cons_zero, List.set_cons_succ]
       refine wpAnyH_ready (rs := [4]) (by kernel_rfl) (by simp) ?_
       refine AllReadyH.cons (o := _) rfl (fun K hK => ?_) ?_
       ·clear hHeld
        go_simp
        refine (lof_calls _ q _ md _ HLP.out HI2.out HT.out HC2.out.1).mono ?_
        rintro e W19 ⟨s4, c4, ub, rfl, hOR, hB⟩
        replace HZ := Lib.hid (And.intro HZ.out hB.size)
        replace HA := Lib.hid (HA.out.below hB)
        replace HA2 := Lib.hid (HA2.out.below hB)
        replace HI := Lib.hid (HI.out.grow hB)
        replace HI2 := Lib.hid (HI2.out.grow hB)
        replace HT := Lib.hid (fun j hj => keep_below hB _ _ (HT.out j hj))
        replace HW0 := Lib.hid (HW0.out.trans (hB.mono HW0.out.size))
        replace HR1 := Lib.hid (HR1.out.below hB)
        replace HR2 := Lib.hid (HR2.out.below hB)
        replace HUA := Lib.hid (HUA.out.grow hB)
        have HUB := Lib.hid (show IsV W19 (fun b => W18.heap.size ≤ b ∧ b < W19.heap.size) ub B by rw [← HBB.out]; exact hOR.2.lt)
        have hsub := HUB.out.store
        clear hOR
        clear hB
        refine hK.out _ _ ?_ (fun hHeld => ?_)
        ·exact ⟨HA.out.2.1, HA.out.2.2.1, HA.out.2.2.2.1, HA2.out.2.1, HA2.out.2.2.1, HA2.out.2.2.2.1⟩
        clear hK K
        refine wpAnyH_take (i := 5) (v := ?_) rfl (by kernel_rfl) (by kernel_rfl) (by kernel_rfl) (fun _ _ _ h => absurd h.1 (by simp)) (Or.inl ⟨by rfl, ?_⟩) (by assumption) ?_
        rotate_left
        ·(intro w hSw; (try dsimp only at hSw); go_simp; try with_reducible rfl)
        simp only [Act.put, List.getElem_toArray, List.getElem_cons_succ, List.getElem_cons_zero, List.setIfInBounds_toArray, List.set_cons_zero, List.set_cons_succ]
        refine wpAnyH_ready (rs := [8]) (by kernel_rfl) (by simp) ?_
        refine AllReadyH.cons (o := _) rfl (fun K hK => ?_) ?_
        ·clear hHeld
         have s0 := HR1.out.2.1
         have t0 := HR1.out.2.2 0
         go_simp
         clear s0 t0
         obtain ⟨W20, hWn⟩ : ∃ xw9, W19.setCell ⟨r1, 0, none⟩ ua = xw9 := ⟨_, rfl⟩
         rw [hWn]
         replace HUA := Lib.hid (show IsV W20 _ ua A by rw [← hWn]; exact HUA.out.keep (Kept.setCell _ _ _ (fun h => by have := HZ.out; simp only at h; omega)) (fun _ _ h => h))
         replace HUB := Lib.hid (show IsV W20 _ ub B by rw [← hWn]; exact HUB.out.keep (Kept.setCell _ _ _ (fun h => by have := HZ.out; simp only at h; omega)) (fun _ _ h => h))
         replace HW0 := Lib.hid (show Below W14.heap.size W14 W20 by rw [← hWn]; exact HW0.out.setCell (p := ⟨r1, 0, none⟩) (by have := HZ.out; simp only; omega) _)
         replace HR1 := Lib.hid (show At1 W20 r1 ua by rw [← hWn]; exact At1.put1 HR1.out _)
         replace HR2 := Lib.hid (show At1 W20 r2 .nilIface by rw [← hWn]; exact HR2.out.grown (grown_setCell _ ⟨r1, 0, none⟩ _) (by have := HZ.out; simp; omega))
         replace HA := Lib.hid (show At3 W20 w.heap.size (.slice so p.s.length sc) (.slice io n ic) (.int .i64 f) by rw [← hWn]; exact HA.out.grown (grown_setCell _ ⟨r1, 0, none⟩ _) (by have := HZ.out; have := HLTW.out; simp; omega))
         replace HA2 := Lib.hid (show At3 W20 (w.heap.size + 1) (.slice qo q.s.length qc) (.slice jo m jc) (.int .i64 g) by rw [← hWn]; exact HA2.out.grown (grown_setCell _ ⟨r1, 0, none⟩ _) (by have := HZ.out; have := HLTW.out; simp; omega))
         clear hWn
         refine hK.out _ _ ?_ (fun hHeld => ?_)
         ·exact ⟨HA.out.2.1, HA.out.2.2.1, HA.out.2.2.2.1, HA2.out.2.1, HA2.out.2.2.1, HA2.out.2.2.2.1⟩
         clear hK K
         refine wpAnyH_ready (rs := [9]) (by kernel_rfl) (by simp) ?_
         refine AllReadyH.cons (o := _) rfl (fun K hK => ?_) ?_
         ·clear hHeld
          have s0 := HR2.out.2.1
          have t0 := HR2.out.2.2 0
          go_simp
          clear s0 t0
          obtain ⟨W21, hWn⟩ : ∃ xw9, W20.setCell ⟨r2, 0, none⟩ ub = xw9 := ⟨_, rfl⟩
          rw [hWn]
          replace HUA := Lib.hid (show IsV W21 _ ua A by rw [← hWn]; exact HUA.out.keep (Kept.setCell _ _ _ (fun h => by have := HZ.out; simp only at h; omega)) (fun _ _ h => h))
          replace HUB := Lib.hid (show IsV W21 _ ub B by rw [← hWn]; exact HUB.out.keep (Kept.setCell _ _ _ (fun h => by have := HZ.out; simp only at h; omega)) (fun _ _ h => h))
          replace HW0 := Lib.hid (show Below W14.heap.size W14 W21 by rw [← hWn]; exact HW0.out.setCell (p := ⟨r2, 0, none⟩) (by have := HZ.out; simp only; omega) _)
          replace HR2 := Lib.hid (show At1 W21 r2 ub by rw [← hWn]; exact At1.put1 HR2.out _)
          replace HR1 := Lib.hid (show At1 W21 r1 ua by rw [← hWn]; exact HR1.out.grown (grown_setCell _ ⟨r2, 0, none⟩ _) (by have := HZ.out; simp; omega))
          replace HA := Lib.hid (show At3 W21 w.heap.size (.slice so p.s.length sc) (.slice io n ic) (.int .i64 f) by rw [← hWn]; exact HA.out.grown (grown_setCell _ ⟨r2, 0, none⟩ _) (by have := HZ.out; have := HLTW.out; simp; omega))
          replace HA2 := Lib.hid (show At3 W21 (w.heap.size + 1) (.slice qo q.s.length qc) (.slice jo m jc) (.int .i64 g) by rw [← hWn]; exact HA2.out.grown (grown_setCell _ ⟨r2, 0, none⟩ _) (by have := HZ.out; have := HLTW.out; simp; omega))
          clear hWn
          refine hK.out _ _ ?_ (fun hHeld => ?_)
          ·exact ⟨HA.out.2.1, HA.out.2.2.1, HA.out.2.2.2.1, HA2.out.2.1, HA2.out.2.2.1, HA2.out.2.2.2.1⟩
          clear hK K
          refine wpAnyH_done (by kernel_rfl) ?_ _
          clear hHeld
          exact ⟨rfl, _, _, ua, ub, r1, r2, rfl, HR1.out, HR2.out, IsV.any HUA.out, IsV.any HUB.out, HW0.out⟩
         exact AllReadyH.nil
        exact AllReadyH.nil
       exact AllReadyH.nil
      exact AllReadyH.nil
     exact AllReadyH.nil
    refine AllReadyH.cons (o := _) rfl (fun K hK => ?_) ?_
    ·clear hHeld
     go_simp
     obtain ⟨W16, hWn⟩ : ∃ xw9, W15.alloc (.cells #[.nilIface] 36) = xw9 := ⟨_, rfl⟩
     have hB : Below W15.heap.size W15 W16 := by rw [← hWn]; exact below_new _ _
     have hNB : At1 W16 W15.heap.size (.nilIface) := by rw [← hWn]; exact At1.new _ _ _
     rw [hWn]
     clear hWn
     obtain ⟨r2, hnm⟩ : ∃ x, W15.heap.size = x := ⟨_, rfl⟩
     rw [hnm] at hNB ⊢
     replace HZ := Lib.hid (And.intro HZ.out (And.intro hnm hNB.1))
     replace HA := Lib.hid (HA.out.below hB)
     replace HA2 := Lib.hid (HA2.out.below hB)
     replace HI := Lib.hid (HI.out.grow hB)
     replace HI2 := Lib.hid (HI2.out.grow hB)
     replace HT := Lib.hid (fun j hj => keep_below hB _ _ (HT.out j hj))
     replace HW0 := Lib.hid (HW0.out.trans (hB.mono HW0.out.size))
     have HR2 := Lib.hid hNB
     clear hNB hB hnm
     refine hK.out _ _ ?_ (fun hHeld => ?_)
     ·exact ⟨HA.out.2.1, HA.out.2.2.1, HA.out.2.2.2.1, HA2.out.2.1, HA2.out.2.2.1, HA2.out.2.2.2.1⟩
     clear hK K
     refine wpAnyH_ready (rs := [1, 6]) (by kernel_rfl) (by simp) ?_
     refine AllReadyH.cons (o := _) rfl (fun K hK => ?_) ?_
     ·clear hHeld
      go_simp
      refine (lof_calls _ p _ nd _ HLO.out HI.out HT.out HC1.out.1).mono ?_
      rintro e W17 ⟨s3, c3, ua, rfl, hOR, hB⟩
      replace HZ := Lib.hid (And.intro HZ.out hB.size)
      replace HA := Lib.hid (HA.out.below hB)
      replace HA2 := Lib.hid (HA2.out.below hB)
      replace HI := Lib.hid (HI.out.grow hB)
      replace HI2 := Lib.hid (HI2.out.grow hB)
      replace HT := Lib.hid (fun j hj => keep_below hB _ _ (HT.out j hj))
      replace HW0 := Lib.hid (HW0.out.trans (hB.mono HW0.out.size))
      replace HR2 := Lib.hid (HR2.out.below hB)
      have HUA := Lib.hid (show IsV W17 (fun b => W16.heap.size ≤ b ∧ b < W17.heap.size) ua A by rw [← HAA.out]; exact hOR.2.lt)
      have hsua := HUA.out.store
      clear hOR
      clear hB
      refine hK.out _ _ ?_ (fun hHeld => ?_)
      ·exact ⟨HA.out.2.1, HA.out.2.2.1, HA.out.2.2.2.1, HA2.out.2.1, HA2.out.2.2.1, HA2.out.2.2.2.1⟩
      clear hK K
      refine wpAnyH_take (i := 2) (v := ?_) rfl (by kernel_rfl) (by kernel_rfl) (by kernel_rfl) (fun _ _ _ h => absurd h.1 (by simp)) (Or.inl ⟨by rfl, ?_⟩) (by assumption) ?_
      rotate_left
      ·(intro w hSw; (try dsimp only at hSw); go_simp; try with_reducible rfl)
      simp only [Act.put, List.getElem_toArray, List.getElem_cons_succ, List.getElem_cons_zero, List.setIfInBounds_toArray, List.set_cons_zero, List.set_cons_succ]
      refine wpAnyH_ready (rs := [4, 6]) (by kernel_rfl) (by simp) ?_
      refine AllReadyH.cons (o := _) rfl (fun K hK => ?_) ?_
      ·clear hHeld
       go_simp
       refine (lof_calls _ q _ md _ HLP.out HI2.out HT.out HC2.out.1).mono ?_
       rintro e W18 ⟨s4, c4, ub, rfl, hOR, hB⟩
       replace HZ := Lib.hid (And.intro HZ.out hB.size)
       replace HA := Lib.hid (HA.out.below hB)
       replace HA2 := Lib.hid (HA2.out.below hB)
       replace HI := Lib.hid (HI.out.grow hB)
       replace HI2 := Lib.hid (HI2.out.grow hB)
       replace HT := Lib.hid (fun j hj => keep_below hB _ _ (HT.out j hj))
       replace HW0 := Lib.hid (HW0.out.trans (hB.mono HW0.out.size))
       replace HR2 := Lib.hid (HR2.out.below hB)
       replace HUA := Lib.hid (HUA.out.grow hB)
       have HUB := Lib.hid (show IsV W18 (fun b => W17.heap.size ≤ b ∧ b < W18.heap.size) ub B by rw [← HBB.out]; exact hOR.2.lt)
       have hsub := HUB.out.store
       clear hOR
       clear hB
       refine hK.out _ _ ?_ (fun hHeld => ?_)
       ·exact ⟨HA.out.2.1, HA.out.2.2.1, HA.out.2.2.2.1, HA2.out.2.1, HA2.out.2.2.1, HA2.out.2.2.2.1⟩
       clear hK K
       refine wpAnyH_take (i := 5) (v := ?_) rfl (by kernel_rfl) (by kernel_rfl) (by kernel_rfl) (fun _ _ _ h => absurd h.1 (by simp)) (Or.inl ⟨by rfl, ?_⟩) (by assumption) ?_
       rotate_left
       ·(intro w hSw; (try dsimp only at hSw); go_simp; try with_reducible rfl)
       simp only [Act.put, List.getElem_toArray, List.getElem_cons_succ, List.getElem_cons_zero, List.setIfInBounds_toArray, List.set_cons_zero, List.set_cons_succ]
       refine wpAnyH_ready (rs := [6]) (by kernel_rfl) (by simp) ?_
       refine AllReadyH.cons (o := _) rfl (fun K hK => ?_) ?_
       ·clear hHeld
        go_simp
        obtain ⟨W19, hWn⟩ : ∃ xw9, W18.alloc (.cells #[.nilIface] 36) = xw9 := ⟨_, rfl⟩
        have hB : Below W18.heap.size W18 W19 := by rw [← hWn]; exact below_new _ _
        have hNB : At1 W19 W18.heap.size (.nilIface) := by rw [← hWn]; exact At1.new _ _ _
        rw [hWn]
        clear hWn
        obtain ⟨r1, hnm⟩ : ∃ x, W18.heap.size = x := ⟨_, rfl⟩
        rw [hnm] at hNB ⊢
        replace HZ := Lib.hid (And.intro HZ.out (And.intro hnm hNB.1))
        replace HA := Lib.hid (HA.out.below hB)
        replace HA2 := Lib.hid (HA2.out.below hB)
        replace HI := Lib.hid (HI.out.grow hB)
        replace HI2 := Lib.hid (HI2.out.grow hB)
        replace HT := Lib.hid (fun j hj => keep_below hB _ _ (HT.out j hj))
        replace HW0 := Lib.hid (HW0.out.trans (hB.mono HW0.out.size))
        replace HR2 := Lib.hid (HR2.out.below hB)
        replace HUA := Lib.hid (HUA.out.grow hB)
        replace HUB := Lib.hid (HUB.out.grow hB)
        have HR1 := Lib.hid hNB
        clear hNB hB hnm
        refine hK.out _ _ ?_ (fun hHeld => ?_)
        ·exact ⟨HA.out.2.1, HA.out.2.2.1, HA.out.2.2.2.1, HA2.out.2.1, HA2.out.2.2.1, HA2.out.2.2.2.1⟩
        clear hK K
        refine wpAnyH_ready (rs := [8]) (by kernel_rfl) (by simp) ?_
        refine AllReadyH.cons (o := _) rfl (fun K hK => ?_) ?_
        ·clear hHeld
         have s0 := HR1.out.2.1
         have t0 := HR1.out.2.2 0
         go_simp
         clear s0 t0
         obtain ⟨W20, hWn⟩ : ∃ xw9, W19.setCell ⟨r1, 0, none⟩ ua = xw9 := ⟨_, rfl⟩
         rw [hWn]
         replace HUA := Lib.hid (show IsV W20 _ ua A by rw [← hWn]; exact HUA.out.keep (Kept.setCell _ _ _ (fun h => by have := HZ.out; simp only at h; omega)) (fun _ _ h => h))
         replace HUB := Lib.hid (show IsV W20 _ ub B by rw [← hWn]; exact HUB.out.keep (Kept.setCell _ _ _ (fun h => by have := HZ.out; simp only at h; omega)) (fun _ _ h => h))
         replace HW0 := Lib.hid (show Below W14.heap.size W14 W20 by rw [← hWn]; exact HW0.out.setCell (p := ⟨r1, 0, none⟩) (by have := HZ.out; simp only; omega) _)
         replace HR1 := Lib.hid (show At1 W20 r1 ua by rw [← hWn]; exact At1.put1 HR1.out _)
         replace HR2 := Lib.hid (show At1 W20 r2 .nilIface by rw [← hWn]; exact HR2.out.grown (grown_setCell _ ⟨r1, 0, none⟩ _) (by have := HZ.out; simp; omega))
         replace HA := Lib.hid (show At3 W20 w.heap.size (.slice so p.s.length sc) (.slice io n ic) (.int .i64 f) by rw [← hWn]; exact HA.out.grown (grown_setCell _ ⟨r1, 0, none⟩ _) (by have := HZ.out; have := HLTW.out; simp; omega))
         replace HA2 := Lib.hid (show At3 W20 (w.heap.size + 1) (.slice qo q.s.length qc) (.slice jo m jc) (.int .i64 g) by rw [← hWn]; exact HA2.out.grown (grown_setCell _ ⟨r1, 0, none⟩ _) (by have := HZ.out; have := HLTW.out; simp; omega))
         clear hWn
         refine hK.out _ _ ?_ (fun hHeld => ?_)
         ·exact ⟨HA.out.2.1, HA.out.2.2.1, HA.out.2.2.2.1, HA2.out.2.1, HA2.out.2.2.1, HA2.out.2.2.2.1⟩
         clear hK K
         refine wpAnyH_ready (rs := [9]) (by kernel_rfl) (by simp) ?_
         refine AllReadyH.cons (o := _) rfl (fun K hK => ?_) ?_
         ·clear hHeld
          have s0 := HR2.out.2.1
          have t0 := HR2.out.2.2 0
          go_simp
          clear s0 t0
          obtain ⟨W21, hWn⟩ : ∃ xw9, W20.setCell ⟨r2, 0, none⟩ ub = xw9 := ⟨_, rfl⟩
          rw [hWn]
          replace HUA := Lib.hid (show IsV W21 _ ua A by rw [← hWn]; exact HUA.out.keep (Kept.setCell _ _ _ (fun h => by have := HZ.out; simp only at h; omega)) (fun _ _ h => h))
          replace HUB := Lib.hid (show IsV W21 _ ub B by rw [← hWn]; exact HUB.out.keep (Kept.setCell _ _ _ (fun h => by have := HZ.out; simp only at h; omega)) (fun _ _ h => h))
          replace HW0 := Lib.hid (show Below W14.heap.size W14 W21 by rw [← hWn]; exact HW0.out.setCell (p := ⟨r2, 0, none⟩) (by have := HZ.out; simp only; omega) _)
          replace HR2 := Lib.hid (show At1 W21 r2 ub by rw [← hWn]; exact At1.put1 HR2.out _)
          replace HR1 := Lib.hid (show At1 W21 r1 ua by rw [← hWn]; exact HR1.out.grown (grown_setCell _ ⟨r2, 0, none⟩ _) (by have := HZ.out; simp; omega))
          replace HA := Lib.hid (show At3 W21 w.heap.size (.slice so p.s.length sc) (.slice io n ic) (.int .i64 f) by rw [← hWn]; exact HA.out.grown (grown_setCell _ ⟨r2, 0, none⟩ _) (by have := HZ.out; have := HLTW.out; simp; omega))
          replace HA2 := Lib.hid (show At3 W21 (w.heap.size + 1) (.slice qo q.s.length qc) (.slice jo m jc) (.int .i64 g) by rw [← hWn]; exact HA2.out.grown (grown_setCell _ ⟨r2, 0, none⟩ _) (by have := HZ.out; have := HLTW.out; simp; omega))
          clear hWn
          refine hK.out _ _ ?_ (fun hHeld => ?_)
          ·exact ⟨HA.out.2.1, HA.out.2.2.1, HA.out.2.2.2.1, HA2.out.2.1, HA2.out.2.2.1, HA2.out.2.2.2.1⟩
          clear hK K
          refine wpAnyH_done (by kernel_rfl) ?_ _
          clear hHeld
          exact ⟨rfl, _, _, ua, ub, r1, r2, rfl, HR1.out, HR2.out, IsV.any HUA.out, IsV.any HUB.out, HW0.out⟩
         exact AllReadyH.nil
        exact AllReadyH.nil
       exact AllReadyH.nil
      refine AllReadyH.cons (o := _) rfl (fun K hK => ?_) ?_
      ·clear hHeld
       go_simp
       obtain ⟨W18, hWn⟩ : ∃ xw9, W17.alloc (.cells #[.nilIface] 36) = xw9 := ⟨_, rfl⟩
       have hB : Below W17.heap.size W17 W18 := by rw [← hWn]; exact below_new _ _
       have hNB : At1 W18 W17.heap.size (.nilIface) := by rw [← hWn]; exact At1.new _ _ _
       rw [hWn]
       clear hWn
       obtain ⟨r1, hnm⟩ : ∃ x, W17.heap.size = x := ⟨_, rfl⟩
       rw [hnm] at hNB ⊢
       replace HZ := Lib.hid (And.intro HZ.out (And.intro hnm hNB.1))
       replace HA := Lib.hid (HA.out.below hB)
       replace HA2 := Lib.hid (HA2.out.below hB)
       replace HI := Lib.hid (HI.out.grow hB)
       replace HI2 := Lib.hid (HI2.out.grow hB)
       replace HT := Lib.hid (fun j hj => keep_below hB _ _ (HT.out j hj))
       replace HW0 := Lib.hid (HW0.out.trans (hB.mono HW0.out.size))
       replace HR2 := Lib.hid (HR2.out.below hB)
       replace HUA := Lib.hid (HUA.out.grow hB)
       have HR1 := Lib.hid hNB
       clear hNB hB hnm
       refine hK.out _ _ ?_ (fun hHeld => ?_)
       ·exact ⟨HA.out.2.1, HA.out.2.2.1, HA.out.2.2.2.1, HA2.out.2.1, HA2.out.2.2.1, HA2.out.2.2.2.1⟩
       clear hK K
       refine wpAnyH_ready (rs := [4]) (by kernel_rfl) (by simp) ?_
       refine AllReadyH.cons (o := _) rfl (fun K hK => ?_) ?_
       ·clear hHeld
        go_simp
        refine (lof_calls _ q _ md _ HLP.out HI2.out HT.out HC2.out.1).mono ?_
        rintro e W19 ⟨s4, c4, ub, rfl, hOR, hB⟩
        replace HZ := Lib.hid (And.intro HZ.out hB.size)
        replace HA := Lib.hid (HA.out.below hB)
        replace HA2 := Lib.hid (HA2.out.below hB)
        replace HI := Lib.hid (HI.out.grow hB)
        replace HI2 := Lib.hid (HI2.out.grow hB)
        replace HT := Lib.hid (fun j hj => keep_below hB _ _ (HT.out j hj))
        replace HW0 := Lib.hid (HW0.out.trans (hB.mono HW0.out.size))
        replace HR2 := Lib.hid (HR2.out.below hB)
        replace HUA := Lib.hid (HUA.out.grow hB)
        replace HR1 := Lib.hid (HR1.out.below hB)
        have HUB := Lib.hid (show IsV W19 (fun b => W18.heap.size ≤ b ∧ b < W19.heap.size) ub B by rw [← HBB.out]; exact hOR.2.lt)
        have hsub := HUB.out.store
        clear hOR
        clear hB
        refine hK.out _ _ ?_ (fun hHeld => ?_)
        ·exact ⟨HA.out.2.1, HA.out.2.2.1, HA.out.2.2.2.1, HA2.out.2.1, HA2.out.2.2.1, HA2.out.2.2.2.1⟩
        clear hK K
        refine wpAnyH_take (i := 5) (v := ?_) rfl (by kernel_rfl) (by kernel_rfl) (by kernel_rfl) (fun _ _ _ h => absurd h.1 (by simp)) (Or.inl ⟨by rfl, ?_⟩) (by assumption) ?_
        rotate_left
        ·(intro w hSw; (try dsimp only at hSw); go_simp; try with_reducible rfl)
        simp only [Act.put, List.getElem_toArray, List.getElem_cons_succ, List.getElem_cons_zero, List.setIfInBounds_toArray, List.set_cons_zero, List.set_cons_succ]
        refine wpAnyH_ready (rs := [8]) (by kernel_rfl) (by simp) ?_
        refine AllReadyH.cons (o := _) rfl (fun K hK => ?_) ?_
        ·clear hHeld
         have s0 := HR1.out.2.1
         have t0 := HR1.out.2.2 0
         go_simp
         clear s0 t0
         obtain ⟨W20, hWn⟩ : ∃ xw9, W19.setCell ⟨r1, 0, none⟩ ua = xw9 := ⟨_, rfl⟩
         rw [hWn]
         replace HUA := Lib.hid (show IsV W20 _ ua A by rw [← hWn]; exact HUA.out.keep (Kept.setCell _ _ _ (fun h => by have := HZ.out; simp only at h; omega)) (fun _ _ h => h))
         replace HUB := Lib.hid (show IsV W20 _ ub B by rw [← hWn]; exact HUB.out.keep (Kept.setCell _ _ _ (fun h => by have := HZ.out; simp only at h; omega)) (fun _ _ h => h))
         replace HW0 := Lib.hid (show Below W14.heap.size W14 W20 by rw [← hWn]; exact HW0.out.setCell (p := ⟨r1, 0, none⟩) (by have := HZ.out; simp only; omega) _)
         replace HR1 := Lib.hid (show At1 W20 r1 ua by rw [← hWn]; exact At1.put1 HR1.out _)
         replace HR2 := Lib.hid (show At1 W20 r2 .nilIface by rw [← hWn]; exact HR2.out.grown (grown_setCell _ ⟨r1, 0, none⟩ _) (by have := HZ.out; simp; omega))
         replace HA := Lib.hid (show At3 W20 w.heap.size (.slice so p.s.length sc) (.slice io n ic) (.int .i64 f) by rw [← hWn]; exact HA.out.grown (grown_setCell _ ⟨r1, 0, none⟩ _) (by have := HZ.out; have := HLTW.out; simp; omega))
         replace HA2 := Lib.hid (show At3 W20 (w.heap.size + 1) (.slice qo q.s.length qc) (.slice jo m jc) (.int .i64 g) by rw [← hWn]; exact HA2.out.grown (grown_setCell _ ⟨r1, 0, none⟩ _) (by have := HZ.out; have := HLTW.out; simp; omega))
         clear hWn
         refine hK.out _ _ ?_ (fun hHeld => ?_)
         ·exact ⟨HA.out.2.1, HA.out.2.2.1, HA.out.2.2.2.1, HA2.out.2.1, HA2.out.2.2.1, HA2.out.2.2.2.1⟩
         clear hK K
         refine wpAnyH_ready (rs := [9]) (by kernel_rfl) (by simp) ?_
         refine AllReadyH.cons (o := _) rfl (fun K hK => ?_) ?_
         ·clear hHeld
          have s0 := HR2.out.2.1
          have t0 := HR2.out.2.2 0
          go_simp
          clear s0 t0
          obtain ⟨W21, hWn⟩ : ∃ xw9, W20.setCell ⟨r2, 0, none⟩ ub = xw9 := ⟨_, rfl⟩
          rw [hWn]
          replace HUA := Lib.hid (show IsV W21 _ ua A by rw [← hWn]; exact HUA.out.keep (Kept.setCell _ _ _ (fun h => by have := HZ.out; simp only at h; omega)) (fun _ _ h => h))
          replace HUB := Lib.hid (show IsV W21 _ ub B by rw [← hWn]; exact HUB.out.keep (Kept.setCell _ _ _ (fun h => by have := HZ.out; simp only at h; omega)) (fun _ _ h => h))
          replace HW0 := Lib.hid (show Below W14.heap.size W14 W21 by rw [← hWn]; exact HW0.out.setCell (p := ⟨r2, 0, none⟩) (by have := HZ.out; simp only; omega) _)
          replace HR2 := Lib.hid (show At1 W21 r2 ub by rw [← hWn]; exact At1.put1 HR2.out _)
          replace HR1 := Lib.hid (show At1 W21 r1 ua by rw [← hWn]; exact HR1.out.grown (grown_setCell _ ⟨r2, 0, none⟩ _) (by have := HZ.out; simp; omega))
          replace HA := Lib.hid (show At3 W21 w.heap.size (.slice so p.s.length sc) (.slice io n ic) (.int .i64 f) by rw [← hWn]; exact HA.out.grown (grown_setCell _ ⟨r2, 0, none⟩ _) (by have := HZ.out; have := HLTW.out; simp; omega))
          replace HA2 := Lib.hid (show At3 W21 (w.heap.size + 1) (.slice qo q.s.length qc) (.slice jo m jc) (.int .i64 g) by rw [← hWn]; exact HA2.out.grown (grown_setCell _ ⟨r2, 0, none⟩ _) (by have := HZ.out; have := HLTW.out; simp; omega))
          clear hWn
          refine hK.out _ _ ?_ (fun hHeld => ?_)
          ·exact ⟨HA.out.2.1, HA.out.2.2.1, HA.out.2.2.2.1, HA2.out.2.1, HA2.out.2.2.1, HA2.out.2.2.2.1⟩
          clear hK K
          refine wpAnyH_done (by kernel_rfl) ?_ _
          clear hHeld
          exact ⟨rfl, _, _, ua, ub, r1, r2, rfl, HR1.out, HR2.out, IsV.any HUA.out, IsV.any HUB.out, HW0.out⟩
         exact AllReadyH.nil
        exact AllReadyH.nil
       exact AllReadyH.nil
      exact AllReadyH.nil
     refine AllReadyH.cons (o := _) rfl (fun K hK => ?_) ?_
     ·clear hHeld
      go_simp
      obtain ⟨W17, hWn⟩ : ∃ xw9, W16.alloc (.cells #[.nilIface] 36) = xw9 := ⟨_, rfl⟩
      have hB : Below W16.heap.size W16 W17 := by rw [← hWn]; exact below_new _ _
      have hNB : At1 W17 W16.heap.size (.nilIface) := by rw [← hWn]; exact At1.new _ _ _
      rw [hWn]
      clear hWn
      obtain ⟨r1, hnm⟩ : ∃ x, W16.heap.size = x := ⟨_, rfl⟩
      rw [hnm] at hNB ⊢
      replace HZ := Lib.hid (And.intro HZ.out (And.intro hnm hNB.1))
      replace HA := Lib.hid (HA.out.below hB)
      replace HA2 := Lib.hid (HA2.out.below hB)
      replace HI := Lib.hid (HI.out.grow hB)
      replace HI2 := Lib.hid (HI2.out.grow hB)
      replace HT := Lib.hid (fun j hj => keep_below hB _ _ (HT.out j hj))
      replace HW0 := Lib.hid (HW0.out.trans (hB.mono HW0.out.size))
      replace HR2 := Lib.hid (HR2.out.below hB)
      have HR1 := Lib.hid hNB
      clear hNB hB hnm
      refine hK.out _ _ ?_ (fun hHeld => ?_)
      ·exact ⟨HA.out.2.1, HA.out.2.2.1, HA.out.2.2.2.1, HA2.out.2.1, HA2.out.2.2.1, HA2.out.2.2.2.1⟩
      clear hK K
      refine wpAnyH_ready (rs := [1]) (by kernel_rfl) (by simp) ?_
      refine AllReadyH.cons (o := _) rfl (fun K hK => ?_) ?_
      ·clear hHeld
       go_simp
       refine (lof_calls _ p _ nd _ HLO.out HI.out HT.out HC1.out.1).mono ?_
       rintro e W18 ⟨s3, c3, ua, rfl, hOR, hB⟩
       replace HZ := Lib.hid (And.intro HZ.out hB.size)
       replace HA := Lib.hid (HA.out.below hB)
       replace HA2 := Lib.hid (HA2.out.below hB)
       replace HI := Lib.hid (HI.out.grow hB)
       replace HI2 := Lib.hid (HI2.out.grow hB)
       replace HT := Lib.hid (fun j hj => keep_below hB _ _ (HT.out j hj))
       replace HW0 := Lib.hid (HW0.out.trans (hB.mono HW0.out.size))
       replace HR2 := Lib.hid (HR2.out.below hB)
       replace HR1 := Lib.hid (HR1.out.below hB)
       have HUA := Lib.hid (show IsV W18 (fun b => W17.heap.size ≤ b ∧ b < W18.heap.size) ua A by rw [← HAA.out]; exact hOR.2.lt)
       have hsua := HUA.out.store
       clear hOR
       clear hB
       refine hK.out _ _ ?_ (fun hHeld => ?_)
       ·exact ⟨HA.out.2.1, HA.out.2.2.1, HA.out.2.2.2.1, HA2.out.2.1, HA2.out.2.2.1, HA2.out.2.2.2.1⟩
       clear hK K
       refine wpAnyH_take (i := 2) (v := ?_) rfl (by kernel_rfl) (by kernel_rfl) (by kernel_rfl) (fun _ _ _ h => absurd h.1 (by simp)) (Or.inl ⟨by rfl, ?_⟩) (by assumption) ?_
       rotate_left
       ·(intro w hSw; (try dsimp only at hSw); go_simp; try with_reducible rfl)
       simp only [Act.put, List.getElem_toArray, List.getElem_cons_succ, List.getElem_cons_zero, List.setIfInBounds_toArray, List.set_cons_zero, List.set_cons_succ]
       refine wpAnyH_ready (rs := [4]) (by kernel_rfl) (by simp) ?_
       refine AllReadyH.cons (o := _) rfl (fun K hK => ?_) ?_
       ·clear hHeld
        go_simp
        refine (lof_calls _ q _ md _ HLP.out HI2.out HT.out HC2.out.1).mono ?_
        rintro e W19 ⟨s4, c4, ub, rfl, hOR, hB⟩
        replace HZ := Lib.hid (And.intro HZ.out hB.size)
        replace HA := Lib.hid (HA.out.below hB)
        replace HA2 := Lib.hid (HA2.out.below hB)
        replace HI := Lib.hid (HI.out.grow hB)
        replace HI2 := Lib.hid (HI2.out.grow hB)
        replace HT := Lib.hid (fun j hj => keep_below hB _ _ (HT.out j hj))
        replace HW0 := Lib.hid (HW0.out.trans (hB.mono HW0.out.size))
        replace HR2 := Lib.hid (HR2.out.below hB)
        replace HR1 := Lib.hid (HR1.out.below hB)
        replace HUA := Lib.hid (HUA.out.grow hB)
        have HUB := Lib.hid (show IsV W19 (fun b => W18.heap.size ≤ b ∧ b < W19.heap.size) ub B by rw [← HBB.out]; exact hOR.2.lt)
        have hsub := HUB.out.store
        clear hOR
        clear hB
        refine hK.out _ _ ?_ (fun hHeld => ?_)
        ·exact ⟨HA.out.2.1, HA.out.2.2.1, HA.out.2.2.2.1, HA2.out.2.1, HA2.out.2.2.1, HA2.out.2.2.2.1⟩
        clear hK K
        refine wpAnyH_take (i := 5) (v := ?_) rfl (by kernel_rfl) (by kernel_rfl) (by kernel_rfl) (fun _ _ _ h => absurd h.1 (by simp)) (Or.inl ⟨by rfl, ?_⟩) (by assumption) ?_
        rotate_left
        ·(intro w hSw; (try dsimp only at hSw); go_simp; try with_reducible rfl)
        simp only [Act.put, List.getElem_toArray, List.getElem_cons_succ, List.getElem_cons_zero, List.setIfInBounds_toArray, List.set_cons_zero, List.set_cons_succ]
        refine wpAnyH_ready (rs := [8]) (by kernel_rfl) (by simp) ?_
        refine AllReadyH.cons (o := _) rfl (fun K hK => ?_) ?_
        ·clear hHeld
         have s0 := HR1.out.2.1
         have t0 := HR1.out.2.2 0
         go_simp
         clear s0 t0
         obtain ⟨W20, hWn⟩ : ∃ xw9, W19.setCell ⟨r1, 0, none⟩ ua = xw9 := ⟨_, rfl⟩
         rw [hWn]
         replace HUA := Lib.hid (show IsV W20 _ ua A by rw [← hWn]; exact HUA.out.keep (Kept.setCell _ _ _ (fun h => by have := HZ.out; simp only at h; omega)) (fun _ _ h => h))
         replace HUB := Lib.hid (show IsV W20 _ ub B by rw [← hWn]; exact HUB.out.keep (Kept.setCell _ _ _ (fun h => by have := HZ.out; simp only at h; omega)) (fun _ _ h => h))
         replace HW0 := Lib.hid (show Below W14.heap.size W14 W20 by rw [← hWn]; exact HW0.out.setCell (p := ⟨r1, 0, none⟩) (by have := HZ.out; simp only; omega) _)
         replace HR1 := Lib.hid (show At1 W20 r1 ua by rw [← hWn]; exact At1.put1 HR1.out _)
         replace HR2 := Lib.hid (show At1 W20 r2 .nilIface by rw [← hWn]; exact HR2.out.grown (grown_setCell _ ⟨r1, 0, none⟩ _) (by have := HZ.out; simp; omega))
         replace HA := Lib.hid (show At3 W20 w.heap.size (.slice so p.s.length sc) (.slice io n ic) (.int .i64 f) by rw [← hWn]; exact HA.out.grown (grown_setCell _ ⟨r1, 0, none⟩ _) (by have := HZ.out; have := HLTW.out; simp; omega))
         replace HA2 := Lib.hid (show At3 W20 (w.heap.size + 1) (.slice qo q.s.length qc) (.slice jo m jc) (.int .i64 g) by rw [← hWn]; exact HA2.out.grown (grown_setCell _ ⟨r1, 0, none⟩ _) (by have := HZ.out; have := HLTW.out; simp; omega))
         clear hWn
         refine hK.out _ _ ?_ (fun hHeld => ?_)
         ·exact ⟨HA.out.2.1, HA.out.2.2.1, HA.out.2.2.2.1, HA2.out.2.1, HA2.out.2.2.1, HA2.out.2.2.2.1⟩
         clear hK K
         refine wpAnyH_ready (rs := [9]) (by kernel_rfl) (by simp) ?_
         refine AllReadyH.cons (o := _) rfl (fun K hK => ?_) ?_
         ·clear hHeld
          have s0 := HR2.out.2.1
          have t0 := HR2.out.2.2 0
          go_simp
          clear s0 t0
          obtain ⟨W21, hWn⟩ : ∃ xw9, W20.setCell ⟨r2, 0, none⟩ ub = xw9 := ⟨_, rfl⟩
          rw [hWn]
          replace HUA := Lib.hid (show IsV W21 _ ua A by rw [← hWn]; exact HUA.out.keep (Kept.setCell _ _ _ (fun h => by have := HZ.out; simp only at h; omega)) (fun _ _ h => h))
          replace HUB := Lib.hid (show IsV W21 _ ub B by rw [← hWn]; exact HUB.out.keep (Kept.setCell _ _ _ (fun h => by have := HZ.out; simp only at h; omega)) (fun _ _ h => h))
          replace HW0 := Lib.hid (show Below W14.heap.size W14 W21 by rw [← hWn]; exact HW0.out.setCell (p := ⟨r2, 0, none⟩) (by have := HZ.out; simp only; omega) _)
          replace HR2 := Lib.hid (show At1 W21 r2 ub by rw [← hWn]; exact At1.put1 HR2.out _)
          replace HR1 := Lib.hid (show At1 W21 r1 ua by rw [← hWn]; exact HR1.out.grown (grown_setCell _ ⟨r2, 0, none⟩ _) (by have := HZ.out; simp; omega))
          replace HA := Lib.hid (show At3 W21 w.heap.size (.slice so p.s.length sc) (.slice io n ic) (.int .i64 f) by rw [← hWn]; exact HA.out.grown (grown_setCell _ ⟨r2, 0, none⟩ _) (by have := HZ.out; have := HLTW.out; simp; omega))
          replace HA2 := Lib.hid (show At3 W21 (w.heap.size + 1) (.slice qo q.s.length qc) (.slice jo m jc) (.int .i64 g) by rw [← hWn]; exact HA2.out.grown (grown_setCell _ ⟨r2, 0, none⟩ _) (by have := HZ.out; have := HLTW.out; simp; omega))
          clear hWn
          refine hK.out _ _ ?_ (fun hHeld => ?_)
          ·exact ⟨HA.out.2.1, HA.out.2.2.1, HA.out.2.2.2.1, HA2.out.2.1, HA2.out.2.2.1, HA2.out.2.2.2.1⟩
          clear hK K
          refine wpAnyH_done (by kernel_rfl) ?_ _
          clear hHeld
          exact ⟨rfl, _, _, ua, ub, r1, r2, rfl, HR1.out, HR2.out, IsV.any HUA.out, IsV.any HUB.out, HW0.out⟩
         exact AllReadyH.nil
        exact AllReadyH.nil
       exact AllReadyH.nil
      exact AllReadyH.nil
     exact AllReadyH.nil
    exact AllReadyH.nil
   rintro _ W16 ⟨eo, es, ua, ub, r1, r2, rfl, h1, h2, h3, h4, hB⟩
   replace HA := Lib.hid (HA.out.below hB)
   replace HA2 := Lib.hid (HA2.out.below hB)
   replace HB := Lib.hid (HB.out.trans (hB.mono HB.out.size))
   replace HI := Lib.hid (HI.out.grow hB)
   replace HI2 := Lib.hid (HI2.out.grow hB)
   replace HT := Lib.hid (fun j hj => keep_below hB _ _ (HT.out j hj))
   replace HTI := Lib.hid (HTI.out.grow hB)
   replace HTJ := Lib.hid (HTJ.out.grow hB)
   have HR1 := Lib.hid h1
   have HR2 := Lib.hid h2
   have HUA := Lib.hid h3
   have HUB := Lib.hid h4
   have hsua := h3.store
   have hsub := h4.store
   clear h1 h2 h3 h4 hB
   simp only [Act.put, List.setIfInBounds_toArray, List.set_cons_zero, List.set_cons_succ]
   have HFC := Lib.hid (show f = 0 ∨ f = 1 ∨ f = 2 by rw [← HHA.out.cls]; exact VV.cls_cases _)
   have HAN := Lib.hid (show LA.length ≤ 1048576 by rw [HAL.out]; have := HN1.out; omega)
   have cHA0 := HA.out.2.1
   have cHA1 := HA.out.2.2.1
   have cHA2 := HA.out.2.2.2.1
   have cHA20 := HA2.out.2.1
   have cHA21 := HA2.out.2.2.1
   have cHA22 := HA2.out.2.2.2.1
   have cHR10 := HR1.out.2.1
   have cHR20 := HR2.out.2.1
   go_wp2_with fail
   refine (rfirsts19_calls 39 _ LA _ HTI.out (by rw [HAL.out]; have := HN1.out; omega) HAO.out).mono ?_
   rintro e W17 ⟨vf, rfl, hvf, hB⟩
   clear cHA0 cHA1 cHA2 cHA20 cHA21 cHA22 cHR10 cHR20
   replace HA := Lib.hid (HA.out.below hB)
   replace HA2 := Lib.hid (HA2.out.below hB)
   replace HB := Lib.hid (HB.out.trans (hB.mono HB.out.size))
   replace HI := Lib.hid (HI.out.grow hB)
   replace HI2 := Lib.hid (HI2.out.grow hB)
   replace HT := Lib.hid (fun j hj => keep_below hB _ _ (HT.out j hj))
   replace HTI := Lib.hid (HTI.out.grow hB)
   replace HTJ := Lib.hid (HTJ.out.grow hB)
   replace HR1 := Lib.hid (HR1.out.below hB)
   replace HR2 := Lib.hid (HR2.out.below hB)
   replace HUA := Lib.hid (HUA.out.grow hB)
   replace HUB := Lib.hid (HUB.out.grow hB)
   have HVF := Lib.hid hvf.any
   obtain ⟨fo, fc, rfl, _⟩ := hvf.opened
   clear hvf
   clear hB
   have cHA0 := HA.out.2.1
   have cHA1 := HA.out.2.2.1
   have cHA2 := HA.out.2.2.2.1
   have cHA20 := HA2.out.2.1
   have cHA21 := HA2.out.2.2.1
   have cHA22 := HA2.out.2.2.2.1
   have cHR10 := HR1.out.2.1
   have cHR20 := HR2.out.2.1
   go_wp2_with fail
   refine (rpick_uniq _ LA f HFC.out _ _ HTI.out HVF.out (by rw [HAL.out]; exact HN1.out)).mono ?_
   rintro e W18 ⟨vu, rfl, hvu, hB⟩
   clear cHA0 cHA1 cHA2 cHA20 cHA21 cHA22 cHR10 cHR20
   replace HA := Lib.hid (HA.out.below hB)
   replace HA2 := Lib.hid (HA2.out.below hB)
   replace HB := Lib.hid (HB.out.trans (hB.mono HB.out.size))
   replace HI := Lib.hid (HI.out.grow hB)
   replace HI2 := Lib.hid (HI2.out.grow hB)
   replace HT := Lib.hid (fun j hj => keep_below hB _ _ (HT.out j hj))
   replace HTI := Lib.hid (HTI.out.grow hB)
   replace HTJ := Lib.hid (HTJ.out.grow hB)
   replace HR1 := Lib.hid (HR1.out.below hB)
   replace HR2 := Lib.hid (HR2.out.below hB)
   replace HUA := Lib.hid (HUA.out.grow hB)
   replace HUB := Lib.hid (HUB.out.grow hB)
   replace HVF := Lib.hid (HVF.out.below hB)
   have HVU := Lib.hid hvu
   obtain ⟨uo, uc, rfl, _⟩ := hvu.len
   clear hvu
   clear hB
   have cHA0 := HA.out.2.1
   have cHA1 := HA.out.2.2.1
   have cHA2 := HA.out.2.2.2.1
   have cHA20 := HA2.out.2.1
   have cHA21 := HA2.out.2.2.1
   have cHA22 := HA2.out.2.2.2.1
   have cHR10 := HR1.out.2.1
   have cHR20 := HR2.out.2.1
   go_wp2_with fail
   refine (rwithout19_false 39 _ _ LA LB _ HTI.out (by rw [HAL.out]; have := HN1.out; omega) HAO.out HTJ.out (by rw [HBL.out]; have := HM1.out; omega) HBO.out).mono ?_
   rintro e W19 ⟨vx, rfl, hvx, hB⟩
   clear cHA0 cHA1 cHA2 cHA20 cHA21 cHA22 cHR10 cHR20
   replace HA := Lib.hid (HA.out.below hB)
   replace HA2 := Lib.hid (HA2.out.below hB)
   replace HB := Lib.hid (HB.out.trans (hB.mono HB.out.size))
   replace HI := Lib.hid (HI.out.grow hB)
   replace HI2 := Lib.hid (HI2.out.grow hB)
   replace HT := Lib.hid (fun j hj => keep_below hB _ _ (HT.out j hj))
   replace HTI := Lib.hid (HTI.out.grow hB)
   replace HTJ := Lib.hid (HTJ.out.grow hB)
   replace HR1 := Lib.hid (HR1.out.below hB)
   replace HR2 := Lib.hid (HR2.out.below hB)
   replace HUA := Lib.hid (HUA.out.grow hB)
   replace HUB := Lib.hid (HUB.out.grow hB)
   replace HVF := Lib.hid (HVF.out.below hB)
   replace HVU := Lib.hid (HVU.out.grow hB)
   have HVx := Lib.hid (show Its W19 (fun _ => True) vx (witL LA LB false) from hvx.wide (fun _ _ _ => trivial))
   obtain ⟨xo, xc, rfl, _⟩ := hvx.len
   clear hvx
   clear hB
   have cHA0 := HA.out.2.1
   have cHA1 := HA.out.2.2.1
   have cHA2 := HA.out.2.2.2.1
   have cHA20 := HA2.out.2.1
   have cHA21 := HA2.out.2.2.1
   have cHA22 := HA2.out.2.2.2.1
   have cHR10 := HR1.out.2.1
   have cHR20 := HR2.out.2.1
   go_wp2_with fail
   refine (rwithout19_true 39 _ _ LA LB _ HTI.out (by rw [HAL.out]; have := HN1.out; omega) HAO.out HTJ.out (by rw [HBL.out]; have := HM1.out; omega) HBO.out).mono ?_
   rintro e W20 ⟨vy, rfl, hvy, hB⟩
   clear cHA0 cHA1 cHA2 cHA20 cHA21 cHA22 cHR10 cHR20
   replace HA := Lib.hid (HA.out.below hB)
   replace HA2 := Lib.hid (HA2.out.below hB)
   replace HB := Lib.hid (HB.out.trans (hB.mono HB.out.size))
   replace HI := Lib.hid (HI.out.grow hB)
   replace HI2 := Lib.hid (HI2.out.grow hB)
   replace HT := Lib.hid (fun j hj => keep_below hB _ _ (HT.out j hj))
   replace HTI := Lib.hid (HTI.out.grow hB)
   replace HTJ := Lib.hid (HTJ.out.grow hB)
   replace HR1 := Lib.hid (HR1.out.below hB)
   replace HR2 := Lib.hid (HR2.out.below hB)
   replace HUA := Lib.hid (HUA.out.grow hB)
   replace HUB := Lib.hid (HUB.out.grow hB)
   replace HVF := Lib.hid (HVF.out.below hB)
   replace HVU := Lib.hid (HVU.out.grow hB)
   replace HVx := Lib.hid (HVx.out.grow hB)
   have HVy := Lib.hid (show Its W20 (fun _ => True) vy (witL LA LB true) from hvy.wide (fun _ _ _ => trivial))
   obtain ⟨yo, yc, rfl, _⟩ := hvy.len
   clear hvy
   clear hB
   have cHA0 := HA.out.2.1
   have cHA1 := HA.out.2.2.1
   have cHA2 := HA.out.2.2.2.1
   have cHA20 := HA2.out.2.1
   have cHA21 := HA2.out.2.2.1
   have cHA22 := HA2.out.2.2.2.1
   have cHR10 := HR1.out.2.1
   have cHR20 := HR2.out.2.1
   go_wp2_with fail
   clear cHA0 cHA1 cHA2 cHA20 cHA21 cHA22 cHR10 cHR20
   obtain ⟨W21, hWD⟩ : ∃ xw9, W20.drew = xw9 := ⟨_, rfl⟩
   have hB : Below W20.heap.size W20 W21 := by rw [← hWD]; exact Below.drewN' (Below.refl _ _) 1
   replace HA := Lib.hid (HA.out.below hB)
   replace HA2 := Lib.hid (HA2.out.below hB)
   replace HB := Lib.hid (HB.out.trans (hB.mono HB.out.size))
   replace HI := Lib.hid (HI.out.grow hB)
   replace HI2 := Lib.hid (HI2.out.grow hB)
   replace HT := Lib.hid (fun j hj => keep_below hB _ _ (HT.out j hj))
   replace HTI := Lib.hid (HTI.out.grow hB)
   replace HTJ := Lib.hid (HTJ.out.grow hB)
   replace HR1 := Lib.hid (HR1.out.below hB)
   replace HR2 := Lib.hid (HR2.out.below hB)
   replace HUA := Lib.hid (HUA.out.grow hB)
   replace HUB := Lib.hid (HUB.out.grow hB)
   replace HVF := Lib.hid (HVF.out.below hB)
   replace HVU := Lib.hid (HVU.out.grow hB)
   replace HVx := Lib.hid (HVx.out.grow hB)
   replace HVy := Lib.hid (HVy.out.grow hB)
   clear hB
   refine wp_region_held_drew (S := fun w' => w'.cell? ⟨w.heap.size, 0, none⟩ = some (.slice so p.s.length sc) ∧ w'.cell? ⟨w.heap.size, 1, none⟩ = some (.slice io n ic) ∧ w'.cell? ⟨w.heap.size, 2, none⟩ = some (.int .i64 f) ∧ w'.cell? ⟨(w.heap.size + 1), 0, none⟩ = some (.slice qo q.s.length qc) ∧ w'.cell? ⟨(w.heap.size + 1), 1, none⟩ = some (.slice jo m jc) ∧ w'.cell? ⟨(w.heap.size + 1), 2, none⟩ = some (.int .i64 g) ∧ w'.cell? ⟨r1, 0, none⟩ = some (ua) ∧ w'.cell? ⟨r2, 0, none⟩ = some (ub)) (by kernel_rfl) (by rw [hWD]; exact ⟨HA.out.2.1, HA.out.2.2.1, HA.out.2.2.2.1, HA2.out.2.1, HA2.out.2.2.1, HA2.out.2.2.2.1, HR1.out.2.1, HR2.out.2.1⟩) (fun hHeld => ?_)
   rw [hWD] at hHeld ⊢
   clear hWD
   refine wpAnyH_take (i := 0) (v := ?_) rfl (by kernel_rfl) (by kernel_rfl) (by kernel_rfl) (fun _ _ _ h => h) (Or.inl ⟨by rfl, ?_⟩) (by assumption) ?_
   rotate_left
   ·(intro w hSw; (try dsimp only at hSw); go_simp; try with_reducible rfl)
   simp only [Act.put, List.getElem_toArray, List.getElem_cons_zero, List.setIfInBounds_toArray, List.set_cons_zero, List.set_cons_succ]
   refine wpAnyH_take (i := 2) (v := ?_) rfl (by kernel_rfl) (by kernel_rfl) (by kernel_rfl) (fun _ _ _ h => h) (Or.inl ⟨by rfl, ?_⟩) (by assumption) ?_
   rotate_left
   ·(intro w hSw; (try dsimp only at hSw); go_simp; try with_reducible rfl)
   simp only [Act.put, List.getElem_toArray, List.getElem_cons_succ, List.getElem_cons_zero, List.setIfInBounds_toArray, List.set_cons_zero, List.set_cons_succ]
   refine wpAnyH_ready (rs := [1]) (by kernel_rfl) (by simp) ?_
   refine AllReadyH.cons (o := _) rfl (fun K hK => ?_) ?_
   ·clear hHeld
    go_simp
    refine (hfirsts_calls _ A _ HUA.out HHA.out.hg HT.out).mono ?_
    rintro e W22 ⟨vg, rfl, hvg, hB⟩
    replace HA := Lib.hid (HA.out.below hB)
    replace HA2 := Lib.hid (HA2.out.below hB)
    replace HB := Lib.hid (HB.out.trans (hB.mono HB.out.size))
    replace HI := Lib.hid (HI.out.grow hB)
    replace HI2 := Lib.hid (HI2.out.grow hB)
    replace HT := Lib.hid (fun j hj => keep_below hB _ _ (HT.out j hj))
    replace HTI := Lib.hid (HTI.out.grow hB)
    replace HTJ := Lib.hid (HTJ.out.grow hB)
    replace HR1 := Lib.hid (HR1.out.below hB)
    replace HR2 := Lib.hid (HR2.out.below hB)
    replace HUA := Lib.hid (HUA.out.grow hB)
    replace HUB := Lib.hid (HUB.out.grow hB)
    replace HVF := Lib.hid (HVF.out.below hB)
    replace HVU := Lib.hid (HVU.out.grow hB)
    replace HVx := Lib.hid (HVx.out.grow hB)
    replace HVy := Lib.hid (HVy.out.grow hB)
    rw [HAI.out] at hvg
    have HVG := Lib.hid hvg.any
    obtain ⟨go_, gc, rfl, _⟩ := hvg.opened
    clear hvg
    clear hB
    refine hK.out _ _ ?_ (fun hHeld => ?_)
    ·exact ⟨HA.out.2.1, HA.out.2.2.1, HA.out.2.2.2.1, HA2.out.2.1, HA2.out.2.2.1, HA2.out.2.2.2.1, HR1.out.2.1, HR2.out.2.1⟩
    clear hK K
    refine wpAnyH_ready (rs := [3]) (by kernel_rfl) (by simp) ?_
    refine AllReadyH.cons (o := _) rfl (fun K hK => ?_) ?_
    ·clear hHeld
     go_simp
     refine (ints_eq _ _ (zL (frsL LA)) _ _ HVG.out HVF.out (by rw [zL_len]) (by have := frsL_len LA; have := HAN.out; omega)).mono ?_
     rintro e W23 ⟨rfl, hB⟩
     replace HA := Lib.hid (HA.out.below hB)
     replace HA2 := Lib.hid (HA2.out.below hB)
     replace HB := Lib.hid (HB.out.trans (hB.mono HB.out.size))
     replace HI := Lib.hid (HI.out.grow hB)
     replace HI2 := Lib.hid (HI2.out.grow hB)
     replace HT := Lib.hid (fun j hj => keep_below hB _ _ (HT.out j hj))
     replace HTI := Lib.hid (HTI.out.grow hB)
     replace HTJ := Lib.hid (HTJ.out.grow hB)
     replace HR1 := Lib.hid (HR1.out.below hB)
     replace HR2 := Lib.hid (HR2.out.below hB)
     replace HUA := Lib.hid (HUA.out.grow hB)
     replace HUB := Lib.hid (HUB.out.grow hB)
     replace HVF := Lib.hid (HVF.out.below hB)
     replace HVU := Lib.hid (HVU.out.grow hB)
     replace HVx := Lib.hid (HVx.out.grow hB)
     replace HVy := Lib.hid (HVy.out.grow hB)
     replace HVG := Lib.hid (HVG.out.below hB)
     clear hB
     refine hK.out _ _ ?_ (fun hHeld => ?_)
     ·exact ⟨HA.out.2.1, HA.out.2.2.1, HA.out.2.2.2.1, HA2.out.2.1, HA2.out.2.2.1, HA2.out.2.2.2.1, HR1.out.2.1, HR2.out.2.1⟩
     clear hK K
     refine wpAnyH_take (i := 4) (v := ?_) rfl (by kernel_rfl) (by kernel_rfl) (by kernel_rfl) (fun _ _ _ h => h) (Or.inl ⟨by rfl, ?_⟩) (by assumption) ?_
     rotate_left
     ·(intro w hSw; (try dsimp only at hSw); go_simp; try with_reducible rfl)
     simp only [Act.put, List.getElem_toArray, List.getElem_cons_succ, List.getElem_cons_zero, List.setIfInBounds_toArray, List.set_cons_zero, List.set_cons_succ]
     refine wpAnyH_take (i := 5) (v := ?_) rfl (by kernel_rfl) (by kernel_rfl) (by kernel_rfl) (fun _ _ _ h => h) (Or.inl ⟨by rfl, ?_⟩) (by assumption) ?_
     rotate_left
     ·(intro w hSw; (try dsimp only at hSw); go_simp; try with_reducible rfl)
     simp only [Act.put, List.getElem_toArray, List.getElem_cons_succ, List.getElem_cons_zero, List.setIfInBounds_toArray, List.set_cons_zero, List.set_cons_succ]
     refine wpAnyH_take (i := 6) (v := ?_) rfl (by kernel_rfl) (by kernel_rfl) (by kernel_rfl) (fun _ _ _ h => h) (Or.inl ⟨by rfl, ?_⟩) (by assumption) ?_
     rotate_left
     ·(intro w hSw; (try dsimp only at hSw); go_simp; try with_reducible rfl)
     simp only [Act.put, List.getElem_toArray, List.getElem_cons_succ, List.getElem_cons_zero, List.setIfInBounds_toArray, List.set_cons_zero, List.set_cons_succ]
     refine wpAnyH_take (i := 8) (v := ?_) rfl (by kernel_rfl) (by kernel_rfl) (by kernel_rfl) (fun _ _ _ h => h) (Or.inl ⟨by rfl, ?_⟩) (by assumption) ?_
     rotate_left
     ·(intro w hSw; (try dsimp only at hSw); go_simp; try with_reducible rfl)
     simp only [Act.put, List.getElem_toArray, List.getElem_cons_succ, List.getElem_cons_zero, List.setIfInBounds_toArray, List.set_cons_zero, List.set_cons_succ]
     refine wpAnyH_take (i := 9) (v := ?_) rfl (by kernel_rfl) (by kernel_rfl) (by kernel_rfl) (fun _ _ _ h => h) (Or.inl ⟨by rfl, ?_⟩) (by assumption) ?_
     rotate_left
     ·(intro w hSw; (try dsimp only at hSw); go_simp; try with_reducible rfl)
     simp only [Act.put, List.getElem_toArray, List.getElem_cons_succ, List.getElem_cons_zero, List.setIfInBounds_toArray, List.set_cons_zero, List.set_cons_succ]
     refine wpAnyH_take (i := 10) (v := ?_) rfl (by kernel_rfl) (by kernel_rfl) (by kernel_rfl) (fun _ _ _ h => h) (Or.inl ⟨by rfl, ?_⟩) (by assumption) ?_
     rotate_left
     ·(intro w hSw; (try dsimp only at hSw); go_simp; try with_reducible rfl)
     simp only [Act.put, List.getElem_toArray, List.getElem_cons_succ, List.getElem_cons_zero, List.setIfInBounds_toArray, List.set_cons_zero, List.set_cons_succ]
     refine wpAnyH_ready (rs := [7]) (by kernel_rfl) (by simp) ?_
     refine AllReadyH.cons (o := _) rfl (fun K hK => ?_) ?_
     ·clear hHeld
      go_simp
      refine (hunique_at _ A LA f _ HUA.out HHA.out.hg HHA.out.cls HAI.out HAN.out HT.out).mono ?_
      rintro e W24 ⟨u1, B1, rfl, hu1, hs1, hB⟩
      replace HA := Lib.hid (HA.out.below hB)
      replace HA2 := Lib.hid (HA2.out.below hB)
      replace HB := Lib.hid (HB.out.trans (hB.mono HB.out.size))
      replace HI := Lib.hid (HI.out.grow hB)
      replace HI2 := Lib.hid (HI2.out.grow hB)
      replace HT := Lib.hid (fun j hj => keep_below hB _ _ (HT.out j hj))
      replace HTI := Lib.hid (HTI.out.grow hB)
      replace HTJ := Lib.hid (HTJ.out.grow hB)
      replace HR1 := Lib.hid (HR1.out.below hB)
      replace HR2 := Lib.hid (HR2.out.below hB)
      replace HUA := Lib.hid (HUA.out.grow hB)
      replace HUB := Lib.hid (HUB.out.grow hB)
      replace HVF := Lib.hid (HVF.out.below hB)
      replace HVU := Lib.hid (HVU.out.grow hB)
      replace HVx := Lib.hid (HVx.out.grow hB)
      replace HVy := Lib.hid (HVy.out.grow hB)
      replace HVG := Lib.hid (HVG.out.below hB)
      have HU1 := Lib.hid hu1
      have HS1 := Lib.hid hs1
      have hsu1 := hu1.store
      clear hu1 hs1
      clear hB
      refine hK.out _ _ ?_ (fun hHeld => ?_)
      ·exact ⟨HA.out.2.1, HA.out.2.2.1, HA.out.2.2.2.1, HA2.out.2.1, HA2.out.2.2.1, HA2.out.2.2.2.1, HR1.out.2.1, HR2.out.2.1⟩
      clear hK K
      refine wpAnyH_ready (rs := [11]) (by kernel_rfl) (by simp) ?_
      refine AllReadyH.cons (o := _) rfl (fun K hK => ?_) ?_
      ·clear hHeld
       go_simp
       refine (shows19_calls _ B1 _ (uniqL LA) f _ HU1.out HS1.out.hg.1 HS1.out.cls HVU.out HS1.out.its.symm HT.out).mono ?_
       rintro e W25 ⟨rfl, hB⟩
       replace HA := Lib.hid (HA.out.below hB)
       replace HA2 := Lib.hid (HA2.out.below hB)
       replace HB := Lib.hid (HB.out.trans (hB.mono HB.out.size))
       replace HI := Lib.hid (HI.out.grow hB)
       replace HI2 := Lib.hid (HI2.out.grow hB)
       replace HT := Lib.hid (fun j hj => keep_below hB _ _ (HT.out j hj))
       replace HTI := Lib.hid (HTI.out.grow hB)
       replace HTJ := Lib.hid (HTJ.out.grow hB)
       replace HR1 := Lib.hid (HR1.out.below hB)
       replace HR2 := Lib.hid (HR2.out.below hB)
       replace HUA := Lib.hid (HUA.out.grow hB)
       replace HUB := Lib.hid (HUB.out.grow hB)
       replace HVF := Lib.hid (HVF.out.below hB)
       replace HVU := Lib.hid (HVU.out.grow hB)
       replace HVx := Lib.hid (HVx.out.grow hB)
       replace HVy := Lib.hid (HVy.out.grow hB)
       replace HVG := Lib.hid (HVG.out.below hB)
       replace HU1 := Lib.hid (HU1.out.grow hB)
       clear hB
       refine hK.out _ _ ?_ (fun hHeld => ?_)
       ·exact ⟨HA.out.2.1, HA.out.2.2.1, HA.out.2.2.2.1, HA2.out.2.1, HA2.out.2.2.1, HA2.out.2.2.2.1, HR1.out.2.1, HR2.out.2.1⟩
       clear hK K
       refine wpAnyH_take (i := 12) (v := ?_) rfl (by kernel_rfl) (by kernel_rfl) (by kernel_rfl) (fun _ _ _ h => h) (Or.inl ⟨by rfl, ?_⟩) (by assumption) ?_
       rotate_left
       ·(intro w hSw; (try dsimp only at hSw); go_simp; try with_reducible rfl)
       simp only [Act.put, List.getElem_toArray, List.getElem_cons_succ, List.getElem_cons_zero, List.setIfInBounds_toArray, List.set_cons_zero, List.set_cons_succ]
       refine wpAnyH_take (i := 13) (v := ?_) rfl (by kernel_rfl) (by kernel_rfl) (by kernel_rfl) (fun _ _ _ h => h) (Or.inl ⟨by rfl, ?_⟩) (by assumption) ?_
       rotate_left
       ·(intro w hSw; (try dsimp only at hSw); go_simp; try with_reducible rfl)
       simp only [Act.put, List.getElem_toArray, List.getElem_cons_succ, List.getElem_cons_zero, List.setIfInBounds_toArray, List.set_cons_zero, List.set_cons_succ]
       refine wpAnyH_take (i := 14) (v := ?_) rfl (by kernel_rfl) (by kernel_rfl) (by kernel_rfl) (fun _ _ _ h => h) (Or.inl ⟨by rfl, ?_⟩) (by assumption) ?_
       rotate_left
       ·(intro w hSw; (try dsimp only at hSw); go_simp; try with_reducible rfl)
       simp only [Act.put, List.getElem_toArray, List.getElem_cons_succ, List.getElem_cons_zero, List.setIfInBounds_toArray, List.set_cons_zero, List.set_cons_succ]
       refine wpAnyH_take (i := 15) (v := ?_) rfl (by kernel_rfl) (by kernel_rfl) (by kernel_rfl) (fun _ _ _ h => h) (Or.inl ⟨by rfl, ?_⟩) (by assumption) ?_
       rotate_left
       ·(intro w hSw; (try dsimp only at hSw); go_simp; try with_reducible rfl)
       simp only [Act.put, List.getElem_toArray, List.getElem_cons_succ, List.getElem_cons_zero, List.setIfInBounds_toArray, List.set_cons_zero, List.set_cons_succ]
       refine wpAnyH_take (i := 18) (v := ?_) rfl (by kernel_rfl) (by kernel_rfl) (by kernel_rfl) (fun _ _ _ h => h) (Or.inl ⟨by rfl, ?_⟩) (by assumption) ?_
       rotate_left
       ·(intro w hSw; (try dsimp only at hSw); go_simp; try with_reducible rfl)
       simp only [Act.put, List.getElem_toArray, List.getElem_cons_succ, List.getElem_cons_zero, List.setIfInBounds_toArray, List.set_cons_zero, List.set_cons_succ]
       refine wpAnyH_take (i := 19) (v := ?_) rfl (by kernel_rfl) (by kernel_rfl) (by kernel_rfl) (fun _ _ _ h => h) (Or.inl ⟨by rfl, ?_⟩) (by assumption) ?_
       rotate_left
       ·(intro w hSw; (try dsimp only at hSw); go_simp; try with_reducible rfl)
       simp only [Act.put, List.getElem_toArray, List.getElem_cons_succ, List.getElem_cons_zero, List.setIfInBounds_toArray, List.set_cons_zero, List.set_cons_succ]
       refine wpAnyH_take (i := 20) (v := ?_) rfl (by kernel_rfl) (by kernel_rfl) (by kernel_rfl) (fun _ _ _ h => h) (Or.inl ⟨by rfl, ?_⟩) (by assumption) ?_
       rotate_left
       ·(intro w hSw; (try dsimp only at hSw); go_simp; try with_reducible rfl)
       simp only [Act.put, List.getElem_toArray, List.getElem_cons_succ, List.getElem_cons_zero, List.setIfInBounds_toArray, List.set_cons_zero, List.set_cons_succ]
       refine wpAnyH_ready (rs := [16]) (by kernel_rfl) (by simp) ?_
       refine AllReadyH.cons (o := _) rfl (fun K hK => ?_) ?_
       ·clear hHeld
        go_simp
        refine (hunique_at _ A LA f _ HUA.out HHA.out.hg HHA.out.cls HAI.out HAN.out HT.out).mono ?_
        rintro e W26 ⟨u2, B2, rfl, hu2, hs2, hB⟩
        replace HA := Lib.hid (HA.out.below hB)
        replace HA2 := Lib.hid (HA2.out.below hB)
        replace HB := Lib.hid (HB.out.trans (hB.mono HB.out.size))
        replace HI := Lib.hid (HI.out.grow hB)
        replace HI2 := Lib.hid (HI2.out.grow hB)
        replace HT := Lib.hid (fun j hj => keep_below hB _ _ (HT.out j hj))
        replace HTI := Lib.hid (HTI.out.grow hB)
        replace HTJ := Lib.hid (HTJ.out.grow hB)
        replace HR1 := Lib.hid (HR1.out.below hB)
        replace HR2 := Lib.hid (HR2.out.below hB)
        replace HUA := Lib.hid (HUA.out.grow hB)
        replace HUB := Lib.hid (HUB.out.grow hB)
        replace HVF := Lib.hid (HVF.out.below hB)
        replace HVU := Lib.hid (HVU.out.grow hB)
        replace HVx := Lib.hid (HVx.out.grow hB)
        replace HVy := Lib.hid (HVy.out.grow hB)
        replace HVG := Lib.hid (HVG.out.below hB)
        replace HU1 := Lib.hid (HU1.out.grow hB)
        have HU2 := Lib.hid hu2
        have HS2 := Lib.hid hs2
        have hsu2 := hu2.store
        clear hu2 hs2
        clear hB
        refine hK.out _ _ ?_ (fun hHeld => ?_)
        ·exact ⟨HA.out.2.1, HA.out.2.2.1, HA.out.2.2.2.1, HA2.out.2.1, HA2.out.2.2.1, HA2.out.2.2.2.1, HR1.out.2.1, HR2.out.2.1⟩
        clear hK K
        refine wpAnyH_ready (rs := [17]) (by kernel_rfl) (by simp) ?_
        refine AllReadyH.cons (o := _) rfl (fun K hK => ?_) ?_
        ·clear hHeld
         go_simp
         refine (hunique_two _ B2 LA f _ HU2.out HS2.out.hg HS2.out.cls HS2.out.its (Nat.le_trans (uniqL_len LA) HAN.out) HT.out).mono ?_
         rintro e W27 ⟨u3, B3, rfl, hu3, hs3, hB⟩
         replace HA := Lib.hid (HA.out.below hB)
         replace HA2 := Lib.hid (HA2.out.below hB)
         replace HB := Lib.hid (HB.out.trans (hB.mono HB.out.size))
         replace HI := Lib.hid (HI.out.grow hB)
         replace HI2 := Lib.hid (HI2.out.grow hB)
         replace HT := Lib.hid (fun j hj => keep_below hB _ _ (HT.out j hj))
         replace HTI := Lib.hid (HTI.out.grow hB)
         replace HTJ := Lib.hid (HTJ.out.grow hB)
         replace HR1 := Lib.hid (HR1.out.below hB)
         replace HR2 := Lib.hid (HR2.out.below hB)
         replace HUA := Lib.hid (HUA.out.grow hB)
         replace HUB := Lib.hid (HUB.out.grow hB)
         replace HVF := Lib.hid (HVF.out.below hB)
         replace HVU := Lib.hid (HVU.out.grow hB)
         replace HVx := Lib.hid (HVx.out.grow hB)
         replace HVy := Lib.hid (HVy.out.grow hB)
         replace HVG := Lib.hid (HVG.out.below hB)
         replace HU1 := Lib.hid (HU1.out.grow hB)
         replace HU2 := Lib.hid (HU2.out.grow hB)
         have HU3 := Lib.hid hu3
         have HS3 := Lib.hid hs3
         have hsu3 := hu3.store
         clear hu3 hs3
         clear hB
         refine hK.out _ _ ?_ (fun hHeld => ?_)
         ·exact ⟨HA.out.2.1, HA.out.2.2.1, HA.out.2.2.2.1, HA2.out.2.1, HA2.out.2.2.1, HA2.out.2.2.2.1, HR1.out.2.1, HR2.out.2.1⟩
         clear hK K
         refine wpAnyH_ready (rs := [21]) (by kernel_rfl) (by simp) ?_
         refine AllReadyH.cons (o := _) rfl (fun K hK => ?_) ?_
         ·clear hHeld
          go_simp
          refine (shows19_calls _ B3 _ (uniqL LA) f _ HU3.out HS3.out.hg.1 HS3.out.cls HVU.out HS3.out.its.symm HT.out).mono ?_
          rintro e W28 ⟨rfl, hB⟩
          replace HA := Lib.hid (HA.out.below hB)
          replace HA2 := Lib.hid (HA2.out.below hB)
          replace HB := Lib.hid (HB.out.trans (hB.mono HB.out.size))
          replace HI := Lib.hid (HI.out.grow hB)
          replace HI2 := Lib.hid (HI2.out.grow hB)
          replace HT := Lib.hid (fun j hj => keep_below hB _ _ (HT.out j hj))
          replace HTI := Lib.hid (HTI.out.grow hB)
          replace HTJ := Lib.hid (HTJ.out.grow hB)
          replace HR1 := Lib.hid (HR1.out.below hB)
          replace HR2 := Lib.hid (HR2.out.below hB)
          replace HUA := Lib.hid (HUA.out.grow hB)
          replace HUB := Lib.hid (HUB.out.grow hB)
          replace HVF := Lib.hid (HVF.out.below hB)
          replace HVU := Lib.hid (HVU.out.grow hB)
          replace HVx := Lib.hid (HVx.out.grow hB)
          replace HVy := Lib.hid (HVy.out.grow hB)
          replace HVG := Lib.hid (HVG.out.below hB)
          replace HU1 := Lib.hid (HU1.out.grow hB)
          replace HU2 := Lib.hid (HU2.out.grow hB)
          replace HU3 := Lib.hid (HU3.out.grow hB)
          clear hB
          refine hK.out _ _ ?_ (fun hHeld => ?_)
          ·exact ⟨HA.out.2.1, HA.out.2.2.1, HA.out.2.2.2.1, HA2.out.2.1, HA2.out.2.2.1, HA2.out.2.2.2.1, HR1.out.2.1, HR2.out.2.1⟩
          clear hK K
          refine wpAnyH_take (i := 22) (v := ?_) rfl (by kernel_rfl) (by kernel_rfl) (by kernel_rfl) (fun _ _ _ h => h) (Or.inl ⟨by rfl, ?_⟩) (by assumption) ?_
          rotate_left
          ·(intro w hSw; (try dsimp only at hSw); go_simp; try with_reducible rfl)
          simp only [Act.put, List.getElem_toArray, List.getElem_cons_succ, List.getElem_cons_zero, List.setIfInBounds_toArray, List.set_cons_zero, List.set_cons_succ]
          refine wpAnyH_take (i := 23) (v := ?_) rfl (by kernel_rfl) (by kernel_rfl) (by kernel_rfl) (fun _ _ _ h => h) (Or.inl ⟨by rfl, ?_⟩) (by assumption) ?_
          rotate_left
          ·(intro w hSw; (try dsimp only at hSw); go_simp; try with_reducible rfl)
          simp only [Act.put, List.getElem_toArray, List.getElem_cons_succ, List.getElem_cons_zero, List.setIfInBounds_toArray, List.set_cons_zero, List.set_cons_succ]
          refine wpAnyH_done (by kernel_rfl) ?_ _
          clear hHeld
          have HXY := Lib.hid (show ((witL LA LB false).length : Int) + ((witL LA LB true).length : Int) = (n : Int) by have := wit_parts LA LB; rw [HAL.out] at this; omega)
          have cHA0 := HA.out.2.1
          have cHA1 := HA.out.2.2.1
          have cHA2 := HA.out.2.2.2.1
          have cHA20 := HA2.out.2.1
          have cHA21 := HA2.out.2.2.1
          have cHA22 := HA2.out.2.2.2.1
          have cHR10 := HR1.out.2.1
          have cHR20 := HR2.out.2.1
          go_wp2_with fail
          obtain ⟨nx, hnx⟩ : ∃ nx, (witL LA LB false).length = nx := ⟨_, rfl⟩
          obtain ⟨ny, hny⟩ : ∃ ny, (witL LA LB true).length = ny := ⟨_, rfl⟩
          rw [hnx, hny]
          have hxy : (nx : Int) + (ny : Int) = (n : Int) := by have h9 := HXY.out; rw [hnx, hny] at h9; exact h9
          have hnw : IntKind.i64.wrap (n : Int) = (n : Int) := IntWalk.i64_in _ (by have := HN1.out; omega)
          have HVX := Lib.hid (show Its W28 (fun _ => True) (.slice xo nx xc) (witL LA LB false) by rw [← hnx]; exact HVx.out)
          have HVY := Lib.hid (show Its W28 (fun _ => True) (.slice yo ny yc) (witL LA LB true) by rw [← hny]; exact HVy.out)
          clear hnx hny
          clear cHA0 cHA1 cHA2 cHA20 cHA21 cHA22 cHR10 cHR20
          obtain ⟨W29, hWD⟩ : ∃ xw9, W28.drew = xw9 := ⟨_, rfl⟩
          have hB : Below W28.heap.size W28 W29 := by rw [← hWD]; exact Below.drewN' (Below.refl _ _) 1
          replace HA := Lib.hid (HA.out.below hB)
          replace HA2 := Lib.hid (HA2.out.below hB)
          replace HB := Lib.hid (HB.out.trans (hB.mono HB.out.size))
          replace HI := Lib.hid (HI.out.grow hB)
          replace HI2 := Lib.hid (HI2.out.grow hB)
          replace HT := Lib.hid (fun j hj => keep_below hB _ _ (HT.out j hj))
          replace HTI := Lib.hid (HTI.out.grow hB)
          replace HTJ := Lib.hid (HTJ.out.grow hB)
          replace HR1 := Lib.hid (HR1.out.below hB)
          replace HR2 := Lib.hid (HR2.out.below hB)
          replace HUA := Lib.hid (HUA.out.grow hB)
          replace HUB := Lib.hid (HUB.out.grow hB)
          replace HVX := Lib.hid (HVX.out.grow hB)
          replace HVY := Lib.hid (HVY.out.grow hB)
          clear hB
          refine wp_region_held_drew (S := fun w' => w'.cell? ⟨w.heap.size, 0, none⟩ = some (.slice so p.s.length sc) ∧ w'.cell? ⟨w.heap.size, 1, none⟩ = some (.slice io n ic) ∧ w'.cell? ⟨w.heap.size, 2, none⟩ = some (.int .i64 f) ∧ w'.cell? ⟨(w.heap.size + 1), 0, none⟩ = some (.slice qo q.s.length qc) ∧ w'.cell? ⟨(w.heap.size + 1), 1, none⟩ = some (.slice jo m jc) ∧ w'.cell? ⟨(w.heap.size + 1), 2, none⟩ = some (.int .i64 g) ∧ w'.cell? ⟨r1, 0, none⟩ = some (ua) ∧ w'.cell? ⟨r2, 0, none⟩ = some (ub)) (by kernel_rfl) (by rw [hWD]; exact ⟨HA.out.2.1, HA.out.2.2.1, HA.out.2.2.2.1, HA2.out.2.1, HA2.out.2.2.1, HA2.out.2.2.2.1, HR1.out.2.1, HR2.out.2.1⟩) (fun hHeld => ?_)
          rw [hWD] at hHeld ⊢
          clear hWD
          refine wpAnyH_take (i := 0) (v := ?_) rfl (by kernel_rfl) (by kernel_rfl) (by kernel_rfl) (fun _ _ _ h => h) (Or.inl ⟨by rfl, ?_⟩) (by assumption) ?_
          rotate_left
          ·(intro w hSw; (try dsimp only at hSw); go_simp; try with_reducible rfl)
          simp only [Act.put, List.getElem_toArray, List.getElem_cons_zero, List.setIfInBounds_toArray, List.set_cons_zero, List.set_cons_succ]
          refine wpAnyH_take (i := 1) (v := ?_) rfl (by kernel_rfl) (by kernel_rfl) (by kernel_rfl) (fun _ _ _ h => h) (Or.inl ⟨by rfl, ?_⟩) (by assumption) ?_
          rotate_left
          ·(intro w hSw; (try dsimp only at hSw); go_simp; try with_reducible rfl)
          simp only [Act.put, List.getElem_toArray, List.getElem_cons_succ, List.getElem_cons_zero, List.setIfInBounds_toArray, List.set_cons_zero, List.set_cons_succ]
          refine wpAnyH_take (i := 3) (v := ?_) rfl (by kernel_rfl) (by kernel_rfl) (by kernel_rfl) (fun _ _ _ h => h) (Or.inl ⟨by rfl, ?_⟩) (by assumption) ?_
          rotate_left
          ·(intro w hSw; (try dsimp only at hSw); go_simp; try with_reducible rfl)
          simp only [Act.put, List.getElem_toArray, List.getElem_cons_succ, List.getElem_cons_zero, List.setIfInBounds_toArray, List.set_cons_zero, List.set_cons_succ]
          refine wpAnyH_take (i := 4) (v := ?_) rfl (by kernel_rfl) (by kernel_rfl) (by kernel_rfl) (fun _ _ _ h => h) (Or.inl ⟨by rfl, ?_⟩) (by assumption) ?_
          rotate_left
          ·(intro w hSw; (try dsimp only at hSw); go_simp; try with_reducible rfl)
          simp only [Act.put, List.getElem_toArray, List.getElem_cons_succ, List.getElem_cons_zero, List.setIfInBounds_toArray, List.set_cons_zero, List.set_cons_succ]
          refine wpAnyH_take (i := 5) (v := ?_) rfl (by kernel_rfl) (by kernel_rfl) (by kernel_rfl) (fun _ _ _ h => h) (Or.inl ⟨by rfl, ?_⟩) (by assumption) ?_
          rotate_left
          ·(intro w hSw; (try dsimp only at hSw); go_simp; try with_reducible rfl)
          simp only [Act.put, List.getElem_toArray, List.getElem_cons_succ, List.getElem_cons_zero, List.setIfInBounds_toArray, List.set_cons_zero, List.set_cons_succ]
          refine wpAnyH_ready (rs := [2]) (by kernel_rfl) (by simp) ?_
          refine AllReadyH.cons (o := _) rfl (fun K hK => ?_) ?_
          ·clear hHeld
           go_simp
           refine (hwithout_at _ _ A B LA LB f false _ HUA.out HHA.out.hg HHA.out.cls HAI.out HUB.out HHB.out.hg HBI.out HAN.out HT.out).mono ?_
           rintro e W30 ⟨u4, B4, rfl, hu4, hs4, hB⟩
           replace HA := Lib.hid (HA.out.below hB)
           replace HA2 := Lib.hid (HA2.out.below hB)
           replace HB := Lib.hid (HB.out.trans (hB.mono HB.out.size))
           replace HI := Lib.hid (HI.out.grow hB)
           replace HI2 := Lib.hid (HI2.out.grow hB)
           replace HT := Lib.hid (fun j hj => keep_below hB _ _ (HT.out j hj))
           replace HTI := Lib.hid (HTI.out.grow hB)
           replace HTJ := Lib.hid (HTJ.out.grow hB)
           replace HR1 := Lib.hid (HR1.out.below hB)
           replace HR2 := Lib.hid (HR2.out.below hB)
           replace HUA := Lib.hid (HUA.out.grow hB)
           replace HUB := Lib.hid (HUB.out.grow hB)
           replace HVX := Lib.hid (HVX.out.grow hB)
           replace HVY := Lib.hid (HVY.out.grow hB)
           have HU4 := Lib.hid hu4
           have HS4 := Lib.hid hs4
           have hsu4 := hu4.store
           clear hu4 hs4
           clear hB
           refine hK.out _ _ ?_ (fun hHeld => ?_)
           ·exact ⟨HA.out.2.1, HA.out.2.2.1, HA.out.2.2.2.1, HA2.out.2.1, HA2.out.2.2.1, HA2.out.2.2.2.1, HR1.out.2.1, HR2.out.2.1⟩
           clear hK K
           refine wpAnyH_ready (rs := [6]) (by kernel_rfl) (by simp) ?_
           refine AllReadyH.cons (o := _) rfl (fun K hK => ?_) ?_
           ·clear hHeld
            go_simp
            refine (shows19_calls _ B4 _ (witL LA LB false) f _ HU4.out HS4.out.hg.1 HS4.out.cls HVX.out HS4.out.its.symm HT.out).mono ?_
            rintro e W31 ⟨rfl, hB⟩
            replace HA := Lib.hid (HA.out.below hB)
            replace HA2 := Lib.hid (HA2.out.below hB)
            replace HB := Lib.hid (HB.out.trans (hB.mono HB.out.size))
            replace HI := Lib.hid (HI.out.grow hB)
            replace HI2 := Lib.hid (HI2.out.grow hB)
            replace HT := Lib.hid (fun j hj => keep_below hB _ _ (HT.out j hj))
            replace HTI := Lib.hid (HTI.out.grow hB)
            replace HTJ := Lib.hid (HTJ.out.grow hB)
            replace HR1 := Lib.hid (HR1.out.below hB)
            replace HR2 := Lib.hid (HR2.out.below hB)
            replace HUA := Lib.hid (HUA.out.grow hB)
            replace HUB := Lib.hid (HUB.out.grow hB)
            replace HVX := Lib.hid (HVX.out.grow hB)
            replace HVY := Lib.hid (HVY.out.grow hB)
            replace HU4 := Lib.hid (HU4.out.grow hB)
            clear hB
            refine hK.out _ _ ?_ (fun hHeld => ?_)
            ·exact ⟨HA.out.2.1, HA.out.2.2.1, HA.out.2.2.2.1, HA2.out.2.1, HA2.out.2.2.1, HA2.out.2.2.2.1, HR1.out.2.1, HR2.out.2.1⟩
            clear hK K
            refine wpAnyH_take (i := 7) (v := ?_) rfl (by kernel_rfl) (by kernel_rfl) (by kernel_rfl) (fun _ _ _ h => h) (Or.inl ⟨by rfl, ?_⟩) (by assumption) ?_
            rotate_left
            ·(intro w hSw; (try dsimp only at hSw); go_simp; try with_reducible rfl)
            simp only [Act.put, List.getElem_toArray, List.getElem_cons_succ, List.getElem_cons_zero, List.setIfInBounds_toArray, List.set_cons_zero, List.set_cons_succ]
            refine wpAnyH_take (i := 8) (v := ?_) rfl (by kernel_rfl) (by kernel_rfl) (by kernel_rfl) (fun _ _ _ h => h) (Or.inl ⟨by rfl, ?_⟩) (by assumption) ?_
            rotate_left
            ·(intro w hSw; (try dsimp only at hSw); go_simp; try with_reducible rfl)
            simp only [Act.put, List.getElem_toArray, List.getElem_cons_succ, List.getElem_cons_zero, List.setIfInBounds_toArray, List.set_cons_zero, List.set_cons_succ]
            refine wpAnyH_take (i := 9) (v := ?_) rfl (by kernel_rfl) (by kernel_rfl) (by kernel_rfl) (fun _ _ _ h => h) (Or.inl ⟨by rfl, ?_⟩) (by assumption) ?_
            rotate_left
            ·(intro w hSw; (try dsimp only at hSw); go_simp; try with_reducible rfl)
            simp only [Act.put, List.getElem_toArray, List.getElem_cons_succ, List.getElem_cons_zero, List.setIfInBounds_toArray, List.set_cons_zero, List.set_cons_succ]
            refine wpAnyH_take (i := 11) (v := ?_) rfl (by kernel_rfl) (by kernel_rfl) (by kernel_rfl) (fun _ _ _ h => h) (Or.inl ⟨by rfl, ?_⟩) (by assumption) ?_
            rotate_left
            ·(intro w hSw; (try dsimp only at hSw); go_simp; try with_reducible rfl)
            simp only [Act.put, List.getElem_toArray, List.getElem_cons_succ, List.getElem_cons_zero, List.setIfInBounds_toArray, List.set_cons_zero, List.set_cons_succ]
            refine wpAnyH_take (i := 12) (v := ?_) rfl (by kernel_rfl) (by kernel_rfl) (by kernel_rfl) (fun _ _ _ h => h) (Or.inl ⟨by rfl, ?_⟩) (by assumption) ?_
            rotate_left
            ·(intro w hSw; (try dsimp only at hSw); go_simp; try with_reducible rfl)
            simp only [Act.put, List.getElem_toArray, List.getElem_cons_succ, List.getElem_cons_zero, List.setIfInBounds_toArray, List.set_cons_zero, List.set_cons_succ]
            refine wpAnyH_take (i := 13) (v := ?_) rfl (by kernel_rfl) (by kernel_rfl) (by kernel_rfl) (fun _ _ _ h => h) (Or.inl ⟨by rfl, ?_⟩) (by assumption) ?_
            rotate_left
            ·(intro w hSw; (try dsimp only at hSw); go_simp; try with_reducible rfl)
            simp only [Act.put, List.getElem_toArray, List.getElem_cons_succ, List.getElem_cons_zero, List.setIfInBounds_toArray, List.set_cons_zero, List.set_cons_succ]
            refine wpAnyH_ready (rs := [10]) (by kernel_rfl) (by simp) ?_
            refine AllReadyH.cons (o := _) rfl (fun K hK => ?_) ?_
            ·clear hHeld
             go_simp
             refine (hwithout_at _ _ A B LA LB f true _ HUA.out HHA.out.hg HHA.out.cls HAI.out HUB.out HHB.out.hg HBI.out HAN.out HT.out).mono ?_
             rintro e W32 ⟨u5, B5, rfl, hu5, hs5, hB⟩
             replace HA := Lib.hid (HA.out.below hB)
             replace HA2 := Lib.hid (HA2.out.below hB)
             replace HB := Lib.hid (HB.out.trans (hB.mono HB.out.size))
             replace HI := Lib.hid (HI.out.grow hB)
             replace HI2 := Lib.hid (HI2.out.grow hB)
             replace HT := Lib.hid (fun j hj => keep_below hB _ _ (HT.out j hj))
             replace HTI := Lib.hid (HTI.out.grow hB)
             replace HTJ := Lib.hid (HTJ.out.grow hB)
             replace HR1 := Lib.hid (HR1.out.below hB)
             replace HR2 := Lib.hid (HR2.out.below hB)
             replace HUA := Lib.hid (HUA.out.grow hB)
             replace HUB := Lib.hid (HUB.out.grow hB)
             replace HVX := Lib.hid (HVX.out.grow hB)
             replace HVY := Lib.hid (HVY.out.grow hB)
             replace HU4 := Lib.hid (HU4.out.grow hB)
             have HU5 := Lib.hid hu5
             have HS5 := Lib.hid hs5
             have hsu5 := hu5.store
             clear hu5 hs5
             clear hB
             refine hK.out _ _ ?_ (fun hHeld => ?_)
             ·exact ⟨HA.out.2.1, HA.out.2.2.1, HA.out.2.2.2.1, HA2.out.2.1, HA2.out.2.2.1, HA2.out.2.2.2.1, HR1.out.2.1, HR2.out.2.1⟩
             clear hK K
             refine wpAnyH_ready (rs := [14]) (by kernel_rfl) (by simp) ?_
             refine AllReadyH.cons (o := _) rfl (fun K hK => ?_) ?_
             ·clear hHeld
              go_simp
              refine (shows19_calls _ B5 _ (witL LA LB true) f _ HU5.out HS5.out.hg.1 HS5.out.cls HVY.out HS5.out.its.symm HT.out).mono ?_
              rintro e W33 ⟨rfl, hB⟩
              replace HA := Lib.hid (HA.out.below hB)
              replace HA2 := Lib.hid (HA2.out.below hB)
              replace HB := Lib.hid (HB.out.trans (hB.mono HB.out.size))
              replace HI := Lib.hid (HI.out.grow hB)
              replace HI2 := Lib.hid (HI2.out.grow hB)
              replace HT := Lib.hid (fun j hj => keep_below hB _ _ (HT.out j hj))
              replace HTI := Lib.hid (HTI.out.grow hB)
              replace HTJ := Lib.hid (HTJ.out.grow hB)
              replace HR1 := Lib.hid (HR1.out.below hB)
              replace HR2 := Lib.hid (HR2.out.below hB)
              replace HUA := Lib.hid (HUA.out.grow hB)
              replace HUB := Lib.hid (HUB.out.grow hB)
              replace HVX := Lib.hid (HVX.out.grow hB)
              replace HVY := Lib.hid (HVY.out.grow hB)
              replace HU4 := Lib.hid (HU4.out.grow hB)
              replace HU5 := Lib.hid (HU5.out.grow hB)
              clear hB
              refine hK.out _ _ ?_ (fun hHeld => ?_)
              ·exact ⟨HA.out.2.1, HA.out.2.2.1, HA.out.2.2.2.1, HA2.out.2.1, HA2.out.2.2.1, HA2.out.2.2.2.1, HR1.out.2.1, HR2.out.2.1⟩
              clear hK K
              refine wpAnyH_take (i := 15) (v := ?_) rfl (by kernel_rfl) (by kernel_rfl) (by kernel_rfl) (fun _ _ _ h => h) (Or.inl ⟨by rfl, ?_⟩) (by assumption) ?_
              rotate_left
              ·(intro w hSw; (try dsimp only at hSw); go_simp; try with_reducible rfl)
              simp only [Act.put, List.getElem_toArray, List.getElem_cons_succ, List.getElem_cons_zero, List.setIfInBounds_toArray, List.set_cons_zero, List.set_cons_succ]
              refine wpAnyH_take (i := 16) (v := ?_) rfl (by kernel_rfl) (by kernel_rfl) (by kernel_rfl) (fun _ _ _ h => h) (Or.inl ⟨by rfl, ?_⟩) (by assumption) ?_
              rotate_left
              ·(intro w hSw; (try dsimp only at hSw); go_simp; try with_reducible rfl)
              simp only [Act.put, List.getElem_toArray, List.getElem_cons_succ, List.getElem_cons_zero, List.setIfInBounds_toArray, List.set_cons_zero, List.set_cons_succ]
              refine wpAnyH_take (i := 17) (v := ?_) rfl (by kernel_rfl) (by kernel_rfl) (by kernel_rfl) (fun _ _ _ h => h) (Or.inl ⟨by rfl, ?_⟩) (by assumption) ?_
              rotate_left
              ·(intro w hSw; (try dsimp only at hSw); go_simp; try with_reducible rfl)
              simp only [Act.put, List.getElem_toArray, List.getElem_cons_succ, List.getElem_cons_zero, List.setIfInBounds_toArray, List.set_cons_zero, List.set_cons_succ]
              refine wpAnyH_take (i := 18) (v := ?_) rfl (by kernel_rfl) (by kernel_rfl) (by kernel_rfl) (fun _ _ _ h => h) (Or.inl ⟨by rfl, ?_⟩) (by assumption) ?_
              rotate_left
              ·(intro w hSw; (try dsimp only at hSw); go_simp; try with_reducible rfl)
              simp only [Act.put, List.getElem_toArray, List.getElem_cons_succ, List.getElem_cons_zero, List.setIfInBounds_toArray, List.set_cons_zero, List.set_cons_succ]
              refine wpAnyH_take (i := 19) (v := ?_) rfl (by kernel_rfl) (by kernel_rfl) (by kernel_rfl) (fun _ _ _ h => h) (Or.inl ⟨by rfl, ?_⟩) (by assumption) ?_
              rotate_left
              ·(intro w hSw; (try dsimp only at hSw); go_simp; try with_reducible rfl)
              simp only [Act.put, List.getElem_toArray, List.getElem_cons_succ, List.getElem_cons_zero, List.setIfInBounds_toArray, List.set_cons_zero, List.set_cons_succ]
              refine wpAnyH_take (i := 20) (v := ?_) rfl (by kernel_rfl) (by kernel_rfl) (by kernel_rfl) (fun _ _ _ h => h) (Or.inl ⟨by rfl, ?_⟩) (by assumption) ?_
              rotate_left
              ·(intro w hSw; (try dsimp only at hSw); go_simp; try with_reducible rfl)
              simp only [Act.put, List.getElem_toArray, List.getElem_cons_succ, List.getElem_cons_zero, List.setIfInBounds_toArray, List.set_cons_zero, List.set_cons_succ]
              refine wpAnyH_take (i := 21) (v := ?_) rfl (by kernel_rfl) (by kernel_rfl) (by kernel_rfl) (fun _ _ _ h => h) (Or.inl ⟨by rfl, ?_⟩) (by assumption) ?_
              rotate_left
              ·(intro w hSw; (try dsimp only at hSw); go_simp; try with_reducible rfl)
              simp only [Act.put, List.getElem_toArray, List.getElem_cons_succ, List.getElem_cons_zero, List.setIfInBounds_toArray, List.set_cons_zero, List.set_cons_succ]
              refine wpAnyH_take (i := 22) (v := ?_) rfl (by kernel_rfl) (by kernel_rfl) (by kernel_rfl) (fun _ _ _ h => h) (Or.inl ⟨by rfl, ?_⟩) (by assumption) ?_
              rotate_left
              ·(intro w hSw; (try dsimp only at hSw); go_simp; try with_reducible rfl)
              simp only [Act.put, List.getElem_toArray, List.getElem_cons_succ, List.getElem_cons_zero, List.setIfInBounds_toArray, List.set_cons_zero, List.set_cons_succ]
              refine wpAnyH_take (i := 23) (v := ?_) rfl (by kernel_rfl) (by kernel_rfl) (by kernel_rfl) (fun _ _ _ h => h) (Or.inl ⟨by rfl, ?_⟩) (by assumption) ?_
              rotate_left
              ·(intro w hSw; (try dsimp only at hSw); go_simp; try with_reducible rfl)
              simp only [Act.put, List.getElem_toArray, List.getElem_cons_succ, List.getElem_cons_zero, List.setIfInBounds_toArray, List.set_cons_zero, List.set_cons_succ]
              refine wpAnyH_take (i := 24) (v := ?_) rfl (by kernel_rfl) (by kernel_rfl) (by kernel_rfl) (fun _ _ _ h => h) (Or.inl ⟨by rfl, ?_⟩) (by assumption) ?_
              rotate_left
              ·(intro w hSw; (try dsimp only at hSw); go_simp; try with_reducible rfl)
              simp only [Act.put, List.getElem_toArray, List.getElem_cons_succ, List.getElem_cons_zero, List.setIfInBounds_toArray, List.set_cons_zero, List.set_cons_succ]
              refine wpAnyH_take (i := 25) (v := ?_) rfl (by kernel_rfl) (by kernel_rfl) (by kernel_rfl) (fun _ _ _ h => h) (Or.inl ⟨by rfl, ?_⟩) (by assumption) ?_
              rotate_left
              ·(intro w hSw; (try dsimp only at hSw); go_simp; try with_reducible rfl)
              simp only [Act.put, List.getElem_toArray, List.getElem_cons_succ, List.getElem_cons_zero, List.setIfInBounds_toArray, List.set_cons_zero, List.set_cons_succ]
              refine wpAnyH_take (i := 26) (v := ?_) rfl (by kernel_rfl) (by kernel_rfl) (by kernel_rfl) (fun _ _ _ h => h) (Or.inl ⟨by rfl, ?_⟩) (by assumption) ?_
              rotate_left
              ·(intro w hSw; (try dsimp only at hSw); go_simp; try with_reducible rfl)
              simp only [Act.put, List.getElem_toArray, List.getElem_cons_succ, List.getElem_cons_zero, List.setIfInBounds_toArray, List.set_cons_zero, List.set_cons_succ]
              refine wpAnyH_ready (rs := [27]) (by kernel_rfl) (by simp) ?_
              refine AllReadyH.cons (o := _) rfl (fun K hK => ?_) ?_
              ·clear hHeld
               go_simp
               refine (awake19_calls _ HT.out).mono ?_
               rintro e W34 ⟨rfl, hB⟩
               replace HA := Lib.hid (HA.out.below hB)
               replace HA2 := Lib.hid (HA2.out.below hB)
               replace HB := Lib.hid (HB.out.trans (hB.mono HB.out.size))
               replace HI := Lib.hid (HI.out.grow hB)
               replace HI2 := Lib.hid (HI2.out.grow hB)
               replace HT := Lib.hid (fun j hj => keep_below hB _ _ (HT.out j hj))
               replace HTI := Lib.hid (HTI.out.grow hB)
               replace HTJ := Lib.hid (HTJ.out.grow hB)
               replace HR1 := Lib.hid (HR1.out.below hB)
               replace HR2 := Lib.hid (HR2.out.below hB)
               replace HUA := Lib.hid (HUA.out.grow hB)
               replace HUB := Lib.hid (HUB.out.grow hB)
               replace HVX := Lib.hid (HVX.out.grow hB)
               replace HVY := Lib.hid (HVY.out.grow hB)
               replace HU4 := Lib.hid (HU4.out.grow hB)
               replace HU5 := Lib.hid (HU5.out.grow hB)
               clear hB
               refine hK.out _ _ ?_ (fun hHeld => ?_)
               ·exact ⟨HA.out.2.1, HA.out.2.2.1, HA.out.2.2.2.1, HA2.out.2.1, HA2.out.2.2.1, HA2.out.2.2.2.1, HR1.out.2.1, HR2.out.2.1⟩
               clear hK K
               refine wpAnyH_take (i := 28) (v := ?_) rfl (by kernel_rfl) (by kernel_rfl) (by kernel_rfl) (fun _ _ _ h => h) (Or.inl ⟨by rfl, ?_⟩) (by assumption) ?_
               rotate_left
               ·(intro w hSw; (try dsimp only at hSw); go_simp; try with_reducible rfl)
               simp only [Act.put, List.getElem_toArray, List.getElem_cons_succ, List.getElem_cons_zero, List.setIfInBounds_toArray, List.set_cons_zero, List.set_cons_succ]
               refine wpAnyH_take (i := 29) (v := ?_) rfl (by kernel_rfl) (by kernel_rfl) (by kernel_rfl) (fun _ _ _ h => h) (Or.inl ⟨by rfl, ?_⟩) (by assumption) ?_
               rotate_left
               ·(intro w hSw; (try dsimp only at hSw); go_simp; try with_reducible rfl)
               simp only [Act.put, List.getElem_toArray, List.getElem_cons_succ, List.getElem_cons_zero, List.setIfInBounds_toArray, List.set_cons_zero, List.set_cons_succ]
               refine wpAnyH_done (by kernel_rfl) ?_ _
               clear hHeld
               have cHA0 := HA.out.2.1
               have cHA1 := HA.out.2.2.1
               have cHA2 := HA.out.2.2.2.1
               have cHA20 := HA2.out.2.1
               have cHA21 := HA2.out.2.2.1
               have cHA22 := HA2.out.2.2.2.1
               have cHR10 := HR1.out.2.1
               have cHR20 := HR2.out.2.1
               go_wp2_with fail
               go_ret
               exact ⟨rfl, HB.out⟩
              exact AllReadyH.nil
             exact AllReadyH.nil
            exact AllReadyH.nil
           exact AllReadyH.nil
          exact AllReadyH.nil
         exact AllReadyH.nil
        exact AllReadyH.nil
       exact AllReadyH.nil
      exact AllReadyH.nil
     exact AllReadyH.nil
    exact AllReadyH.nil
   exact AllReadyH.nil

theorem hashFirsts_frame (w : World) (u : Value) (p : PA) (n : Nat) (hl : lo n p) (hp : IsP w (fun _ => True) u p) (hc : chO p) (v : Value) (q : PA) (m : Nat) (hl2 : lo m q) (hq : IsP w (fun _ => True) v q) (hc2 : chO q) (hT : TabAt w) :
  Calls Tryz.prog 4 #[u, v] w fun e w' => e = .returned (.bool true) ∧ Below w.heap.size w w' :=
 hashFirsts_walk p q u v n m w hl hp hc hl2 hq hc2 hT
end Go.Proofs.YtbdhibcbpgjbmaaGreatDoor

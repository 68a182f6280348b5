/- Layer 20's law: ReshapeParts. Written by tools/gen_rs1.py. -/
import Derived.Test.YtbfcdpabjailcaaGreatDoorMgRs1
import Derived.Test.YtbfcdpabjailcaaGreatDoorMgVa1
import Derived.Test.YtbfcdpabjailcaaGreatDoorMgOr1
namespace Go.Proofs.YtbfcdpabjailcaaGreatDoor
set_option maxRecDepth 100000
open Go.RowKit Fl
set_option linter.unusedVariables false

set_option maxHeartbeats 16000000 in
theorem reshapeParts_walk (p : PA) (u : Value) (nd : Nat) (w : World) (hl : lo nd p) (hp : IsP w (fun _ => True) u p) (hT : TabAt w) :
    Calls Tryz.prog 3 #[u] w (BoolIs true w) := by
  have HP := Lib.hid hp
  have HLO := Lib.hid hl
  obtain ⟨so, sc, io, ic, rfl, hs, hit⟩ := hp.opened
  obtain ⟨W1, hW1⟩ : ∃ W1, W1 = w.alloc (.cells #[.slice so p.s.length sc, .slice io p.l.length ic, .int .i64 p.f] 25) := ⟨_, rfl⟩
  have HB := Lib.hid (show Below w.heap.size w W1 by rw [hW1]; exact below_new _ _)
  have HA := Lib.hid (show At3 W1 w.heap.size (.slice so p.s.length sc) (.slice io p.l.length ic) (.int .i64 p.f) by rw [hW1]; exact At3.new w _ _ _ _)
  have HI := Lib.hid (show IsP W1 (fun _ => True) _ p from HP.out.grow HB.out)
  have HSH := Lib.hid (show Slc W1 (fun _ => True) (.slice so p.s.length sc) p.s.length (ints p.s) from hs.below HB.out)
  have HT := Lib.hid (show TabAt W1 from fun j hj => keep_below HB.out _ _ (hT j hj))
  obtain ⟨n, hn⟩ : ∃ n, p.l.length = n := ⟨_, rfl⟩
  obtain ⟨f, hf⟩ : ∃ f, p.f = f := ⟨_, rfl⟩
  obtain ⟨m, hm⟩ : ∃ m, p.s.length = m := ⟨_, rfl⟩
  have HN := Lib.hid hn
  have HF := Lib.hid hf
  have HM := Lib.hid hm
  have hfold := hW1.symm
  clear hs hit hp hl hW1 hT
  rw [hn, hf, hm] at HA HI hfold ⊢
  rw [hm] at HSH
  clear hn hf hm HP
  have cHA0 := HA.out.2.1
  have cHA1 := HA.out.2.2.1
  have cHA2 := HA.out.2.2.2.1
  go_enter Tryz.func3, Tryz.ntmps3
  go_wp2_with fail
  clear hfold
  refine (fine20_calls _ p _ nd _ HLO.out HI.out).mono ?_
  rintro e W11 ⟨gg, rfl, hgg, hB⟩
  clear cHA0 cHA1 cHA2
  replace HA := Lib.hid (HA.out.below hB)
  replace HB := Lib.hid (HB.out.trans (hB.mono HB.out.size))
  replace HI := Lib.hid (HI.out.grow hB)
  replace HT := Lib.hid (fun j hj => keep_below hB _ _ (HT.out j hj))
  replace HSH := Lib.hid (HSH.out.below hB)
  have HGG := Lib.hid hgg
  clear hgg
  clear hB
  cases gg
  · go_wp2_with fail
    refine (awake20_calls _ HT.out).mono ?_
    rintro e W12 ⟨rfl, hB⟩
    replace HA := Lib.hid (HA.out.below hB)
    replace HB := Lib.hid (HB.out.trans (hB.mono HB.out.size))
    replace HI := Lib.hid (HI.out.grow hB)
    replace HT := Lib.hid (fun j hj => keep_below hB _ _ (HT.out j hj))
    replace HSH := Lib.hid (HSH.out.below hB)
    clear hB
    have cHA0 := HA.out.2.1
    have cHA1 := HA.out.2.2.1
    have cHA2 := HA.out.2.2.2.1
    go_wp2_with fail
    go_ret
    exact BoolIs.mk rfl HB.out
  
  · have HC := Lib.hid (HGG.out rfl)
    obtain ⟨A, hA⟩ : ∃ A, arrP 40 p = A := ⟨_, rfl⟩
    obtain ⟨TP, hTP⟩ : ∃ TP, tidyP 40 p = TP := ⟨_, rfl⟩
    have HMD := Lib.hid (show Made20 p A TP by rw [← hA, ← hTP]; exact made20 HC.out.1 HC.out.2)
    have HAA := Lib.hid hA
    have HTP := Lib.hid hTP
    have HAM := Lib.hid (show A.1.length = m by rw [HMD.out.s, HM.out])
    have HTS := Lib.hid (show TP.s.length = m by rw [HMD.out.Ts, HM.out])
    have HTL := Lib.hid (show TP.l.length = n by rw [HMD.out.Tl, HN.out])
    have HTF := Lib.hid (show TP.f = f by rw [HMD.out.Tf, HF.out])
    have HM8 := Lib.hid (show m ≤ 8 by rw [← HM.out]; exact HC.out.2)
    clear hA hTP
    have cHA0 := HA.out.2.1
    have cHA1 := HA.out.2.2.1
    have cHA2 := HA.out.2.2.2.1
    go_wp2_with fail
    clear cHA0 cHA1 cHA2
    have HLTW := Lib.hid (show w.heap.size < W11.heap.size from HA.out.1)
    refine wp_mid (fun s0 s1 w' => ∃ (s3 t1 t2 : Option Addr) (c3 k1 k2 : Nat) (ua : Value) (r1 r2 : Nat), s1 = ((((((s0.put (some 11) (.agg #[.slice so m sc, .slice io n ic, .int .i64 f])).put (some 12) (.agg #[.slice s3 m c3, ua])).put (some 13) (.agg #[.slice so m sc, .slice io n ic, .int .i64 f])).put (some 14) (.agg #[.slice t1 m k1, .slice t2 n k2, .int .i64 f])).put (some 3) (.pointer (some ⟨r1, 0, none⟩))).put (some 4) (.pointer (some ⟨r2, 0, none⟩))) ∧ At2 w' r1 (.slice s3 m c3) ua ∧ At3 w' r2 (.slice t1 m k1) (.slice t2 n k2) (.int .i64 f) ∧ IsArr w' (fun _ => True) (.slice s3 m c3) ua A ∧ IsP w' (fun _ => True) (.agg #[.slice t1 m k1, .slice t2 n k2, .int .i64 f]) TP ∧ Its w' (fun _ => True) (.slice t2 n k2) TP.l ∧ Below W11.heap.size W11 w') ?_ ?_
    · have HW0 := Lib.hid (Below.refl W11.heap.size W11)
      have HZ := Lib.hid (Nat.le_refl W11.heap.size)
      replace HI := Lib.hid HI.out.lt
      obtain ⟨W12, hWD⟩ : ∃ xw9, W11.drew = xw9 := ⟨_, rfl⟩
      have hB : Below W11.heap.size W11 W12 := by rw [← hWD]; exact Below.drewN' (Below.refl _ _) 1
      replace HZ := Lib.hid (And.intro HZ.out hB.size)
      replace HA := Lib.hid (HA.out.below hB)
      replace HI := Lib.hid (HI.out.grow hB)
      replace HT := Lib.hid (fun j hj => keep_below hB _ _ (HT.out j hj))
      replace HW0 := Lib.hid (HW0.out.trans (hB.mono HW0.out.size))
      clear hB
      refine wp_region_held_drew (S := fun w' => w'.cell? ⟨w.heap.size, 0, none⟩ = some (.slice so m sc) ∧ w'.cell? ⟨w.heap.size, 1, none⟩ = some (.slice io n ic) ∧ w'.cell? ⟨w.heap.size, 2, none⟩ = some (.int .i64 f)) (by kernel_rfl) (by rw [hWD]; exact ⟨HA.out.2.1, HA.out.2.2.1, HA.out.2.2.2.1⟩) (fun hHeld => ?_)
      rw [hWD] at hHeld ⊢
      clear hWD
      refine wpAnyH_take (i := 0) (v := ?_) rfl (by kernel_rfl) (by kernel_rfl) (by kernel_rfl) (fun _ _ _ h => absurd h.1 (by simp)) (Or.inl ⟨by rfl, ?_⟩) (by assumption) ?_
      rotate_left
      · (intro w hSw; (try dsimp only at hSw); go_simp; try with_reducible rfl)
      simp only [Act.put, List.getElem_toArray, List.getElem_cons_zero, List.setIfInBounds_toArray, List.set_cons_zero, List.set_cons_succ]
      refine wpAnyH_take (i := 2) (v := ?_) rfl (by kernel_rfl) (by kernel_rfl) (by kernel_rfl) (fun _ _ _ h => absurd h.1 (by simp)) (Or.inl ⟨by rfl, ?_⟩) (by assumption) ?_
      rotate_left
      · (intro w hSw; (try dsimp only at hSw); go_simp; try with_reducible rfl)
      simp only [Act.put, List.getElem_toArray, List.getElem_cons_succ, List.getElem_cons_zero, List.setIfInBounds_toArray, List.set_cons_zero, List.set_cons_succ]
      refine wpAnyH_ready (rs := [1, 4, 5]) (by kernel_rfl) (by simp) ?_
      refine AllReadyH.cons (o := _) rfl (fun K hK => ?_) ?_
      · clear hHeld
        go_simp
        refine (lof_calls _ p _ nd _ HLO.out HI.out HT.out HC.out.1).mono ?_
        rintro e W13 ⟨s3, c3, ua, rfl, hOR, hB⟩
        replace HZ := Lib.hid (And.intro HZ.out hB.size)
        replace HA := Lib.hid (HA.out.below hB)
        replace HI := Lib.hid (HI.out.grow hB)
        replace HT := Lib.hid (fun j hj => keep_below hB _ _ (HT.out j hj))
        replace HW0 := Lib.hid (HW0.out.trans (hB.mono HW0.out.size))
        rw [HAA.out, HAM.out] at hOR ⊢
        have HX := Lib.hid (show IsArr W13 (fun b => W12.heap.size ≤ b ∧ b < W13.heap.size) (.slice s3 m c3) ua A from hOR.wide (fun b h1 h2 => ⟨h2, h1⟩))
        have hsua := hOR.2.store
        clear hOR
        clear hB
        refine hK.out _ _ ?_ (fun hHeld => ?_)
        · exact ⟨HA.out.2.1, HA.out.2.2.1, HA.out.2.2.2.1⟩
        clear hK K
        refine wpAnyH_ready (rs := [3, 4, 5]) (by kernel_rfl) (by simp) ?_
        refine AllReadyH.cons (o := _) rfl (fun K hK => ?_) ?_
        · clear hHeld
          go_simp
          refine (ptidy_calls 40 _ p _ _ HC.out.1 HI.out).mono ?_
          rintro e W14 ⟨ut, rfl, hut, hB⟩
          replace HZ := Lib.hid (And.intro HZ.out hB.size)
          replace HA := Lib.hid (HA.out.below hB)
          replace HI := Lib.hid (HI.out.grow hB)
          replace HT := Lib.hid (fun j hj => keep_below hB _ _ (HT.out j hj))
          replace HW0 := Lib.hid (HW0.out.trans (hB.mono HW0.out.size))
          replace HX := Lib.hid (HX.out.grow hB)
          rw [HTP.out] at hut
          obtain ⟨t1, k1, t2, k2, rfl, _, hti⟩ := hut.opened
          rw [HTL.out] at hti
          rw [HTS.out, HTL.out, HTF.out] at hut ⊢
          have HY := Lib.hid hut.lt
          have HYI := Lib.hid hti.lt
          clear hut hti
          clear hB
          refine hK.out _ _ ?_ (fun hHeld => ?_)
          · exact ⟨HA.out.2.1, HA.out.2.2.1, HA.out.2.2.2.1⟩
          clear hK K
          refine wpAnyH_ready (rs := [4, 5]) (by kernel_rfl) (by simp) ?_
          refine AllReadyH.cons (o := _) rfl (fun K hK => ?_) ?_
          · clear hHeld
            go_simp
            obtain ⟨W15, hWn⟩ : ∃ xw9, W14.alloc (.cells #[.slice none 0 0, .nilIface] 31) = xw9 := ⟨_, rfl⟩
            have hB : Below W14.heap.size W14 W15 := by rw [← hWn]; exact below_new _ _
            have hNB : At2 W15 W14.heap.size (.slice none 0 0) (.nilIface) := by rw [← hWn]; exact At2.new _ _ _ _
            rw [hWn]
            clear hWn
            obtain ⟨r1, hnm⟩ : ∃ x, W14.heap.size = x := ⟨_, rfl⟩
            rw [hnm] at hNB ⊢
            replace HZ := Lib.hid (And.intro HZ.out (And.intro hnm hNB.1))
            replace HA := Lib.hid (HA.out.below hB)
            replace HI := Lib.hid (HI.out.grow hB)
            replace HT := Lib.hid (fun j hj => keep_below hB _ _ (HT.out j hj))
            replace HW0 := Lib.hid (HW0.out.trans (hB.mono HW0.out.size))
            replace HX := Lib.hid (HX.out.grow hB)
            replace HY := Lib.hid (HY.out.grow hB)
            replace HYI := Lib.hid (HYI.out.grow hB)
            have HR1 := Lib.hid hNB
            clear hNB hB hnm
            refine hK.out _ _ ?_ (fun hHeld => ?_)
            · exact ⟨HA.out.2.1, HA.out.2.2.1, HA.out.2.2.2.1⟩
            clear hK K
            refine wpAnyH_ready (rs := [5]) (by kernel_rfl) (by simp) ?_
            refine AllReadyH.cons (o := _) rfl (fun K hK => ?_) ?_
            · clear hHeld
              go_simp
              obtain ⟨W16, hWn⟩ : ∃ xw9, W15.alloc (.cells #[.slice none 0 0, .slice none 0 0, .int .i64 0] 25) = xw9 := ⟨_, rfl⟩
              have hB : Below W15.heap.size W15 W16 := by rw [← hWn]; exact below_new _ _
              have hNB : At3 W16 W15.heap.size (.slice none 0 0) (.slice none 0 0) (.int .i64 0) := by rw [← hWn]; exact At3.new _ _ _ _ _
              rw [hWn]
              clear hWn
              obtain ⟨r2, hnm⟩ : ∃ x, W15.heap.size = x := ⟨_, rfl⟩
              rw [hnm] at hNB ⊢
              replace HZ := Lib.hid (And.intro HZ.out (And.intro hnm hNB.1))
              replace HA := Lib.hid (HA.out.below hB)
              replace HI := Lib.hid (HI.out.grow hB)
              replace HT := Lib.hid (fun j hj => keep_below hB _ _ (HT.out j hj))
              replace HW0 := Lib.hid (HW0.out.trans (hB.mono HW0.out.size))
              replace HX := Lib.hid (HX.out.grow hB)
              replace HY := Lib.hid (HY.out.grow hB)
              replace HYI := Lib.hid (HYI.out.grow hB)
              replace HR1 := Lib.hid (HR1.out.below hB)
              have HR2 := Lib.hid hNB
              clear hNB hB hnm
              refine hK.out _ _ ?_ (fun hHeld => ?_)
              · exact ⟨HA.out.2.1, HA.out.2.2.1, HA.out.2.2.2.1⟩
              clear hK K
              refine wpAnyH_ready (rs := [6]) (by kernel_rfl) (by simp) ?_
              refine AllReadyH.cons (o := _) rfl (fun K hK => ?_) ?_
              · clear hHeld
                have s0 := HR1.out.2.1
                have tt0 := HR1.out.2.2.2 0
                have s1 := HR1.out.2.2.1
                have tt1 := HR1.out.2.2.2 1
                go_simp
                clear s0 tt0 s1 tt1
                obtain ⟨W17, hWn⟩ : ∃ xw9, ((W16.setCell ⟨r1, 0, none⟩ (.slice s3 m c3)).setCell ⟨r1, 1, none⟩ (ua)) = xw9 := ⟨_, rfl⟩
                rw [hWn]
                replace HX := Lib.hid (show IsArr W17 _ (.slice s3 m c3) ua A by rw [← hWn]; exact HX.out.keep ((Kept.setCell _ _ _ (fun h => by have := HZ.out; simp only at h; omega)).trans (Kept.setCell _ _ _ (fun h => by have := HZ.out; simp only at h; omega))) (fun _ _ h => h))
                replace HY := Lib.hid (show IsP W17 _ (.agg #[.slice t1 m k1, .slice t2 n k2, .int .i64 f]) TP by rw [← hWn]; exact HY.out.keep ((Kept.setCell _ _ _ (fun h => by have := HZ.out; simp only at h; omega)).trans (Kept.setCell _ _ _ (fun h => by have := HZ.out; simp only at h; omega))) (fun _ _ h => h))
                replace HYI := Lib.hid (show Its W17 _ (.slice t2 n k2) TP.l by rw [← hWn]; exact HYI.out.keep ((Kept.setCell _ _ _ (fun h => by have := HZ.out; simp only at h; omega)).trans (Kept.setCell _ _ _ (fun h => by have := HZ.out; simp only at h; omega))) (fun _ _ h => h))
                replace HW0 := Lib.hid (show Below W11.heap.size W11 W17 by rw [← hWn]; exact ((HW0.out.setCell (p := ⟨r1, 0, none⟩) (by have := HZ.out; simp only; omega) _).setCell (p := ⟨r1, 1, none⟩) (by have := HZ.out; simp only; omega) _))
                replace HR1 := Lib.hid (show At2 W17 r1 (.slice s3 m c3) (ua) by rw [← hWn]; exact At2.put2 HR1.out _ _)
                replace HR2 := Lib.hid (show At3 W17 r2 (.slice none 0 0) (.slice none 0 0) (.int .i64 0) by rw [← hWn]; exact ((HR2.out.grown (grown_setCell _ ⟨r1, 0, none⟩ _) (by have := HZ.out; simp; omega)).grown (grown_setCell _ ⟨r1, 1, none⟩ _) (by have := HZ.out; simp; omega)))
                replace HA := Lib.hid (show At3 W17 w.heap.size (.slice so m sc) (.slice io n ic) (.int .i64 f) by rw [← hWn]; exact ((HA.out.grown (grown_setCell _ ⟨r1, 0, none⟩ _) (by have := HZ.out; have := HLTW.out; simp; omega)).grown (grown_setCell _ ⟨r1, 1, none⟩ _) (by have := HZ.out; have := HLTW.out; simp; omega)))
                clear hWn
                refine hK.out _ _ ?_ (fun hHeld => ?_)
                · exact ⟨HA.out.2.1, HA.out.2.2.1, HA.out.2.2.2.1⟩
                clear hK K
                refine wpAnyH_ready (rs := [7]) (by kernel_rfl) (by simp) ?_
                refine AllReadyH.cons (o := _) rfl (fun K hK => ?_) ?_
                · clear hHeld
                  have s0 := HR2.out.2.1
                  have tt0 := HR2.out.2.2.2.2 0
                  have s1 := HR2.out.2.2.1
                  have tt1 := HR2.out.2.2.2.2 1
                  have s2 := HR2.out.2.2.2.1
                  have tt2 := HR2.out.2.2.2.2 2
                  go_simp
                  clear s0 tt0 s1 tt1 s2 tt2
                  obtain ⟨W18, hWn⟩ : ∃ xw9, (((W17.setCell ⟨r2, 0, none⟩ (.slice t1 m k1)).setCell ⟨r2, 1, none⟩ (.slice t2 n k2)).setCell ⟨r2, 2, none⟩ (.int .i64 f)) = xw9 := ⟨_, rfl⟩
                  rw [hWn]
                  replace HX := Lib.hid (show IsArr W18 _ (.slice s3 m c3) ua A by rw [← hWn]; exact HX.out.keep (((Kept.setCell _ _ _ (fun h => by have := HZ.out; simp only at h; omega)).trans (Kept.setCell _ _ _ (fun h => by have := HZ.out; simp only at h; omega))).trans (Kept.setCell _ _ _ (fun h => by have := HZ.out; simp only at h; omega))) (fun _ _ h => h))
                  replace HY := Lib.hid (show IsP W18 _ (.agg #[.slice t1 m k1, .slice t2 n k2, .int .i64 f]) TP by rw [← hWn]; exact HY.out.keep (((Kept.setCell _ _ _ (fun h => by have := HZ.out; simp only at h; omega)).trans (Kept.setCell _ _ _ (fun h => by have := HZ.out; simp only at h; omega))).trans (Kept.setCell _ _ _ (fun h => by have := HZ.out; simp only at h; omega))) (fun _ _ h => h))
                  replace HYI := Lib.hid (show Its W18 _ (.slice t2 n k2) TP.l by rw [← hWn]; exact HYI.out.keep (((Kept.setCell _ _ _ (fun h => by have := HZ.out; simp only at h; omega)).trans (Kept.setCell _ _ _ (fun h => by have := HZ.out; simp only at h; omega))).trans (Kept.setCell _ _ _ (fun h => by have := HZ.out; simp only at h; omega))) (fun _ _ h => h))
                  replace HW0 := Lib.hid (show Below W11.heap.size W11 W18 by rw [← hWn]; exact (((HW0.out.setCell (p := ⟨r2, 0, none⟩) (by have := HZ.out; simp only; omega) _).setCell (p := ⟨r2, 1, none⟩) (by have := HZ.out; simp only; omega) _).setCell (p := ⟨r2, 2, none⟩) (by have := HZ.out; simp only; omega) _))
                  replace HR2 := Lib.hid (show At3 W18 r2 (.slice t1 m k1) (.slice t2 n k2) (.int .i64 f) by rw [← hWn]; exact At3.put3 HR2.out _ _ _)
                  replace HR1 := Lib.hid (show At2 W18 r1 (.slice s3 m c3) (ua) by rw [← hWn]; exact (((HR1.out.grown (grown_setCell _ ⟨r2, 0, none⟩ _) (by have := HZ.out; simp; omega)).grown (grown_setCell _ ⟨r2, 1, none⟩ _) (by have := HZ.out; simp; omega)).grown (grown_setCell _ ⟨r2, 2, none⟩ _) (by have := HZ.out; simp; omega)))
                  replace HA := Lib.hid (show At3 W18 w.heap.size (.slice so m sc) (.slice io n ic) (.int .i64 f) by rw [← hWn]; exact (((HA.out.grown (grown_setCell _ ⟨r2, 0, none⟩ _) (by have := HZ.out; have := HLTW.out; simp; omega)).grown (grown_setCell _ ⟨r2, 1, none⟩ _) (by have := HZ.out; have := HLTW.out; simp; omega)).grown (grown_setCell _ ⟨r2, 2, none⟩ _) (by have := HZ.out; have := HLTW.out; simp; omega)))
                  clear hWn
                  refine hK.out _ _ ?_ (fun hHeld => ?_)
                  · exact ⟨HA.out.2.1, HA.out.2.2.1, HA.out.2.2.2.1⟩
                  clear hK K
                  refine wpAnyH_done (by kernel_rfl) ?_ _
                  clear hHeld
                  exact ⟨rfl, s3, t1, t2, c3, k1, k2, ua, r1, r2, rfl, HR1.out, HR2.out, HX.out.wide (fun _ _ _ => trivial), HY.out.wide (fun _ _ _ => trivial), HYI.out.wide (fun _ _ _ => trivial), HW0.out⟩
                exact AllReadyH.nil
              exact AllReadyH.nil
            exact AllReadyH.nil
          refine AllReadyH.cons (o := _) rfl (fun K hK => ?_) ?_
          · clear hHeld
            go_simp
            obtain ⟨W15, hWn⟩ : ∃ xw9, W14.alloc (.cells #[.slice none 0 0, .slice none 0 0, .int .i64 0] 25) = xw9 := ⟨_, rfl⟩
            have hB : Below W14.heap.size W14 W15 := by rw [← hWn]; exact below_new _ _
            have hNB : At3 W15 W14.heap.size (.slice none 0 0) (.slice none 0 0) (.int .i64 0) := by rw [← hWn]; exact At3.new _ _ _ _ _
            rw [hWn]
            clear hWn
            obtain ⟨r2, hnm⟩ : ∃ x, W14.heap.size = x := ⟨_, rfl⟩
            rw [hnm] at hNB ⊢
            replace HZ := Lib.hid (And.intro HZ.out (And.intro hnm hNB.1))
            replace HA := Lib.hid (HA.out.below hB)
            replace HI := Lib.hid (HI.out.grow hB)
            replace HT := Lib.hid (fun j hj => keep_below hB _ _ (HT.out j hj))
            replace HW0 := Lib.hid (HW0.out.trans (hB.mono HW0.out.size))
            replace HX := Lib.hid (HX.out.grow hB)
            replace HY := Lib.hid (HY.out.grow hB)
            replace HYI := Lib.hid (HYI.out.grow hB)
            have HR2 := Lib.hid hNB
            clear hNB hB hnm
            refine hK.out _ _ ?_ (fun hHeld => ?_)
            · exact ⟨HA.out.2.1, HA.out.2.2.1, HA.out.2.2.2.1⟩
            clear hK K
            refine wpAnyH_ready (rs := [4]) (by kernel_rfl) (by simp) ?_
            refine AllReadyH.cons (o := _) rfl (fun K hK => ?_) ?_
            · clear hHeld
              go_simp
              obtain ⟨W16, hWn⟩ : ∃ xw9, W15.alloc (.cells #[.slice none 0 0, .nilIface] 31) = xw9 := ⟨_, rfl⟩
              have hB : Below W15.heap.size W15 W16 := by rw [← hWn]; exact below_new _ _
              have hNB : At2 W16 W15.heap.size (.slice none 0 0) (.nilIface) := by rw [← hWn]; exact At2.new _ _ _ _
              rw [hWn]
              clear hWn
              obtain ⟨r1, hnm⟩ : ∃ x, W15.heap.size = x := ⟨_, rfl⟩
              rw [hnm] at hNB ⊢
              replace HZ := Lib.hid (And.intro HZ.out (And.intro hnm hNB.1))
              replace HA := Lib.hid (HA.out.below hB)
              replace HI := Lib.hid (HI.out.grow hB)
              replace HT := Lib.hid (fun j hj => keep_below hB _ _ (HT.out j hj))
              replace HW0 := Lib.hid (HW0.out.trans (hB.mono HW0.out.size))
              replace HX := Lib.hid (HX.out.grow hB)
              replace HY := Lib.hid (HY.out.grow hB)
              replace HYI := Lib.hid (HYI.out.grow hB)
              replace HR2 := Lib.hid (HR2.out.below hB)
              have HR1 := Lib.hid hNB
              clear hNB hB hnm
              refine hK.out _ _ ?_ (fun hHeld => ?_)
              · exact ⟨HA.out.2.1, HA.out.2.2.1, HA.out.2.2.2.1⟩
              clear hK K
              refine wpAnyH_ready (rs := [6]) (by kernel_rfl) (by simp) ?_
              refine AllReadyH.cons (o := _) rfl (fun K hK => ?_) ?_
              · clear hHeld
                have s0 := HR1.out.2.1
                have tt0 := HR1.out.2.2.2 0
                have s1 := HR1.out.2.2.1
                have tt1 := HR1.out.2.2.2 1
                go_simp
                clear s0 tt0 s1 tt1
                obtain ⟨W17, hWn⟩ : ∃ xw9, ((W16.setCell ⟨r1, 0, none⟩ (.slice s3 m c3)).setCell ⟨r1, 1, none⟩ (ua)) = xw9 := ⟨_, rfl⟩
                rw [hWn]
                replace HX := Lib.hid (show IsArr W17 _ (.slice s3 m c3) ua A by rw [← hWn]; exact HX.out.keep ((Kept.setCell _ _ _ (fun h => by have := HZ.out; simp only at h; omega)).trans (Kept.setCell _ _ _ (fun h => by have := HZ.out; simp only at h; omega))) (fun _ _ h => h))
                replace HY := Lib.hid (show IsP W17 _ (.agg #[.slice t1 m k1, .slice t2 n k2, .int .i64 f]) TP by rw [← hWn]; exact HY.out.keep ((Kept.setCell _ _ _ (fun h => by have := HZ.out; simp only at h; omega)).trans (Kept.setCell _ _ _ (fun h => by have := HZ.out; simp only at h; omega))) (fun _ _ h => h))
                replace HYI := Lib.hid (show Its W17 _ (.slice t2 n k2) TP.l by rw [← hWn]; exact HYI.out.keep ((Kept.setCell _ _ _ (fun h => by have := HZ.out; simp only at h; omega)).trans (Kept.setCell _ _ _ (fun h => by have := HZ.out; simp only at h; omega))) (fun _ _ h => h))
                replace HW0 := Lib.hid (show Below W11.heap.size W11 W17 by rw [← hWn]; exact ((HW0.out.setCell (p := ⟨r1, 0, none⟩) (by have := HZ.out; simp only; omega) _).setCell (p := ⟨r1, 1, none⟩) (by have := HZ.out; simp only; omega) _))
                replace HR1 := Lib.hid (show At2 W17 r1 (.slice s3 m c3) (ua) by rw [← hWn]; exact At2.put2 HR1.out _ _)
                replace HR2 := Lib.hid (show At3 W17 r2 (.slice none 0 0) (.slice none 0 0) (.int .i64 0) by rw [← hWn]; exact ((HR2.out.grown (grown_setCell _ ⟨r1, 0, none⟩ _) (by have := HZ.out; simp; omega)).grown (grown_setCell _ ⟨r1, 1, none⟩ _) (by have := HZ.out; simp; omega)))
                replace HA := Lib.hid (show At3 W17 w.heap.size (.slice so m sc) (.slice io n ic) (.int .i64 f) by rw [← hWn]; exact ((HA.out.grown (grown_setCell _ ⟨r1, 0, none⟩ _) (by have := HZ.out; have := HLTW.out; simp; omega)).grown (grown_setCell _ ⟨r1, 1, none⟩ _) (by have := HZ.out; have := HLTW.out; simp; omega)))
                clear hWn
                refine hK.out _ _ ?_ (fun hHeld => ?_)
                · exact ⟨HA.out.2.1, HA.out.2.2.1, HA.out.2.2.2.1⟩
                clear hK K
                refine wpAnyH_ready (rs := [7]) (by kernel_rfl) (by simp) ?_
                refine AllReadyH.cons (o := _) rfl (fun K hK => ?_) ?_
                · clear hHeld
                  have s0 := HR2.out.2.1
                  have tt0 := HR2.out.2.2.2.2 0
                  have s1 := HR2.out.2.2.1
                  have tt1 := HR2.out.2.2.2.2 1
                  have s2 := HR2.out.2.2.2.1
                  have tt2 := HR2.out.2.2.2.2 2
                  go_simp
                  clear s0 tt0 s1 tt1 s2 tt2
                  obtain ⟨W18, hWn⟩ : ∃ xw9, (((W17.setCell ⟨r2, 0, none⟩ (.slice t1 m k1)).setCell ⟨r2, 1, none⟩ (.slice t2 n k2)).setCell ⟨r2, 2, none⟩ (.int .i64 f)) = xw9 := ⟨_, rfl⟩
                  rw [hWn]
                  replace HX := Lib.hid (show IsArr W18 _ (.slice s3 m c3) ua A by rw [← hWn]; exact HX.out.keep (((Kept.setCell _ _ _ (fun h => by have := HZ.out; simp only at h; omega)).trans (Kept.setCell _ _ _ (fun h => by have := HZ.out; simp only at h; omega))).trans (Kept.setCell _ _ _ (fun h => by have := HZ.out; simp only at h; omega))) (fun _ _ h => h))
                  replace HY := Lib.hid (show IsP W18 _ (.agg #[.slice t1 m k1, .slice t2 n k2, .int .i64 f]) TP by rw [← hWn]; exact HY.out.keep (((Kept.setCell _ _ _ (fun h => by have := HZ.out; simp only at h; omega)).trans (Kept.setCell _ _ _ (fun h => by have := HZ.out; simp only at h; omega))).trans (Kept.setCell _ _ _ (fun h => by have := HZ.out; simp only at h; omega))) (fun _ _ h => h))
                  replace HYI := Lib.hid (show Its W18 _ (.slice t2 n k2) TP.l by rw [← hWn]; exact HYI.out.keep (((Kept.setCell _ _ _ (fun h => by have := HZ.out; simp only at h; omega)).trans (Kept.setCell _ _ _ (fun h => by have := HZ.out; simp only at h; omega))).trans (Kept.setCell _ _ _ (fun h => by have := HZ.out; simp only at h; omega))) (fun _ _ h => h))
                  replace HW0 := Lib.hid (show Below W11.heap.size W11 W18 by rw [← hWn]; exact (((HW0.out.setCell (p := ⟨r2, 0, none⟩) (by have := HZ.out; simp only; omega) _).setCell (p := ⟨r2, 1, none⟩) (by have := HZ.out; simp only; omega) _).setCell (p := ⟨r2, 2, none⟩) (by have := HZ.out; simp only; omega) _))
                  replace HR2 := Lib.hid (show At3 W18 r2 (.slice t1 m k1) (.slice t2 n k2) (.int .i64 f) by rw [← hWn]; exact At3.put3 HR2.out _ _ _)
                  replace HR1 := Lib.hid (show At2 W18 r1 (.slice s3 m c3) (ua) by rw [← hWn]; exact (((HR1.out.grown (grown_setCell _ ⟨r2, 0, none⟩ _) (by have := HZ.out; simp; omega)).grown (grown_setCell _ ⟨r2, 1, none⟩ _) (by have := HZ.out; simp; omega)).grown (grown_setCell _ ⟨r2, 2, none⟩ _) (by have := HZ.out; simp; omega)))
                  replace HA := Lib.hid (show At3 W18 w.heap.size (.slice so m sc) (.slice io n ic) (.int .i64 f) by rw [← hWn]; exact (((HA.out.grown (grown_setCell _ ⟨r2, 0, none⟩ _) (by have := HZ.out; have := HLTW.out; simp; omega)).grown (grown_setCell _ ⟨r2, 1, none⟩ _) (by have := HZ.out; have := HLTW.out; simp; omega)).grown (grown_setCell _ ⟨r2, 2, none⟩ _) (by have := HZ.out; have := HLTW.out; simp; omega)))
                  clear hWn
                  refine hK.out _ _ ?_ (fun hHeld => ?_)
                  · exact ⟨HA.out.2.1, HA.out.2.2.1, HA.out.2.2.2.1⟩
                  clear hK K
                  refine wpAnyH_done (by kernel_rfl) ?_ _
                  clear hHeld
                  exact ⟨rfl, s3, t1, t2, c3, k1, k2, ua, r1, r2, rfl, HR1.out, HR2.out, HX.out.wide (fun _ _ _ => trivial), HY.out.wide (fun _ _ _ => trivial), HYI.out.wide (fun _ _ _ => trivial), HW0.out⟩
                exact AllReadyH.nil
              exact AllReadyH.nil
            exact AllReadyH.nil
          exact AllReadyH.nil
        refine AllReadyH.cons (o := _) rfl (fun K hK => ?_) ?_
        · clear hHeld
          go_simp
          obtain ⟨W14, hWn⟩ : ∃ xw9, W13.alloc (.cells #[.slice none 0 0, .nilIface] 31) = xw9 := ⟨_, rfl⟩
          have hB : Below W13.heap.size W13 W14 := by rw [← hWn]; exact below_new _ _
          have hNB : At2 W14 W13.heap.size (.slice none 0 0) (.nilIface) := by rw [← hWn]; exact At2.new _ _ _ _
          rw [hWn]
          clear hWn
          obtain ⟨r1, hnm⟩ : ∃ x, W13.heap.size = x := ⟨_, rfl⟩
          rw [hnm] at hNB ⊢
          replace HZ := Lib.hid (And.intro HZ.out (And.intro hnm hNB.1))
          replace HA := Lib.hid (HA.out.below hB)
          replace HI := Lib.hid (HI.out.grow hB)
          replace HT := Lib.hid (fun j hj => keep_below hB _ _ (HT.out j hj))
          replace HW0 := Lib.hid (HW0.out.trans (hB.mono HW0.out.size))
          replace HX := Lib.hid (HX.out.grow hB)
          have HR1 := Lib.hid hNB
          clear hNB hB hnm
          refine hK.out _ _ ?_ (fun hHeld => ?_)
          · exact ⟨HA.out.2.1, HA.out.2.2.1, HA.out.2.2.2.1⟩
          clear hK K
          refine wpAnyH_ready (rs := [3, 5]) (by kernel_rfl) (by simp) ?_
          refine AllReadyH.cons (o := _) rfl (fun K hK => ?_) ?_
          · clear hHeld
            go_simp
            refine (ptidy_calls 40 _ p _ _ HC.out.1 HI.out).mono ?_
            rintro e W15 ⟨ut, rfl, hut, hB⟩
            replace HZ := Lib.hid (And.intro HZ.out hB.size)
            replace HA := Lib.hid (HA.out.below hB)
            replace HI := Lib.hid (HI.out.grow hB)
            replace HT := Lib.hid (fun j hj => keep_below hB _ _ (HT.out j hj))
            replace HW0 := Lib.hid (HW0.out.trans (hB.mono HW0.out.size))
            replace HX := Lib.hid (HX.out.grow hB)
            replace HR1 := Lib.hid (HR1.out.below hB)
            rw [HTP.out] at hut
            obtain ⟨t1, k1, t2, k2, rfl, _, hti⟩ := hut.opened
            rw [HTL.out] at hti
            rw [HTS.out, HTL.out, HTF.out] at hut ⊢
            have HY := Lib.hid hut.lt
            have HYI := Lib.hid hti.lt
            clear hut hti
            clear hB
            refine hK.out _ _ ?_ (fun hHeld => ?_)
            · exact ⟨HA.out.2.1, HA.out.2.2.1, HA.out.2.2.2.1⟩
            clear hK K
            refine wpAnyH_ready (rs := [5]) (by kernel_rfl) (by simp) ?_
            refine AllReadyH.cons (o := _) rfl (fun K hK => ?_) ?_
            · clear hHeld
              go_simp
              obtain ⟨W16, hWn⟩ : ∃ xw9, W15.alloc (.cells #[.slice none 0 0, .slice none 0 0, .int .i64 0] 25) = xw9 := ⟨_, rfl⟩
              have hB : Below W15.heap.size W15 W16 := by rw [← hWn]; exact below_new _ _
              have hNB : At3 W16 W15.heap.size (.slice none 0 0) (.slice none 0 0) (.int .i64 0) := by rw [← hWn]; exact At3.new _ _ _ _ _
              rw [hWn]
              clear hWn
              obtain ⟨r2, hnm⟩ : ∃ x, W15.heap.size = x := ⟨_, rfl⟩
              rw [hnm] at hNB ⊢
              replace HZ := Lib.hid (And.intro HZ.out (And.intro hnm hNB.1))
              replace HA := Lib.hid (HA.out.below hB)
              replace HI := Lib.hid (HI.out.grow hB)
              replace HT := Lib.hid (fun j hj => keep_below hB _ _ (HT.out j hj))
              replace HW0 := Lib.hid (HW0.out.trans (hB.mono HW0.out.size))
              replace HX := Lib.hid (HX.out.grow hB)
              replace HR1 := Lib.hid (HR1.out.below hB)
              replace HY := Lib.hid (HY.out.grow hB)
              replace HYI := Lib.hid (HYI.out.grow hB)
              have HR2 := Lib.hid hNB
              clear hNB hB hnm
              refine hK.out _ _ ?_ (fun hHeld => ?_)
              · exact ⟨HA.out.2.1, HA.out.2.2.1, HA.out.2.2.2.1⟩
              clear hK K
              refine wpAnyH_ready (rs := [6]) (by kernel_rfl) (by simp) ?_
              refine AllReadyH.cons (o := _) rfl (fun K hK => ?_) ?_
              · clear hHeld
                have s0 := HR1.out.2.1
                have tt0 := HR1.out.2.2.2 0
                have s1 := HR1.out.2.2.1
                have tt1 := HR1.out.2.2.2 1
                go_simp
                clear s0 tt0 s1 tt1
                obtain ⟨W17, hWn⟩ : ∃ xw9, ((W16.setCell ⟨r1, 0, none⟩ (.slice s3 m c3)).setCell ⟨r1, 1, none⟩ (ua)) = xw9 := ⟨_, rfl⟩
                rw [hWn]
                replace HX := Lib.hid (show IsArr W17 _ (.slice s3 m c3) ua A by rw [← hWn]; exact HX.out.keep ((Kept.setCell _ _ _ (fun h => by have := HZ.out; simp only at h; omega)).trans (Kept.setCell _ _ _ (fun h => by have := HZ.out; simp only at h; omega))) (fun _ _ h => h))
                replace HY := Lib.hid (show IsP W17 _ (.agg #[.slice t1 m k1, .slice t2 n k2, .int .i64 f]) TP by rw [← hWn]; exact HY.out.keep ((Kept.setCell _ _ _ (fun h => by have := HZ.out; simp only at h; omega)).trans (Kept.setCell _ _ _ (fun h => by have := HZ.out; simp only at h; omega))) (fun _ _ h => h))
                replace HYI := Lib.hid (show Its W17 _ (.slice t2 n k2) TP.l by rw [← hWn]; exact HYI.out.keep ((Kept.setCell _ _ _ (fun h => by have := HZ.out; simp only at h; omega)).trans (Kept.setCell _ _ _ (fun h => by have := HZ.out; simp only at h; omega))) (fun _ _ h => h))
                replace HW0 := Lib.hid (show Below W11.heap.size W11 W17 by rw [← hWn]; exact ((HW0.out.setCell (p := ⟨r1, 0, none⟩) (by have := HZ.out; simp only; omega) _).setCell (p := ⟨r1, 1, none⟩) (by have := HZ.out; simp only; omega) _))
                replace HR1 := Lib.hid (show At2 W17 r1 (.slice s3 m c3) (ua) by rw [← hWn]; exact At2.put2 HR1.out _ _)
                replace HR2 := Lib.hid (show At3 W17 r2 (.slice none 0 0) (.slice none 0 0) (.int .i64 0) by rw [← hWn]; exact ((HR2.out.grown (grown_setCell _ ⟨r1, 0, none⟩ _) (by have := HZ.out; simp; omega)).grown (grown_setCell _ ⟨r1, 1, none⟩ _) (by have := HZ.out; simp; omega)))
                replace HA := Lib.hid (show At3 W17 w.heap.size (.slice so m sc) (.slice io n ic) (.int .i64 f) by rw [← hWn]; exact ((HA.out.grown (grown_setCell _ ⟨r1, 0, none⟩ _) (by have := HZ.out; have := HLTW.out; simp; omega)).grown (grown_setCell _ ⟨r1, 1, none⟩ _) (by have := HZ.out; have := HLTW.out; simp; omega)))
                clear hWn
                refine hK.out _ _ ?_ (fun hHeld => ?_)
                · exact ⟨HA.out.2.1, HA.out.2.2.1, HA.out.2.2.2.1⟩
                clear hK K
                refine wpAnyH_ready (rs := [7]) (by kernel_rfl) (by simp) ?_
                refine AllReadyH.cons (o := _) rfl (fun K hK => ?_) ?_
                · clear hHeld
                  have s0 := HR2.out.2.1
                  have tt0 := HR2.out.2.2.2.2 0
                  have s1 := HR2.out.2.2.1
                  have tt1 := HR2.out.2.2.2.2 1
                  have s2 := HR2.out.2.2.2.1
                  have tt2 := HR2.out.2.2.2.2 2
                  go_simp
                  clear s0 tt0 s1 tt1 s2 tt2
                  obtain ⟨W18, hWn⟩ : ∃ xw9, (((W17.setCell ⟨r2, 0, none⟩ (.slice t1 m k1)).setCell ⟨r2, 1, none⟩ (.slice t2 n k2)).setCell ⟨r2, 2, none⟩ (.int .i64 f)) = xw9 := ⟨_, rfl⟩
                  rw [hWn]
                  replace HX := Lib.hid (show IsArr W18 _ (.slice s3 m c3) ua A by rw [← hWn]; exact HX.out.keep (((Kept.setCell _ _ _ (fun h => by have := HZ.out; simp only at h; omega)).trans (Kept.setCell _ _ _ (fun h => by have := HZ.out; simp only at h; omega))).trans (Kept.setCell _ _ _ (fun h => by have := HZ.out; simp only at h; omega))) (fun _ _ h => h))
                  replace HY := Lib.hid (show IsP W18 _ (.agg #[.slice t1 m k1, .slice t2 n k2, .int .i64 f]) TP by rw [← hWn]; exact HY.out.keep (((Kept.setCell _ _ _ (fun h => by have := HZ.out; simp only at h; omega)).trans (Kept.setCell _ _ _ (fun h => by have := HZ.out; simp only at h; omega))).trans (Kept.setCell _ _ _ (fun h => by have := HZ.out; simp only at h; omega))) (fun _ _ h => h))
                  replace HYI := Lib.hid (show Its W18 _ (.slice t2 n k2) TP.l by rw [← hWn]; exact HYI.out.keep (((Kept.setCell _ _ _ (fun h => by have := HZ.out; simp only at h; omega)).trans (Kept.setCell _ _ _ (fun h => by have := HZ.out; simp only at h; omega))).trans (Kept.setCell _ _ _ (fun h => by have := HZ.out; simp only at h; omega))) (fun _ _ h => h))
                  replace HW0 := Lib.hid (show Below W11.heap.size W11 W18 by rw [← hWn]; exact (((HW0.out.setCell (p := ⟨r2, 0, none⟩) (by have := HZ.out; simp only; omega) _).setCell (p := ⟨r2, 1, none⟩) (by have := HZ.out; simp only; omega) _).setCell (p := ⟨r2, 2, none⟩) (by have := HZ.out; simp only; omega) _))
                  replace HR2 := Lib.hid (show At3 W18 r2 (.slice t1 m k1) (.slice t2 n k2) (.int .i64 f) by rw [← hWn]; exact At3.put3 HR2.out _ _ _)
                  replace HR1 := Lib.hid (show At2 W18 r1 (.slice s3 m c3) (ua) by rw [← hWn]; exact (((HR1.out.grown (grown_setCell _ ⟨r2, 0, none⟩ _) (by have := HZ.out; simp; omega)).grown (grown_setCell _ ⟨r2, 1, none⟩ _) (by have := HZ.out; simp; omega)).grown (grown_setCell _ ⟨r2, 2, none⟩ _) (by have := HZ.out; simp; omega)))
                  replace HA := Lib.hid (show At3 W18 w.heap.size (.slice so m sc) (.slice io n ic) (.int .i64 f) by rw [← hWn]; exact (((HA.out.grown (grown_setCell _ ⟨r2, 0, none⟩ _) (by have := HZ.out; have := HLTW.out; simp; omega)).grown (grown_setCell _ ⟨r2, 1, none⟩ _) (by have := HZ.out; have := HLTW.out; simp; omega)).grown (grown_setCell _ ⟨r2, 2, none⟩ _) (by have := HZ.out; have := HLTW.out; simp; omega)))
                  clear hWn
                  refine hK.out _ _ ?_ (fun hHeld => ?_)
                  · exact ⟨HA.out.2.1, HA.out.2.2.1, HA.out.2.2.2.1⟩
                  clear hK K
                  refine wpAnyH_done (by kernel_rfl) ?_ _
                  clear hHeld
                  exact ⟨rfl, s3, t1, t2, c3, k1, k2, ua, r1, r2, rfl, HR1.out, HR2.out, HX.out.wide (fun _ _ _ => trivial), HY.out.wide (fun _ _ _ => trivial), HYI.out.wide (fun _ _ _ => trivial), HW0.out⟩
                exact AllReadyH.nil
              exact AllReadyH.nil
            exact AllReadyH.nil
          refine AllReadyH.cons (o := _) rfl (fun K hK => ?_) ?_
          · clear hHeld
            go_simp
            obtain ⟨W15, hWn⟩ : ∃ xw9, W14.alloc (.cells #[.slice none 0 0, .slice none 0 0, .int .i64 0] 25) = xw9 := ⟨_, rfl⟩
            have hB : Below W14.heap.size W14 W15 := by rw [← hWn]; exact below_new _ _
            have hNB : At3 W15 W14.heap.size (.slice none 0 0) (.slice none 0 0) (.int .i64 0) := by rw [← hWn]; exact At3.new _ _ _ _ _
            rw [hWn]
            clear hWn
            obtain ⟨r2, hnm⟩ : ∃ x, W14.heap.size = x := ⟨_, rfl⟩
            rw [hnm] at hNB ⊢
            replace HZ := Lib.hid (And.intro HZ.out (And.intro hnm hNB.1))
            replace HA := Lib.hid (HA.out.below hB)
            replace HI := Lib.hid (HI.out.grow hB)
            replace HT := Lib.hid (fun j hj => keep_below hB _ _ (HT.out j hj))
            replace HW0 := Lib.hid (HW0.out.trans (hB.mono HW0.out.size))
            replace HX := Lib.hid (HX.out.grow hB)
            replace HR1 := Lib.hid (HR1.out.below hB)
            have HR2 := Lib.hid hNB
            clear hNB hB hnm
            refine hK.out _ _ ?_ (fun hHeld => ?_)
            · exact ⟨HA.out.2.1, HA.out.2.2.1, HA.out.2.2.2.1⟩
            clear hK K
            refine wpAnyH_ready (rs := [3]) (by kernel_rfl) (by simp) ?_
            refine AllReadyH.cons (o := _) rfl (fun K hK => ?_) ?_
            · clear hHeld
              go_simp
              refine (ptidy_calls 40 _ p _ _ HC.out.1 HI.out).mono ?_
              rintro e W16 ⟨ut, rfl, hut, hB⟩
              replace HZ := Lib.hid (And.intro HZ.out hB.size)
              replace HA := Lib.hid (HA.out.below hB)
              replace HI := Lib.hid (HI.out.grow hB)
              replace HT := Lib.hid (fun j hj => keep_below hB _ _ (HT.out j hj))
              replace HW0 := Lib.hid (HW0.out.trans (hB.mono HW0.out.size))
              replace HX := Lib.hid (HX.out.grow hB)
              replace HR1 := Lib.hid (HR1.out.below hB)
              replace HR2 := Lib.hid (HR2.out.below hB)
              rw [HTP.out] at hut
              obtain ⟨t1, k1, t2, k2, rfl, _, hti⟩ := hut.opened
              rw [HTL.out] at hti
              rw [HTS.out, HTL.out, HTF.out] at hut ⊢
              have HY := Lib.hid hut.lt
              have HYI := Lib.hid hti.lt
              clear hut hti
              clear hB
              refine hK.out _ _ ?_ (fun hHeld => ?_)
              · exact ⟨HA.out.2.1, HA.out.2.2.1, HA.out.2.2.2.1⟩
              clear hK K
              refine wpAnyH_ready (rs := [6]) (by kernel_rfl) (by simp) ?_
              refine AllReadyH.cons (o := _) rfl (fun K hK => ?_) ?_
              · clear hHeld
                have s0 := HR1.out.2.1
                have tt0 := HR1.out.2.2.2 0
                have s1 := HR1.out.2.2.1
                have tt1 := HR1.out.2.2.2 1
                go_simp
                clear s0 tt0 s1 tt1
                obtain ⟨W17, hWn⟩ : ∃ xw9, ((W16.setCell ⟨r1, 0, none⟩ (.slice s3 m c3)).setCell ⟨r1, 1, none⟩ (ua)) = xw9 := ⟨_, rfl⟩
                rw [hWn]
                replace HX := Lib.hid (show IsArr W17 _ (.slice s3 m c3) ua A by rw [← hWn]; exact HX.out.keep ((Kept.setCell _ _ _ (fun h => by have := HZ.out; simp only at h; omega)).trans (Kept.setCell _ _ _ (fun h => by have := HZ.out; simp only at h; omega))) (fun _ _ h => h))
                replace HY := Lib.hid (show IsP W17 _ (.agg #[.slice t1 m k1, .slice t2 n k2, .int .i64 f]) TP by rw [← hWn]; exact HY.out.keep ((Kept.setCell _ _ _ (fun h => by have := HZ.out; simp only at h; omega)).trans (Kept.setCell _ _ _ (fun h => by have := HZ.out; simp only at h; omega))) (fun _ _ h => h))
                replace HYI := Lib.hid (show Its W17 _ (.slice t2 n k2) TP.l by rw [← hWn]; exact HYI.out.keep ((Kept.setCell _ _ _ (fun h => by have := HZ.out; simp only at h; omega)).trans (Kept.setCell _ _ _ (fun h => by have := HZ.out; simp only at h; omega))) (fun _ _ h => h))
                replace HW0 := Lib.hid (show Below W11.heap.size W11 W17 by rw [← hWn]; exact ((HW0.out.setCell (p := ⟨r1, 0, none⟩) (by have := HZ.out; simp only; omega) _).setCell (p := ⟨r1, 1, none⟩) (by have := HZ.out; simp only; omega) _))
                replace HR1 := Lib.hid (show At2 W17 r1 (.slice s3 m c3) (ua) by rw [← hWn]; exact At2.put2 HR1.out _ _)
                replace HR2 := Lib.hid (show At3 W17 r2 (.slice none 0 0) (.slice none 0 0) (.int .i64 0) by rw [← hWn]; exact ((HR2.out.grown (grown_setCell _ ⟨r1, 0, none⟩ _) (by have := HZ.out; simp; omega)).grown (grown_setCell _ ⟨r1, 1, none⟩ _) (by have := HZ.out; simp; omega)))
                replace HA := Lib.hid (show At3 W17 w.heap.size (.slice so m sc) (.slice io n ic) (.int .i64 f) by rw [← hWn]; exact ((HA.out.grown (grown_setCell _ ⟨r1, 0, none⟩ _) (by have := HZ.out; have := HLTW.out; simp; omega)).grown (grown_setCell _ ⟨r1, 1, none⟩ _) (by have := HZ.out; have := HLTW.out; simp; omega)))
                clear hWn
                refine hK.out _ _ ?_ (fun hHeld => ?_)
                · exact ⟨HA.out.2.1, HA.out.2.2.1, HA.out.2.2.2.1⟩
                clear hK K
                refine wpAnyH_ready (rs := [7]) (by kernel_rfl) (by simp) ?_
                refine AllReadyH.cons (o := _) rfl (fun K hK => ?_) ?_
                · clear hHeld
                  have s0 := HR2.out.2.1
                  have tt0 := HR2.out.2.2.2.2 0
                  have s1 := HR2.out.2.2.1
                  have tt1 := HR2.out.2.2.2.2 1
                  have s2 := HR2.out.2.2.2.1
                  have tt2 := HR2.out.2.2.2.2 2
                  go_simp
                  clear s0 tt0 s1 tt1 s2 tt2
                  obtain ⟨W18, hWn⟩ : ∃ xw9, (((W17.setCell ⟨r2, 0, none⟩ (.slice t1 m k1)).setCell ⟨r2, 1, none⟩ (.slice t2 n k2)).setCell ⟨r2, 2, none⟩ (.int .i64 f)) = xw9 := ⟨_, rfl⟩
                  rw [hWn]
                  replace HX := Lib.hid (show IsArr W18 _ (.slice s3 m c3) ua A by rw [← hWn]; exact HX.out.keep (((Kept.setCell _ _ _ (fun h => by have := HZ.out; simp only at h; omega)).trans (Kept.setCell _ _ _ (fun h => by have := HZ.out; simp only at h; omega))).trans (Kept.setCell _ _ _ (fun h => by have := HZ.out; simp only at h; omega))) (fun _ _ h => h))
                  replace HY := Lib.hid (show IsP W18 _ (.agg #[.slice t1 m k1, .slice t2 n k2, .int .i64 f]) TP by rw [← hWn]; exact HY.out.keep (((Kept.setCell _ _ _ (fun h => by have := HZ.out; simp only at h; omega)).trans (Kept.setCell _ _ _ (fun h => by have := HZ.out; simp only at h; omega))).trans (Kept.setCell _ _ _ (fun h => by have := HZ.out; simp only at h; omega))) (fun _ _ h => h))
                  replace HYI := Lib.hid (show Its W18 _ (.slice t2 n k2) TP.l by rw [← hWn]; exact HYI.out.keep (((Kept.setCell _ _ _ (fun h => by have := HZ.out; simp only at h; omega)).trans (Kept.setCell _ _ _ (fun h => by have := HZ.out; simp only at h; omega))).trans (Kept.setCell _ _ _ (fun h => by have := HZ.out; simp only at h; omega))) (fun _ _ h => h))
                  replace HW0 := Lib.hid (show Below W11.heap.size W11 W18 by rw [← hWn]; exact (((HW0.out.setCell (p := ⟨r2, 0, none⟩) (by have := HZ.out; simp only; omega) _).setCell (p := ⟨r2, 1, none⟩) (by have := HZ.out; simp only; omega) _).setCell (p := ⟨r2, 2, none⟩) (by have := HZ.out; simp only; omega) _))
                  replace HR2 := Lib.hid (show At3 W18 r2 (.slice t1 m k1) (.slice t2 n k2) (.int .i64 f) by rw [← hWn]; exact At3.put3 HR2.out _ _ _)
                  replace HR1 := Lib.hid (show At2 W18 r1 (.slice s3 m c3) (ua) by rw [← hWn]; exact (((HR1.out.grown (grown_setCell _ ⟨r2, 0, none⟩ _) (by have := HZ.out; simp; omega)).grown (grown_setCell _ ⟨r2, 1, none⟩ _) (by have := HZ.out; simp; omega)).grown (grown_setCell _ ⟨r2, 2, none⟩ _) (by have := HZ.out; simp; omega)))
                  replace HA := Lib.hid (show At3 W18 w.heap.size (.slice so m sc) (.slice io n ic) (.int .i64 f) by rw [← hWn]; exact (((HA.out.grown (grown_setCell _ ⟨r2, 0, none⟩ _) (by have := HZ.out; have := HLTW.out; simp; omega)).grown (grown_setCell _ ⟨r2, 1, none⟩ _) (by have := HZ.out; have := HLTW.out; simp; omega)).grown (grown_setCell _ ⟨r2, 2, none⟩ _) (by have := HZ.out; have := HLTW.out; simp; omega)))
                  clear hWn
                  refine hK.out _ _ ?_ (fun hHeld => ?_)
                  · exact ⟨HA.out.2.1, HA.out.2.2.1, HA.out.2.2.2.1⟩
                  clear hK K
                  refine wpAnyH_done (by kernel_rfl) ?_ _
                  clear hHeld
                  exact ⟨rfl, s3, t1, t2, c3, k1, k2, ua, r1, r2, rfl, HR1.out, HR2.out, HX.out.wide (fun _ _ _ => trivial), HY.out.wide (fun _ _ _ => trivial), HYI.out.wide (fun _ _ _ => trivial), HW0.out⟩
                exact AllReadyH.nil
              exact AllReadyH.nil
            exact AllReadyH.nil
          exact AllReadyH.nil
        refine AllReadyH.cons (o := _) rfl (fun K hK => ?_) ?_
        · clear hHeld
          go_simp
          obtain ⟨W14, hWn⟩ : ∃ xw9, W13.alloc (.cells #[.slice none 0 0, .slice none 0 0, .int .i64 0] 25) = xw9 := ⟨_, rfl⟩
          have hB : Below W13.heap.size W13 W14 := by rw [← hWn]; exact below_new _ _
          have hNB : At3 W14 W13.heap.size (.slice none 0 0) (.slice none 0 0) (.int .i64 0) := by rw [← hWn]; exact At3.new _ _ _ _ _
          rw [hWn]
          clear hWn
          obtain ⟨r2, hnm⟩ : ∃ x, W13.heap.size = x := ⟨_, rfl⟩
          rw [hnm] at hNB ⊢
          replace HZ := Lib.hid (And.intro HZ.out (And.intro hnm hNB.1))
          replace HA := Lib.hid (HA.out.below hB)
          replace HI := Lib.hid (HI.out.grow hB)
          replace HT := Lib.hid (fun j hj => keep_below hB _ _ (HT.out j hj))
          replace HW0 := Lib.hid (HW0.out.trans (hB.mono HW0.out.size))
          replace HX := Lib.hid (HX.out.grow hB)
          have HR2 := Lib.hid hNB
          clear hNB hB hnm
          refine hK.out _ _ ?_ (fun hHeld => ?_)
          · exact ⟨HA.out.2.1, HA.out.2.2.1, HA.out.2.2.2.1⟩
          clear hK K
          refine wpAnyH_ready (rs := [3, 4]) (by kernel_rfl) (by simp) ?_
          refine AllReadyH.cons (o := _) rfl (fun K hK => ?_) ?_
          · clear hHeld
            go_simp
            refine (ptidy_calls 40 _ p _ _ HC.out.1 HI.out).mono ?_
            rintro e W15 ⟨ut, rfl, hut, hB⟩
            replace HZ := Lib.hid (And.intro HZ.out hB.size)
            replace HA := Lib.hid (HA.out.below hB)
            replace HI := Lib.hid (HI.out.grow hB)
            replace HT := Lib.hid (fun j hj => keep_below hB _ _ (HT.out j hj))
            replace HW0 := Lib.hid (HW0.out.trans (hB.mono HW0.out.size))
            replace HX := Lib.hid (HX.out.grow hB)
            replace HR2 := Lib.hid (HR2.out.below hB)
            rw [HTP.out] at hut
            obtain ⟨t1, k1, t2, k2, rfl, _, hti⟩ := hut.opened
            rw [HTL.out] at hti
            rw [HTS.out, HTL.out, HTF.out] at hut ⊢
            have HY := Lib.hid hut.lt
            have HYI := Lib.hid hti.lt
            clear hut hti
            clear hB
            refine hK.out _ _ ?_ (fun hHeld => ?_)
            · exact ⟨HA.out.2.1, HA.out.2.2.1, HA.out.2.2.2.1⟩
            clear hK K
            refine wpAnyH_ready (rs := [4]) (by kernel_rfl) (by simp) ?_
            refine AllReadyH.cons (o := _) rfl (fun K hK => ?_) ?_
            · clear hHeld
              go_simp
              obtain ⟨W16, hWn⟩ : ∃ xw9, W15.alloc (.cells #[.slice none 0 0, .nilIface] 31) = xw9 := ⟨_, rfl⟩
              have hB : Below W15.heap.size W15 W16 := by rw [← hWn]; exact below_new _ _
              have hNB : At2 W16 W15.heap.size (.slice none 0 0) (.nilIface) := by rw [← hWn]; exact At2.new _ _ _ _
              rw [hWn]
              clear hWn
              obtain ⟨r1, hnm⟩ : ∃ x, W15.heap.size = x := ⟨_, rfl⟩
              rw [hnm] at hNB ⊢
              replace HZ := Lib.hid (And.intro HZ.out (And.intro hnm hNB.1))
              replace HA := Lib.hid (HA.out.below hB)
              replace HI := Lib.hid (HI.out.grow hB)
              replace HT := Lib.hid (fun j hj => keep_below hB _ _ (HT.out j hj))
              replace HW0 := Lib.hid (HW0.out.trans (hB.mono HW0.out.size))
              replace HX := Lib.hid (HX.out.grow hB)
              replace HR2 := Lib.hid (HR2.out.below hB)
              replace HY := Lib.hid (HY.out.grow hB)
              replace HYI := Lib.hid (HYI.out.grow hB)
              have HR1 := Lib.hid hNB
              clear hNB hB hnm
              refine hK.out _ _ ?_ (fun hHeld => ?_)
              · exact ⟨HA.out.2.1, HA.out.2.2.1, HA.out.2.2.2.1⟩
              clear hK K
              refine wpAnyH_ready (rs := [6]) (by kernel_rfl) (by simp) ?_
              refine AllReadyH.cons (o := _) rfl (fun K hK => ?_) ?_
              · clear hHeld
                have s0 := HR1.out.2.1
                have tt0 := HR1.out.2.2.2 0
                have s1 := HR1.out.2.2.1
                have tt1 := HR1.out.2.2.2 1
                go_simp
                clear s0 tt0 s1 tt1
                obtain ⟨W17, hWn⟩ : ∃ xw9, ((W16.setCell ⟨r1, 0, none⟩ (.slice s3 m c3)).setCell ⟨r1, 1, none⟩ (ua)) = xw9 := ⟨_, rfl⟩
                rw [hWn]
                replace HX := Lib.hid (show IsArr W17 _ (.slice s3 m c3) ua A by rw [← hWn]; exact HX.out.keep ((Kept.setCell _ _ _ (fun h => by have := HZ.out; simp only at h; omega)).trans (Kept.setCell _ _ _ (fun h => by have := HZ.out; simp only at h; omega))) (fun _ _ h => h))
                replace HY := Lib.hid (show IsP W17 _ (.agg #[.slice t1 m k1, .slice t2 n k2, .int .i64 f]) TP by rw [← hWn]; exact HY.out.keep ((Kept.setCell _ _ _ (fun h => by have := HZ.out; simp only at h; omega)).trans (Kept.setCell _ _ _ (fun h => by have := HZ.out; simp only at h; omega))) (fun _ _ h => h))
                replace HYI := Lib.hid (show Its W17 _ (.slice t2 n k2) TP.l by rw [← hWn]; exact HYI.out.keep ((Kept.setCell _ _ _ (fun h => by have := HZ.out; simp only at h; omega)).trans (Kept.setCell _ _ _ (fun h => by have := HZ.out; simp only at h; omega))) (fun _ _ h => h))
                replace HW0 := Lib.hid (show Below W11.heap.size W11 W17 by rw [← hWn]; exact ((HW0.out.setCell (p := ⟨r1, 0, none⟩) (by have := HZ.out; simp only; omega) _).setCell (p := ⟨r1, 1, none⟩) (by have := HZ.out; simp only; omega) _))
                replace HR1 := Lib.hid (show At2 W17 r1 (.slice s3 m c3) (ua) by rw [← hWn]; exact At2.put2 HR1.out _ _)
                replace HR2 := Lib.hid (show At3 W17 r2 (.slice none 0 0) (.slice none 0 0) (.int .i64 0) by rw [← hWn]; exact ((HR2.out.grown (grown_setCell _ ⟨r1, 0, none⟩ _) (by have := HZ.out; simp; omega)).grown (grown_setCell _ ⟨r1, 1, none⟩ _) (by have := HZ.out; simp; omega)))
                replace HA := Lib.hid (show At3 W17 w.heap.size (.slice so m sc) (.slice io n ic) (.int .i64 f) by rw [← hWn]; exact ((HA.out.grown (grown_setCell _ ⟨r1, 0, none⟩ _) (by have := HZ.out; have := HLTW.out; simp; omega)).grown (grown_setCell _ ⟨r1, 1, none⟩ _) (by have := HZ.out; have := HLTW.out; simp; omega)))
                clear hWn
                refine hK.out _ _ ?_ (fun hHeld => ?_)
                · exact ⟨HA.out.2.1, HA.out.2.2.1, HA.out.2.2.2.1⟩
                clear hK K
                refine wpAnyH_ready (rs := [7]) (by kernel_rfl) (by simp) ?_
                refine AllReadyH.cons (o := _) rfl (fun K hK => ?_) ?_
                · clear hHeld
                  have s0 := HR2.out.2.1
                  have tt0 := HR2.out.2.2.2.2 0
                  have s1 := HR2.out.2.2.1
                  have tt1 := HR2.out.2.2.2.2 1
                  have s2 := HR2.out.2.2.2.1
                  have tt2 := HR2.out.2.2.2.2 2
                  go_simp
                  clear s0 tt0 s1 tt1 s2 tt2
                  obtain ⟨W18, hWn⟩ : ∃ xw9, (((W17.setCell ⟨r2, 0, none⟩ (.slice t1 m k1)).setCell ⟨r2, 1, none⟩ (.slice t2 n k2)).setCell ⟨r2, 2, none⟩ (.int .i64 f)) = xw9 := ⟨_, rfl⟩
                  rw [hWn]
                  replace HX := Lib.hid (show IsArr W18 _ (.slice s3 m c3) ua A by rw [← hWn]; exact HX.out.keep (((Kept.setCell _ _ _ (fun h => by have := HZ.out; simp only at h; omega)).trans (Kept.setCell _ _ _ (fun h => by have := HZ.out; simp only at h; omega))).trans (Kept.setCell _ _ _ (fun h => by have := HZ.out; simp only at h; omega))) (fun _ _ h => h))
                  replace HY := Lib.hid (show IsP W18 _ (.agg #[.slice t1 m k1, .slice t2 n k2, .int .i64 f]) TP by rw [← hWn]; exact HY.out.keep (((Kept.setCell _ _ _ (fun h => by have := HZ.out; simp only at h; omega)).trans (Kept.setCell _ _ _ (fun h => by have := HZ.out; simp only at h; omega))).trans (Kept.setCell _ _ _ (fun h => by have := HZ.out; simp only at h; omega))) (fun _ _ h => h))
                  replace HYI := Lib.hid (show Its W18 _ (.slice t2 n k2) TP.l by rw [← hWn]; exact HYI.out.keep (((Kept.setCell _ _ _ (fun h => by have := HZ.out; simp only at h; omega)).trans (Kept.setCell _ _ _ (fun h => by have := HZ.out; simp only at h; omega))).trans (Kept.setCell _ _ _ (fun h => by have := HZ.out; simp only at h; omega))) (fun _ _ h => h))
                  replace HW0 := Lib.hid (show Below W11.heap.size W11 W18 by rw [← hWn]; exact (((HW0.out.setCell (p := ⟨r2, 0, none⟩) (by have := HZ.out; simp only; omega) _).setCell (p := ⟨r2, 1, none⟩) (by have := HZ.out; simp only; omega) _).setCell (p := ⟨r2, 2, none⟩) (by have := HZ.out; simp only; omega) _))
                  replace HR2 := Lib.hid (show At3 W18 r2 (.slice t1 m k1) (.slice t2 n k2) (.int .i64 f) by rw [← hWn]; exact At3.put3 HR2.out _ _ _)
                  replace HR1 := Lib.hid (show At2 W18 r1 (.slice s3 m c3) (ua) by rw [← hWn]; exact (((HR1.out.grown (grown_setCell _ ⟨r2, 0, none⟩ _) (by have := HZ.out; simp; omega)).grown (grown_setCell _ ⟨r2, 1, none⟩ _) (by have := HZ.out; simp; omega)).grown (grown_setCell _ ⟨r2, 2, none⟩ _) (by have := HZ.out; simp; omega)))
                  replace HA := Lib.hid (show At3 W18 w.heap.size (.slice so m sc) (.slice io n ic) (.int .i64 f) by rw [← hWn]; exact (((HA.out.grown (grown_setCell _ ⟨r2, 0, none⟩ _) (by have := HZ.out; have := HLTW.out; simp; omega)).grown (grown_setCell _ ⟨r2, 1, none⟩ _) (by have := HZ.out; have := HLTW.out; simp; omega)).grown (grown_setCell _ ⟨r2, 2, none⟩ _) (by have := HZ.out; have := HLTW.out; simp; omega)))
                  clear hWn
                  refine hK.out _ _ ?_ (fun hHeld => ?_)
                  · exact ⟨HA.out.2.1, HA.out.2.2.1, HA.out.2.2.2.1⟩
                  clear hK K
                  refine wpAnyH_done (by kernel_rfl) ?_ _
                  clear hHeld
                  exact ⟨rfl, s3, t1, t2, c3, k1, k2, ua, r1, r2, rfl, HR1.out, HR2.out, HX.out.wide (fun _ _ _ => trivial), HY.out.wide (fun _ _ _ => trivial), HYI.out.wide (fun _ _ _ => trivial), HW0.out⟩
                exact AllReadyH.nil
              exact AllReadyH.nil
            exact AllReadyH.nil
          refine AllReadyH.cons (o := _) rfl (fun K hK => ?_) ?_
          · clear hHeld
            go_simp
            obtain ⟨W15, hWn⟩ : ∃ xw9, W14.alloc (.cells #[.slice none 0 0, .nilIface] 31) = xw9 := ⟨_, rfl⟩
            have hB : Below W14.heap.size W14 W15 := by rw [← hWn]; exact below_new _ _
            have hNB : At2 W15 W14.heap.size (.slice none 0 0) (.nilIface) := by rw [← hWn]; exact At2.new _ _ _ _
            rw [hWn]
            clear hWn
            obtain ⟨r1, hnm⟩ : ∃ x, W14.heap.size = x := ⟨_, rfl⟩
            rw [hnm] at hNB ⊢
            replace HZ := Lib.hid (And.intro HZ.out (And.intro hnm hNB.1))
            replace HA := Lib.hid (HA.out.below hB)
            replace HI := Lib.hid (HI.out.grow hB)
            replace HT := Lib.hid (fun j hj => keep_below hB _ _ (HT.out j hj))
            replace HW0 := Lib.hid (HW0.out.trans (hB.mono HW0.out.size))
            replace HX := Lib.hid (HX.out.grow hB)
            replace HR2 := Lib.hid (HR2.out.below hB)
            have HR1 := Lib.hid hNB
            clear hNB hB hnm
            refine hK.out _ _ ?_ (fun hHeld => ?_)
            · exact ⟨HA.out.2.1, HA.out.2.2.1, HA.out.2.2.2.1⟩
            clear hK K
            refine wpAnyH_ready (rs := [3]) (by kernel_rfl) (by simp) ?_
            refine AllReadyH.cons (o := _) rfl (fun K hK => ?_) ?_
            · clear hHeld
              go_simp
              refine (ptidy_calls 40 _ p _ _ HC.out.1 HI.out).mono ?_
              rintro e W16 ⟨ut, rfl, hut, hB⟩
              replace HZ := Lib.hid (And.intro HZ.out hB.size)
              replace HA := Lib.hid (HA.out.below hB)
              replace HI := Lib.hid (HI.out.grow hB)
              replace HT := Lib.hid (fun j hj => keep_below hB _ _ (HT.out j hj))
              replace HW0 := Lib.hid (HW0.out.trans (hB.mono HW0.out.size))
              replace HX := Lib.hid (HX.out.grow hB)
              replace HR2 := Lib.hid (HR2.out.below hB)
              replace HR1 := Lib.hid (HR1.out.below hB)
              rw [HTP.out] at hut
              obtain ⟨t1, k1, t2, k2, rfl, _, hti⟩ := hut.opened
              rw [HTL.out] at hti
              rw [HTS.out, HTL.out, HTF.out] at hut ⊢
              have HY := Lib.hid hut.lt
              have HYI := Lib.hid hti.lt
              clear hut hti
              clear hB
              refine hK.out _ _ ?_ (fun hHeld => ?_)
              · exact ⟨HA.out.2.1, HA.out.2.2.1, HA.out.2.2.2.1⟩
              clear hK K
              refine wpAnyH_ready (rs := [6]) (by kernel_rfl) (by simp) ?_
              refine AllReadyH.cons (o := _) rfl (fun K hK => ?_) ?_
              · clear hHeld
                have s0 := HR1.out.2.1
                have tt0 := HR1.out.2.2.2 0
                have s1 := HR1.out.2.2.1
                have tt1 := HR1.out.2.2.2 1
                go_simp
                clear s0 tt0 s1 tt1
                obtain ⟨W17, hWn⟩ : ∃ xw9, ((W16.setCell ⟨r1, 0, none⟩ (.slice s3 m c3)).setCell ⟨r1, 1, none⟩ (ua)) = xw9 := ⟨_, rfl⟩
                rw [hWn]
                replace HX := Lib.hid (show IsArr W17 _ (.slice s3 m c3) ua A by rw [← hWn]; exact HX.out.keep ((Kept.setCell _ _ _ (fun h => by have := HZ.out; simp only at h; omega)).trans (Kept.setCell _ _ _ (fun h => by have := HZ.out; simp only at h; omega))) (fun _ _ h => h))
                replace HY := Lib.hid (show IsP W17 _ (.agg #[.slice t1 m k1, .slice t2 n k2, .int .i64 f]) TP by rw [← hWn]; exact HY.out.keep ((Kept.setCell _ _ _ (fun h => by have := HZ.out; simp only at h; omega)).trans (Kept.setCell _ _ _ (fun h => by have := HZ.out; simp only at h; omega))) (fun _ _ h => h))
                replace HYI := Lib.hid (show Its W17 _ (.slice t2 n k2) TP.l by rw [← hWn]; exact HYI.out.keep ((Kept.setCell _ _ _ (fun h => by have := HZ.out; simp only at h; omega)).trans (Kept.setCell _ _ _ (fun h => by have := HZ.out; simp only at h; omega))) (fun _ _ h => h))
                replace HW0 := Lib.hid (show Below W11.heap.size W11 W17 by rw [← hWn]; exact ((HW0.out.setCell (p := ⟨r1, 0, none⟩) (by have := HZ.out; simp only; omega) _).setCell (p := ⟨r1, 1, none⟩) (by have := HZ.out; simp only; omega) _))
                replace HR1 := Lib.hid (show At2 W17 r1 (.slice s3 m c3) (ua) by rw [← hWn]; exact At2.put2 HR1.out _ _)
                replace HR2 := Lib.hid (show At3 W17 r2 (.slice none 0 0) (.slice none 0 0) (.int .i64 0) by rw [← hWn]; exact ((HR2.out.grown (grown_setCell _ ⟨r1, 0, none⟩ _) (by have := HZ.out; simp; omega)).grown (grown_setCell _ ⟨r1, 1, none⟩ _) (by have := HZ.out; simp; omega)))
                replace HA := Lib.hid (show At3 W17 w.heap.size (.slice so m sc) (.slice io n ic) (.int .i64 f) by rw [← hWn]; exact ((HA.out.grown (grown_setCell _ ⟨r1, 0, none⟩ _) (by have := HZ.out; have := HLTW.out; simp; omega)).grown (grown_setCell _ ⟨r1, 1, none⟩ _) (by have := HZ.out; have := HLTW.out; simp; omega)))
                clear hWn
                refine hK.out _ _ ?_ (fun hHeld => ?_)
                · exact ⟨HA.out.2.1, HA.out.2.2.1, HA.out.2.2.2.1⟩
                clear hK K
                refine wpAnyH_ready (rs := [7]) (by kernel_rfl) (by simp) ?_
                refine AllReadyH.cons (o := _) rfl (fun K hK => ?_) ?_
                · clear hHeld
                  have s0 := HR2.out.2.1
                  have tt0 := HR2.out.2.2.2.2 0
                  have s1 := HR2.out.2.2.1
                  have tt1 := HR2.out.2.2.2.2 1
                  have s2 := HR2.out.2.2.2.1
                  have tt2 := HR2.out.2.2.2.2 2
                  go_simp
                  clear s0 tt0 s1 tt1 s2 tt2
                  obtain ⟨W18, hWn⟩ : ∃ xw9, (((W17.setCell ⟨r2, 0, none⟩ (.slice t1 m k1)).setCell ⟨r2, 1, none⟩ (.slice t2 n k2)).setCell ⟨r2, 2, none⟩ (.int .i64 f)) = xw9 := ⟨_, rfl⟩
                  rw [hWn]
                  replace HX := Lib.hid (show IsArr W18 _ (.slice s3 m c3) ua A by rw [← hWn]; exact HX.out.keep (((Kept.setCell _ _ _ (fun h => by have := HZ.out; simp only at h; omega)).trans (Kept.setCell _ _ _ (fun h => by have := HZ.out; simp only at h; omega))).trans (Kept.setCell _ _ _ (fun h => by have := HZ.out; simp only at h; omega))) (fun _ _ h => h))
                  replace HY := Lib.hid (show IsP W18 _ (.agg #[.slice t1 m k1, .slice t2 n k2, .int .i64 f]) TP by rw [← hWn]; exact HY.out.keep (((Kept.setCell _ _ _ (fun h => by have := HZ.out; simp only at h; omega)).trans (Kept.setCell _ _ _ (fun h => by have := HZ.out; simp only at h; omega))).trans (Kept.setCell _ _ _ (fun h => by have := HZ.out; simp only at h; omega))) (fun _ _ h => h))
                  replace HYI := Lib.hid (show Its W18 _ (.slice t2 n k2) TP.l by rw [← hWn]; exact HYI.out.keep (((Kept.setCell _ _ _ (fun h => by have := HZ.out; simp only at h; omega)).trans (Kept.setCell _ _ _ (fun h => by have := HZ.out; simp only at h; omega))).trans (Kept.setCell _ _ _ (fun h => by have := HZ.out; simp only at h; omega))) (fun _ _ h => h))
                  replace HW0 := Lib.hid (show Below W11.heap.size W11 W18 by rw [← hWn]; exact (((HW0.out.setCell (p := ⟨r2, 0, none⟩) (by have := HZ.out; simp only; omega) _).setCell (p := ⟨r2, 1, none⟩) (by have := HZ.out; simp only; omega) _).setCell (p := ⟨r2, 2, none⟩) (by have := HZ.out; simp only; omega) _))
                  replace HR2 := Lib.hid (show At3 W18 r2 (.slice t1 m k1) (.slice t2 n k2) (.int .i64 f) by rw [← hWn]; exact At3.put3 HR2.out _ _ _)
                  replace HR1 := Lib.hid (show At2 W18 r1 (.slice s3 m c3) (ua) by rw [← hWn]; exact (((HR1.out.grown (grown_setCell _ ⟨r2, 0, none⟩ _) (by have := HZ.out; simp; omega)).grown (grown_setCell _ ⟨r2, 1, none⟩ _) (by have := HZ.out; simp; omega)).grown (grown_setCell _ ⟨r2, 2, none⟩ _) (by have := HZ.out; simp; omega)))
                  replace HA := Lib.hid (show At3 W18 w.heap.size (.slice so m sc) (.slice io n ic) (.int .i64 f) by rw [← hWn]; exact (((HA.out.grown (grown_setCell _ ⟨r2, 0, none⟩ _) (by have := HZ.out; have := HLTW.out; simp; omega)).grown (grown_setCell _ ⟨r2, 1, none⟩ _) (by have := HZ.out; have := HLTW.out; simp; omega)).grown (grown_setCell _ ⟨r2, 2, none⟩ _) (by have := HZ.out; have := HLTW.out; simp; omega)))
                  clear hWn
                  refine hK.out _ _ ?_ (fun hHeld => ?_)
                  · exact ⟨HA.out.2.1, HA.out.2.2.1, HA.out.2.2.2.1⟩
                  clear hK K
                  refine wpAnyH_done (by kernel_rfl) ?_ _
                  clear hHeld
                  exact ⟨rfl, s3, t1, t2, c3, k1, k2, ua, r1, r2, rfl, HR1.out, HR2.out, HX.out.wide (fun _ _ _ => trivial), HY.out.wide (fun _ _ _ => trivial), HYI.out.wide (fun _ _ _ => trivial), HW0.out⟩
                exact AllReadyH.nil
              exact AllReadyH.nil
            exact AllReadyH.nil
          exact AllReadyH.nil
        exact AllReadyH.nil
      refine AllReadyH.cons (o := _) rfl (fun K hK => ?_) ?_
      · clear hHeld
        go_simp
        obtain ⟨W13, hWn⟩ : ∃ xw9, W12.alloc (.cells #[.slice none 0 0, .nilIface] 31) = xw9 := ⟨_, rfl⟩
        have hB : Below W12.heap.size W12 W13 := by rw [← hWn]; exact below_new _ _
        have hNB : At2 W13 W12.heap.size (.slice none 0 0) (.nilIface) := by rw [← hWn]; exact At2.new _ _ _ _
        rw [hWn]
        clear hWn
        obtain ⟨r1, hnm⟩ : ∃ x, W12.heap.size = x := ⟨_, rfl⟩
        rw [hnm] at hNB ⊢
        replace HZ := Lib.hid (And.intro HZ.out (And.intro hnm hNB.1))
        replace HA := Lib.hid (HA.out.below hB)
        replace HI := Lib.hid (HI.out.grow hB)
        replace HT := Lib.hid (fun j hj => keep_below hB _ _ (HT.out j hj))
        replace HW0 := Lib.hid (HW0.out.trans (hB.mono HW0.out.size))
        have HR1 := Lib.hid hNB
        clear hNB hB hnm
        refine hK.out _ _ ?_ (fun hHeld => ?_)
        · exact ⟨HA.out.2.1, HA.out.2.2.1, HA.out.2.2.2.1⟩
        clear hK K
        refine wpAnyH_ready (rs := [1, 5]) (by kernel_rfl) (by simp) ?_
        refine AllReadyH.cons (o := _) rfl (fun K hK => ?_) ?_
        · clear hHeld
          go_simp
          refine (lof_calls _ p _ nd _ HLO.out HI.out HT.out HC.out.1).mono ?_
          rintro e W14 ⟨s3, c3, ua, rfl, hOR, hB⟩
          replace HZ := Lib.hid (And.intro HZ.out hB.size)
          replace HA := Lib.hid (HA.out.below hB)
          replace HI := Lib.hid (HI.out.grow hB)
          replace HT := Lib.hid (fun j hj => keep_below hB _ _ (HT.out j hj))
          replace HW0 := Lib.hid (HW0.out.trans (hB.mono HW0.out.size))
          replace HR1 := Lib.hid (HR1.out.below hB)
          rw [HAA.out, HAM.out] at hOR ⊢
          have HX := Lib.hid (show IsArr W14 (fun b => W13.heap.size ≤ b ∧ b < W14.heap.size) (.slice s3 m c3) ua A from hOR.wide (fun b h1 h2 => ⟨h2, h1⟩))
          have hsua := hOR.2.store
          clear hOR
          clear hB
          refine hK.out _ _ ?_ (fun hHeld => ?_)
          · exact ⟨HA.out.2.1, HA.out.2.2.1, HA.out.2.2.2.1⟩
          clear hK K
          refine wpAnyH_ready (rs := [3, 5]) (by kernel_rfl) (by simp) ?_
          refine AllReadyH.cons (o := _) rfl (fun K hK => ?_) ?_
          · clear hHeld
            go_simp
            refine (ptidy_calls 40 _ p _ _ HC.out.1 HI.out).mono ?_
            rintro e W15 ⟨ut, rfl, hut, hB⟩
            replace HZ := Lib.hid (And.intro HZ.out hB.size)
            replace HA := Lib.hid (HA.out.below hB)
            replace HI := Lib.hid (HI.out.grow hB)
            replace HT := Lib.hid (fun j hj => keep_below hB _ _ (HT.out j hj))
            replace HW0 := Lib.hid (HW0.out.trans (hB.mono HW0.out.size))
            replace HR1 := Lib.hid (HR1.out.below hB)
            replace HX := Lib.hid (HX.out.grow hB)
            rw [HTP.out] at hut
            obtain ⟨t1, k1, t2, k2, rfl, _, hti⟩ := hut.opened
            rw [HTL.out] at hti
            rw [HTS.out, HTL.out, HTF.out] at hut ⊢
            have HY := Lib.hid hut.lt
            have HYI := Lib.hid hti.lt
            clear hut hti
            clear hB
            refine hK.out _ _ ?_ (fun hHeld => ?_)
            · exact ⟨HA.out.2.1, HA.out.2.2.1, HA.out.2.2.2.1⟩
            clear hK K
            refine wpAnyH_ready (rs := [5]) (by kernel_rfl) (by simp) ?_
            refine AllReadyH.cons (o := _) rfl (fun K hK => ?_) ?_
            · clear hHeld
              go_simp
              obtain ⟨W16, hWn⟩ : ∃ xw9, W15.alloc (.cells #[.slice none 0 0, .slice none 0 0, .int .i64 0] 25) = xw9 := ⟨_, rfl⟩
              have hB : Below W15.heap.size W15 W16 := by rw [← hWn]; exact below_new _ _
              have hNB : At3 W16 W15.heap.size (.slice none 0 0) (.slice none 0 0) (.int .i64 0) := by rw [← hWn]; exact At3.new _ _ _ _ _
              rw [hWn]
              clear hWn
              obtain ⟨r2, hnm⟩ : ∃ x, W15.heap.size = x := ⟨_, rfl⟩
              rw [hnm] at hNB ⊢
              replace HZ := Lib.hid (And.intro HZ.out (And.intro hnm hNB.1))
              replace HA := Lib.hid (HA.out.below hB)
              replace HI := Lib.hid (HI.out.grow hB)
              replace HT := Lib.hid (fun j hj => keep_below hB _ _ (HT.out j hj))
              replace HW0 := Lib.hid (HW0.out.trans (hB.mono HW0.out.size))
              replace HR1 := Lib.hid (HR1.out.below hB)
              replace HX := Lib.hid (HX.out.grow hB)
              replace HY := Lib.hid (HY.out.grow hB)
              replace HYI := Lib.hid (HYI.out.grow hB)
              have HR2 := Lib.hid hNB
              clear hNB hB hnm
              refine hK.out _ _ ?_ (fun hHeld => ?_)
              · exact ⟨HA.out.2.1, HA.out.2.2.1, HA.out.2.2.2.1⟩
              clear hK K
              refine wpAnyH_ready (rs := [6]) (by kernel_rfl) (by simp) ?_
              refine AllReadyH.cons (o := _) rfl (fun K hK => ?_) ?_
              · clear hHeld
                have s0 := HR1.out.2.1
                have tt0 := HR1.out.2.2.2 0
                have s1 := HR1.out.2.2.1
                have tt1 := HR1.out.2.2.2 1
                go_simp
                clear s0 tt0 s1 tt1
                obtain ⟨W17, hWn⟩ : ∃ xw9, ((W16.setCell ⟨r1, 0, none⟩ (.slice s3 m c3)).setCell ⟨r1, 1, none⟩ (ua)) = xw9 := ⟨_, rfl⟩
                rw [hWn]
                replace HX := Lib.hid (show IsArr W17 _ (.slice s3 m c3) ua A by rw [← hWn]; exact HX.out.keep ((Kept.setCell _ _ _ (fun h => by have := HZ.out; simp only at h; omega)).trans (Kept.setCell _ _ _ (fun h => by have := HZ.out; simp only at h; omega))) (fun _ _ h => h))
                replace HY := Lib.hid (show IsP W17 _ (.agg #[.slice t1 m k1, .slice t2 n k2, .int .i64 f]) TP by rw [← hWn]; exact HY.out.keep ((Kept.setCell _ _ _ (fun h => by have := HZ.out; simp only at h; omega)).trans (Kept.setCell _ _ _ (fun h => by have := HZ.out; simp only at h; omega))) (fun _ _ h => h))
                replace HYI := Lib.hid (show Its W17 _ (.slice t2 n k2) TP.l by rw [← hWn]; exact HYI.out.keep ((Kept.setCell _ _ _ (fun h => by have := HZ.out; simp only at h; omega)).trans (Kept.setCell _ _ _ (fun h => by have := HZ.out; simp only at h; omega))) (fun _ _ h => h))
                replace HW0 := Lib.hid (show Below W11.heap.size W11 W17 by rw [← hWn]; exact ((HW0.out.setCell (p := ⟨r1, 0, none⟩) (by have := HZ.out; simp only; omega) _).setCell (p := ⟨r1, 1, none⟩) (by have := HZ.out; simp only; omega) _))
                replace HR1 := Lib.hid (show At2 W17 r1 (.slice s3 m c3) (ua) by rw [← hWn]; exact At2.put2 HR1.out _ _)
                replace HR2 := Lib.hid (show At3 W17 r2 (.slice none 0 0) (.slice none 0 0) (.int .i64 0) by rw [← hWn]; exact ((HR2.out.grown (grown_setCell _ ⟨r1, 0, none⟩ _) (by have := HZ.out; simp; omega)).grown (grown_setCell _ ⟨r1, 1, none⟩ _) (by have := HZ.out; simp; omega)))
                replace HA := Lib.hid (show At3 W17 w.heap.size (.slice so m sc) (.slice io n ic) (.int .i64 f) by rw [← hWn]; exact ((HA.out.grown (grown_setCell _ ⟨r1, 0, none⟩ _) (by have := HZ.out; have := HLTW.out; simp; omega)).grown (grown_setCell _ ⟨r1, 1, none⟩ _) (by have := HZ.out; have := HLTW.out; simp; omega)))
                clear hWn
                refine hK.out _ _ ?_ (fun hHeld => ?_)
                · exact ⟨HA.out.2.1, HA.out.2.2.1, HA.out.2.2.2.1⟩
                clear hK K
                refine wpAnyH_ready (rs := [7]) (by kernel_rfl) (by simp) ?_
                refine AllReadyH.cons (o := _) rfl (fun K hK => ?_) ?_
                · clear hHeld
                  have s0 := HR2.out.2.1
                  have tt0 := HR2.out.2.2.2.2 0
                  have s1 := HR2.out.2.2.1
                  have tt1 := HR2.out.2.2.2.2 1
                  have s2 := HR2.out.2.2.2.1
                  have tt2 := HR2.out.2.2.2.2 2
                  go_simp
                  clear s0 tt0 s1 tt1 s2 tt2
                  obtain ⟨W18, hWn⟩ : ∃ xw9, (((W17.setCell ⟨r2, 0, none⟩ (.slice t1 m k1)).setCell ⟨r2, 1, none⟩ (.slice t2 n k2)).setCell ⟨r2, 2, none⟩ (.int .i64 f)) = xw9 := ⟨_, rfl⟩
                  rw [hWn]
                  replace HX := Lib.hid (show IsArr W18 _ (.slice s3 m c3) ua A by rw [← hWn]; exact HX.out.keep (((Kept.setCell _ _ _ (fun h => by have := HZ.out; simp only at h; omega)).trans (Kept.setCell _ _ _ (fun h => by have := HZ.out; simp only at h; omega))).trans (Kept.setCell _ _ _ (fun h => by have := HZ.out; simp only at h; omega))) (fun _ _ h => h))
                  replace HY := Lib.hid (show IsP W18 _ (.agg #[.slice t1 m k1, .slice t2 n k2, .int .i64 f]) TP by rw [← hWn]; exact HY.out.keep (((Kept.setCell _ _ _ (fun h => by have := HZ.out; simp only at h; omega)).trans (Kept.setCell _ _ _ (fun h => by have := HZ.out; simp only at h; omega))).trans (Kept.setCell _ _ _ (fun h => by have := HZ.out; simp only at h; omega))) (fun _ _ h => h))
                  replace HYI := Lib.hid (show Its W18 _ (.slice t2 n k2) TP.l by rw [← hWn]; exact HYI.out.keep (((Kept.setCell _ _ _ (fun h => by have := HZ.out; simp only at h; omega)).trans (Kept.setCell _ _ _ (fun h => by have := HZ.out; simp only at h; omega))).trans (Kept.setCell _ _ _ (fun h => by have := HZ.out; simp only at h; omega))) (fun _ _ h => h))
                  replace HW0 := Lib.hid (show Below W11.heap.size W11 W18 by rw [← hWn]; exact (((HW0.out.setCell (p := ⟨r2, 0, none⟩) (by have := HZ.out; simp only; omega) _).setCell (p := ⟨r2, 1, none⟩) (by have := HZ.out; simp only; omega) _).setCell (p := ⟨r2, 2, none⟩) (by have := HZ.out; simp only; omega) _))
                  replace HR2 := Lib.hid (show At3 W18 r2 (.slice t1 m k1) (.slice t2 n k2) (.int .i64 f) by rw [← hWn]; exact At3.put3 HR2.out _ _ _)
                  replace HR1 := Lib.hid (show At2 W18 r1 (.slice s3 m c3) (ua) by rw [← hWn]; exact (((HR1.out.grown (grown_setCell _ ⟨r2, 0, none⟩ _) (by have := HZ.out; simp; omega)).grown (grown_setCell _ ⟨r2, 1, none⟩ _) (by have := HZ.out; simp; omega)).grown (grown_setCell _ ⟨r2, 2, none⟩ _) (by have := HZ.out; simp; omega)))
                  replace HA := Lib.hid (show At3 W18 w.heap.size (.slice so m sc) (.slice io n ic) (.int .i64 f) by rw [← hWn]; exact (((HA.out.grown (grown_setCell _ ⟨r2, 0, none⟩ _) (by have := HZ.out; have := HLTW.out; simp; omega)).grown (grown_setCell _ ⟨r2, 1, none⟩ _) (by have := HZ.out; have := HLTW.out; simp; omega)).grown (grown_setCell _ ⟨r2, 2, none⟩ _) (by have := HZ.out; have := HLTW.out; simp; omega)))
                  clear hWn
                  refine hK.out _ _ ?_ (fun hHeld => ?_)
                  · exact ⟨HA.out.2.1, HA.out.2.2.1, HA.out.2.2.2.1⟩
                  clear hK K
                  refine wpAnyH_done (by kernel_rfl) ?_ _
                  clear hHeld
                  exact ⟨rfl, s3, t1, t2, c3, k1, k2, ua, r1, r2, rfl, HR1.out, HR2.out, HX.out.wide (fun _ _ _ => trivial), HY.out.wide (fun _ _ _ => trivial), HYI.out.wide (fun _ _ _ => trivial), HW0.out⟩
                exact AllReadyH.nil
              exact AllReadyH.nil
            exact AllReadyH.nil
          refine AllReadyH.cons (o := _) rfl (fun K hK => ?_) ?_
          · clear hHeld
            go_simp
            obtain ⟨W15, hWn⟩ : ∃ xw9, W14.alloc (.cells #[.slice none 0 0, .slice none 0 0, .int .i64 0] 25) = xw9 := ⟨_, rfl⟩
            have hB : Below W14.heap.size W14 W15 := by rw [← hWn]; exact below_new _ _
            have hNB : At3 W15 W14.heap.size (.slice none 0 0) (.slice none 0 0) (.int .i64 0) := by rw [← hWn]; exact At3.new _ _ _ _ _
            rw [hWn]
            clear hWn
            obtain ⟨r2, hnm⟩ : ∃ x, W14.heap.size = x := ⟨_, rfl⟩
            rw [hnm] at hNB ⊢
            replace HZ := Lib.hid (And.intro HZ.out (And.intro hnm hNB.1))
            replace HA := Lib.hid (HA.out.below hB)
            replace HI := Lib.hid (HI.out.grow hB)
            replace HT := Lib.hid (fun j hj => keep_below hB _ _ (HT.out j hj))
            replace HW0 := Lib.hid (HW0.out.trans (hB.mono HW0.out.size))
            replace HR1 := Lib.hid (HR1.out.below hB)
            replace HX := Lib.hid (HX.out.grow hB)
            have HR2 := Lib.hid hNB
            clear hNB hB hnm
            refine hK.out _ _ ?_ (fun hHeld => ?_)
            · exact ⟨HA.out.2.1, HA.out.2.2.1, HA.out.2.2.2.1⟩
            clear hK K
            refine wpAnyH_ready (rs := [3]) (by kernel_rfl) (by simp) ?_
            refine AllReadyH.cons (o := _) rfl (fun K hK => ?_) ?_
            · clear hHeld
              go_simp
              refine (ptidy_calls 40 _ p _ _ HC.out.1 HI.out).mono ?_
              rintro e W16 ⟨ut, rfl, hut, hB⟩
              replace HZ := Lib.hid (And.intro HZ.out hB.size)
              replace HA := Lib.hid (HA.out.below hB)
              replace HI := Lib.hid (HI.out.grow hB)
              replace HT := Lib.hid (fun j hj => keep_below hB _ _ (HT.out j hj))
              replace HW0 := Lib.hid (HW0.out.trans (hB.mono HW0.out.size))
              replace HR1 := Lib.hid (HR1.out.below hB)
              replace HX := Lib.hid (HX.out.grow hB)
              replace HR2 := Lib.hid (HR2.out.below hB)
              rw [HTP.out] at hut
              obtain ⟨t1, k1, t2, k2, rfl, _, hti⟩ := hut.opened
              rw [HTL.out] at hti
              rw [HTS.out, HTL.out, HTF.out] at hut ⊢
              have HY := Lib.hid hut.lt
              have HYI := Lib.hid hti.lt
              clear hut hti
              clear hB
              refine hK.out _ _ ?_ (fun hHeld => ?_)
              · exact ⟨HA.out.2.1, HA.out.2.2.1, HA.out.2.2.2.1⟩
              clear hK K
              refine wpAnyH_ready (rs := [6]) (by kernel_rfl) (by simp) ?_
              refine AllReadyH.cons (o := _) rfl (fun K hK => ?_) ?_
              · clear hHeld
                have s0 := HR1.out.2.1
                have tt0 := HR1.out.2.2.2 0
                have s1 := HR1.out.2.2.1
                have tt1 := HR1.out.2.2.2 1
                go_simp
                clear s0 tt0 s1 tt1
                obtain ⟨W17, hWn⟩ : ∃ xw9, ((W16.setCell ⟨r1, 0, none⟩ (.slice s3 m c3)).setCell ⟨r1, 1, none⟩ (ua)) = xw9 := ⟨_, rfl⟩
                rw [hWn]
                replace HX := Lib.hid (show IsArr W17 _ (.slice s3 m c3) ua A by rw [← hWn]; exact HX.out.keep ((Kept.setCell _ _ _ (fun h => by have := HZ.out; simp only at h; omega)).trans (Kept.setCell _ _ _ (fun h => by have := HZ.out; simp only at h; omega))) (fun _ _ h => h))
                replace HY := Lib.hid (show IsP W17 _ (.agg #[.slice t1 m k1, .slice t2 n k2, .int .i64 f]) TP by rw [← hWn]; exact HY.out.keep ((Kept.setCell _ _ _ (fun h => by have := HZ.out; simp only at h; omega)).trans (Kept.setCell _ _ _ (fun h => by have := HZ.out; simp only at h; omega))) (fun _ _ h => h))
                replace HYI := Lib.hid (show Its W17 _ (.slice t2 n k2) TP.l by rw [← hWn]; exact HYI.out.keep ((Kept.setCell _ _ _ (fun h => by have := HZ.out; simp only at h; omega)).trans (Kept.setCell _ _ _ (fun h => by have := HZ.out; simp only at h; omega))) (fun _ _ h => h))
                replace HW0 := Lib.hid (show Below W11.heap.size W11 W17 by rw [← hWn]; exact ((HW0.out.setCell (p := ⟨r1, 0, none⟩) (by have := HZ.out; simp only; omega) _).setCell (p := ⟨r1, 1, none⟩) (by have := HZ.out; simp only; omega) _))
                replace HR1 := Lib.hid (show At2 W17 r1 (.slice s3 m c3) (ua) by rw [← hWn]; exact At2.put2 HR1.out _ _)
                replace HR2 := Lib.hid (show At3 W17 r2 (.slice none 0 0) (.slice none 0 0) (.int .i64 0) by rw [← hWn]; exact ((HR2.out.grown (grown_setCell _ ⟨r1, 0, none⟩ _) (by have := HZ.out; simp; omega)).grown (grown_setCell _ ⟨r1, 1, none⟩ _) (by have := HZ.out; simp; omega)))
                replace HA := Lib.hid (show At3 W17 w.heap.size (.slice so m sc) (.slice io n ic) (.int .i64 f) by rw [← hWn]; exact ((HA.out.grown (grown_setCell _ ⟨r1, 0, none⟩ _) (by have := HZ.out; have := HLTW.out; simp; omega)).grown (grown_setCell _ ⟨r1, 1, none⟩ _) (by have := HZ.out; have := HLTW.out; simp; omega)))
                clear hWn
                refine hK.out _ _ ?_ (fun hHeld => ?_)
                · exact ⟨HA.out.2.1, HA.out.2.2.1, HA.out.2.2.2.1⟩
                clear hK K
                refine wpAnyH_ready (rs := [7]) (by kernel_rfl) (by simp) ?_
                refine AllReadyH.cons (o := _) rfl (fun K hK => ?_) ?_
                · clear hHeld
                  have s0 := HR2.out.2.1
                  have tt0 := HR2.out.2.2.2.2 0
                  have s1 := HR2.out.2.2.1
                  have tt1 := HR2.out.2.2.2.2 1
                  have s2 := HR2.out.2.2.2.1
                  have tt2 := HR2.out.2.2.2.2 2
                  go_simp
                  clear s0 tt0 s1 tt1 s2 tt2
                  obtain ⟨W18, hWn⟩ : ∃ xw9, (((W17.setCell ⟨r2, 0, none⟩ (.slice t1 m k1)).setCell ⟨r2, 1, none⟩ (.slice t2 n k2)).setCell ⟨r2, 2, none⟩ (.int .i64 f)) = xw9 := ⟨_, rfl⟩
                  rw [hWn]
                  replace HX := Lib.hid (show IsArr W18 _ (.slice s3 m c3) ua A by rw [← hWn]; exact HX.out.keep (((Kept.setCell _ _ _ (fun h => by have := HZ.out; simp only at h; omega)).trans (Kept.setCell _ _ _ (fun h => by have := HZ.out; simp only at h; omega))).trans (Kept.setCell _ _ _ (fun h => by have := HZ.out; simp only at h; omega))) (fun _ _ h => h))
                  replace HY := Lib.hid (show IsP W18 _ (.agg #[.slice t1 m k1, .slice t2 n k2, .int .i64 f]) TP by rw [← hWn]; exact HY.out.keep (((Kept.setCell _ _ _ (fun h => by have := HZ.out; simp only at h; omega)).trans (Kept.setCell _ _ _ (fun h => by have := HZ.out; simp only at h; omega))).trans (Kept.setCell _ _ _ (fun h => by have := HZ.out; simp only at h; omega))) (fun _ _ h => h))
                  replace HYI := Lib.hid (show Its W18 _ (.slice t2 n k2) TP.l by rw [← hWn]; exact HYI.out.keep (((Kept.setCell _ _ _ (fun h => by have := HZ.out; simp only at h; omega)).trans (Kept.setCell _ _ _ (fun h => by have := HZ.out; simp only at h; omega))).trans (Kept.setCell _ _ _ (fun h => by have := HZ.out; simp only at h; omega))) (fun _ _ h => h))
                  replace HW0 := Lib.hid (show Below W11.heap.size W11 W18 by rw [← hWn]; exact (((HW0.out.setCell (p := ⟨r2, 0, none⟩) (by have := HZ.out; simp only; omega) _).setCell (p := ⟨r2, 1, none⟩) (by have := HZ.out; simp only; omega) _).setCell (p := ⟨r2, 2, none⟩) (by have := HZ.out; simp only; omega) _))
                  replace HR2 := Lib.hid (show At3 W18 r2 (.slice t1 m k1) (.slice t2 n k2) (.int .i64 f) by rw [← hWn]; exact At3.put3 HR2.out _ _ _)
                  replace HR1 := Lib.hid (show At2 W18 r1 (.slice s3 m c3) (ua) by rw [← hWn]; exact (((HR1.out.grown (grown_setCell _ ⟨r2, 0, none⟩ _) (by have := HZ.out; simp; omega)).grown (grown_setCell _ ⟨r2, 1, none⟩ _) (by have := HZ.out; simp; omega)).grown (grown_setCell _ ⟨r2, 2, none⟩ _) (by have := HZ.out; simp; omega)))
                  replace HA := Lib.hid (show At3 W18 w.heap.size (.slice so m sc) (.slice io n ic) (.int .i64 f) by rw [← hWn]; exact (((HA.out.grown (grown_setCell _ ⟨r2, 0, none⟩ _) (by have := HZ.out; have := HLTW.out; simp; omega)).grown (grown_setCell _ ⟨r2, 1, none⟩ _) (by have := HZ.out; have := HLTW.out; simp; omega)).grown (grown_setCell _ ⟨r2, 2, none⟩ _) (by have := HZ.out; have := HLTW.out; simp; omega)))
                  clear hWn
                  refine hK.out _ _ ?_ (fun hHeld => ?_)
                  · exact ⟨HA.out.2.1, HA.out.2.2.1, HA.out.2.2.2.1⟩
                  clear hK K
                  refine wpAnyH_done (by kernel_rfl) ?_ _
                  clear hHeld
                  exact ⟨rfl, s3, t1, t2, c3, k1, k2, ua, r1, r2, rfl, HR1.out, HR2.out, HX.out.wide (fun _ _ _ => trivial), HY.out.wide (fun _ _ _ => trivial), HYI.out.wide (fun _ _ _ => trivial), HW0.out⟩
                exact AllReadyH.nil
              exact AllReadyH.nil
            exact AllReadyH.nil
          exact AllReadyH.nil
        refine AllReadyH.cons (o := _) rfl (fun K hK => ?_) ?_
        · clear hHeld
          go_simp
          obtain ⟨W14, hWn⟩ : ∃ xw9, W13.alloc (.cells #[.slice none 0 0, .slice none 0 0, .int .i64 0] 25) = xw9 := ⟨_, rfl⟩
          have hB : Below W13.heap.size W13 W14 := by rw [← hWn]; exact below_new _ _
          have hNB : At3 W14 W13.heap.size (.slice none 0 0) (.slice none 0 0) (.int .i64 0) := by rw [← hWn]; exact At3.new _ _ _ _ _
          rw [hWn]
          clear hWn
          obtain ⟨r2, hnm⟩ : ∃ x, W13.heap.size = x := ⟨_, rfl⟩
          rw [hnm] at hNB ⊢
          replace HZ := Lib.hid (And.intro HZ.out (And.intro hnm hNB.1))
          replace HA := Lib.hid (HA.out.below hB)
          replace HI := Lib.hid (HI.out.grow hB)
          replace HT := Lib.hid (fun j hj => keep_below hB _ _ (HT.out j hj))
          replace HW0 := Lib.hid (HW0.out.trans (hB.mono HW0.out.size))
          replace HR1 := Lib.hid (HR1.out.below hB)
          have HR2 := Lib.hid hNB
          clear hNB hB hnm
          refine hK.out _ _ ?_ (fun hHeld => ?_)
          · exact ⟨HA.out.2.1, HA.out.2.2.1, HA.out.2.2.2.1⟩
          clear hK K
          refine wpAnyH_ready (rs := [1]) (by kernel_rfl) (by simp) ?_
          refine AllReadyH.cons (o := _) rfl (fun K hK => ?_) ?_
          · clear hHeld
            go_simp
            refine (lof_calls _ p _ nd _ HLO.out HI.out HT.out HC.out.1).mono ?_
            rintro e W15 ⟨s3, c3, ua, rfl, hOR, hB⟩
            replace HZ := Lib.hid (And.intro HZ.out hB.size)
            replace HA := Lib.hid (HA.out.below hB)
            replace HI := Lib.hid (HI.out.grow hB)
            replace HT := Lib.hid (fun j hj => keep_below hB _ _ (HT.out j hj))
            replace HW0 := Lib.hid (HW0.out.trans (hB.mono HW0.out.size))
            replace HR1 := Lib.hid (HR1.out.below hB)
            replace HR2 := Lib.hid (HR2.out.below hB)
            rw [HAA.out, HAM.out] at hOR ⊢
            have HX := Lib.hid (show IsArr W15 (fun b => W14.heap.size ≤ b ∧ b < W15.heap.size) (.slice s3 m c3) ua A from hOR.wide (fun b h1 h2 => ⟨h2, h1⟩))
            have hsua := hOR.2.store
            clear hOR
            clear hB
            refine hK.out _ _ ?_ (fun hHeld => ?_)
            · exact ⟨HA.out.2.1, HA.out.2.2.1, HA.out.2.2.2.1⟩
            clear hK K
            refine wpAnyH_ready (rs := [3]) (by kernel_rfl) (by simp) ?_
            refine AllReadyH.cons (o := _) rfl (fun K hK => ?_) ?_
            · clear hHeld
              go_simp
              refine (ptidy_calls 40 _ p _ _ HC.out.1 HI.out).mono ?_
              rintro e W16 ⟨ut, rfl, hut, hB⟩
              replace HZ := Lib.hid (And.intro HZ.out hB.size)
              replace HA := Lib.hid (HA.out.below hB)
              replace HI := Lib.hid (HI.out.grow hB)
              replace HT := Lib.hid (fun j hj => keep_below hB _ _ (HT.out j hj))
              replace HW0 := Lib.hid (HW0.out.trans (hB.mono HW0.out.size))
              replace HR1 := Lib.hid (HR1.out.below hB)
              replace HR2 := Lib.hid (HR2.out.below hB)
              replace HX := Lib.hid (HX.out.grow hB)
              rw [HTP.out] at hut
              obtain ⟨t1, k1, t2, k2, rfl, _, hti⟩ := hut.opened
              rw [HTL.out] at hti
              rw [HTS.out, HTL.out, HTF.out] at hut ⊢
              have HY := Lib.hid hut.lt
              have HYI := Lib.hid hti.lt
              clear hut hti
              clear hB
              refine hK.out _ _ ?_ (fun hHeld => ?_)
              · exact ⟨HA.out.2.1, HA.out.2.2.1, HA.out.2.2.2.1⟩
              clear hK K
              refine wpAnyH_ready (rs := [6]) (by kernel_rfl) (by simp) ?_
              refine AllReadyH.cons (o := _) rfl (fun K hK => ?_) ?_
              · clear hHeld
                have s0 := HR1.out.2.1
                have tt0 := HR1.out.2.2.2 0
                have s1 := HR1.out.2.2.1
                have tt1 := HR1.out.2.2.2 1
                go_simp
                clear s0 tt0 s1 tt1
                obtain ⟨W17, hWn⟩ : ∃ xw9, ((W16.setCell ⟨r1, 0, none⟩ (.slice s3 m c3)).setCell ⟨r1, 1, none⟩ (ua)) = xw9 := ⟨_, rfl⟩
                rw [hWn]
                replace HX := Lib.hid (show IsArr W17 _ (.slice s3 m c3) ua A by rw [← hWn]; exact HX.out.keep ((Kept.setCell _ _ _ (fun h => by have := HZ.out; simp only at h; omega)).trans (Kept.setCell _ _ _ (fun h => by have := HZ.out; simp only at h; omega))) (fun _ _ h => h))
                replace HY := Lib.hid (show IsP W17 _ (.agg #[.slice t1 m k1, .slice t2 n k2, .int .i64 f]) TP by rw [← hWn]; exact HY.out.keep ((Kept.setCell _ _ _ (fun h => by have := HZ.out; simp only at h; omega)).trans (Kept.setCell _ _ _ (fun h => by have := HZ.out; simp only at h; omega))) (fun _ _ h => h))
                replace HYI := Lib.hid (show Its W17 _ (.slice t2 n k2) TP.l by rw [← hWn]; exact HYI.out.keep ((Kept.setCell _ _ _ (fun h => by have := HZ.out; simp only at h; omega)).trans (Kept.setCell _ _ _ (fun h => by have := HZ.out; simp only at h; omega))) (fun _ _ h => h))
                replace HW0 := Lib.hid (show Below W11.heap.size W11 W17 by rw [← hWn]; exact ((HW0.out.setCell (p := ⟨r1, 0, none⟩) (by have := HZ.out; simp only; omega) _).setCell (p := ⟨r1, 1, none⟩) (by have := HZ.out; simp only; omega) _))
                replace HR1 := Lib.hid (show At2 W17 r1 (.slice s3 m c3) (ua) by rw [← hWn]; exact At2.put2 HR1.out _ _)
                replace HR2 := Lib.hid (show At3 W17 r2 (.slice none 0 0) (.slice none 0 0) (.int .i64 0) by rw [← hWn]; exact ((HR2.out.grown (grown_setCell _ ⟨r1, 0, none⟩ _) (by have := HZ.out; simp; omega)).grown (grown_setCell _ ⟨r1, 1, none⟩ _) (by have := HZ.out; simp; omega)))
                replace HA := Lib.hid (show At3 W17 w.heap.size (.slice so m sc) (.slice io n ic) (.int .i64 f) by rw [← hWn]; exact ((HA.out.grown (grown_setCell _ ⟨r1, 0, none⟩ _) (by have := HZ.out; have := HLTW.out; simp; omega)).grown (grown_setCell _ ⟨r1, 1, none⟩ _) (by have := HZ.out; have := HLTW.out; simp; omega)))
                clear hWn
                refine hK.out _ _ ?_ (fun hHeld => ?_)
                · exact ⟨HA.out.2.1, HA.out.2.2.1, HA.out.2.2.2.1⟩
                clear hK K
                refine wpAnyH_ready (rs := [7]) (by kernel_rfl) (by simp) ?_
                refine AllReadyH.cons (o := _) rfl (fun K hK => ?_) ?_
                · clear hHeld
                  have s0 := HR2.out.2.1
                  have tt0 := HR2.out.2.2.2.2 0
                  have s1 := HR2.out.2.2.1
                  have tt1 := HR2.out.2.2.2.2 1
                  have s2 := HR2.out.2.2.2.1
                  have tt2 := HR2.out.2.2.2.2 2
                  go_simp
                  clear s0 tt0 s1 tt1 s2 tt2
                  obtain ⟨W18, hWn⟩ : ∃ xw9, (((W17.setCell ⟨r2, 0, none⟩ (.slice t1 m k1)).setCell ⟨r2, 1, none⟩ (.slice t2 n k2)).setCell ⟨r2, 2, none⟩ (.int .i64 f)) = xw9 := ⟨_, rfl⟩
                  rw [hWn]
                  replace HX := Lib.hid (show IsArr W18 _ (.slice s3 m c3) ua A by rw [← hWn]; exact HX.out.keep (((Kept.setCell _ _ _ (fun h => by have := HZ.out; simp only at h; omega)).trans (Kept.setCell _ _ _ (fun h => by have := HZ.out; simp only at h; omega))).trans (Kept.setCell _ _ _ (fun h => by have := HZ.out; simp only at h; omega))) (fun _ _ h => h))
                  replace HY := Lib.hid (show IsP W18 _ (.agg #[.slice t1 m k1, .slice t2 n k2, .int .i64 f]) TP by rw [← hWn]; exact HY.out.keep (((Kept.setCell _ _ _ (fun h => by have := HZ.out; simp only at h; omega)).trans (Kept.setCell _ _ _ (fun h => by have := HZ.out; simp only at h; omega))).trans (Kept.setCell _ _ _ (fun h => by have := HZ.out; simp only at h; omega))) (fun _ _ h => h))
                  replace HYI := Lib.hid (show Its W18 _ (.slice t2 n k2) TP.l by rw [← hWn]; exact HYI.out.keep (((Kept.setCell _ _ _ (fun h => by have := HZ.out; simp only at h; omega)).trans (Kept.setCell _ _ _ (fun h => by have := HZ.out; simp only at h; omega))).trans (Kept.setCell _ _ _ (fun h => by have := HZ.out; simp only at h; omega))) (fun _ _ h => h))
                  replace HW0 := Lib.hid (show Below W11.heap.size W11 W18 by rw [← hWn]; exact (((HW0.out.setCell (p := ⟨r2, 0, none⟩) (by have := HZ.out; simp only; omega) _).setCell (p := ⟨r2, 1, none⟩) (by have := HZ.out; simp only; omega) _).setCell (p := ⟨r2, 2, none⟩) (by have := HZ.out; simp only; omega) _))
                  replace HR2 := Lib.hid (show At3 W18 r2 (.slice t1 m k1) (.slice t2 n k2) (.int .i64 f) by rw [← hWn]; exact At3.put3 HR2.out _ _ _)
                  replace HR1 := Lib.hid (show At2 W18 r1 (.slice s3 m c3) (ua) by rw [← hWn]; exact (((HR1.out.grown (grown_setCell _ ⟨r2, 0, none⟩ _) (by have := HZ.out; simp; omega)).grown (grown_setCell _ ⟨r2, 1, none⟩ _) (by have := HZ.out; simp; omega)).grown (grown_setCell _ ⟨r2, 2, none⟩ _) (by have := HZ.out; simp; omega)))
                  replace HA := Lib.hid (show At3 W18 w.heap.size (.slice so m sc) (.slice io n ic) (.int .i64 f) by rw [← hWn]; exact (((HA.out.grown (grown_setCell _ ⟨r2, 0, none⟩ _) (by have := HZ.out; have := HLTW.out; simp; omega)).grown (grown_setCell _ ⟨r2, 1, none⟩ _) (by have := HZ.out; have := HLTW.out; simp; omega)).grown (grown_setCell _ ⟨r2, 2, none⟩ _) (by have := HZ.out; have := HLTW.out; simp; omega)))
                  clear hWn
                  refine hK.out _ _ ?_ (fun hHeld => ?_)
                  · exact ⟨HA.out.2.1, HA.out.2.2.1, HA.out.2.2.2.1⟩
                  clear hK K
                  refine wpAnyH_done (by kernel_rfl) ?_ _
                  clear hHeld
                  exact ⟨rfl, s3, t1, t2, c3, k1, k2, ua, r1, r2, rfl, HR1.out, HR2.out, HX.out.wide (fun _ _ _ => trivial), HY.out.wide (fun _ _ _ => trivial), HYI.out.wide (fun _ _ _ => trivial), HW0.out⟩
                exact AllReadyH.nil
              exact AllReadyH.nil
            exact AllReadyH.nil
          exact AllReadyH.nil
        exact AllReadyH.nil
      refine AllReadyH.cons (o := _) rfl (fun K hK => ?_) ?_
      · clear hHeld
        go_simp
        obtain ⟨W13, hWn⟩ : ∃ xw9, W12.alloc (.cells #[.slice none 0 0, .slice none 0 0, .int .i64 0] 25) = xw9 := ⟨_, rfl⟩
        have hB : Below W12.heap.size W12 W13 := by rw [← hWn]; exact below_new _ _
        have hNB : At3 W13 W12.heap.size (.slice none 0 0) (.slice none 0 0) (.int .i64 0) := by rw [← hWn]; exact At3.new _ _ _ _ _
        rw [hWn]
        clear hWn
        obtain ⟨r2, hnm⟩ : ∃ x, W12.heap.size = x := ⟨_, rfl⟩
        rw [hnm] at hNB ⊢
        replace HZ := Lib.hid (And.intro HZ.out (And.intro hnm hNB.1))
        replace HA := Lib.hid (HA.out.below hB)
        replace HI := Lib.hid (HI.out.grow hB)
        replace HT := Lib.hid (fun j hj => keep_below hB _ _ (HT.out j hj))
        replace HW0 := Lib.hid (HW0.out.trans (hB.mono HW0.out.size))
        have HR2 := Lib.hid hNB
        clear hNB hB hnm
        refine hK.out _ _ ?_ (fun hHeld => ?_)
        · exact ⟨HA.out.2.1, HA.out.2.2.1, HA.out.2.2.2.1⟩
        clear hK K
        refine wpAnyH_ready (rs := [1, 4]) (by kernel_rfl) (by simp) ?_
        refine AllReadyH.cons (o := _) rfl (fun K hK => ?_) ?_
        · clear hHeld
          go_simp
          refine (lof_calls _ p _ nd _ HLO.out HI.out HT.out HC.out.1).mono ?_
          rintro e W14 ⟨s3, c3, ua, rfl, hOR, hB⟩
          replace HZ := Lib.hid (And.intro HZ.out hB.size)
          replace HA := Lib.hid (HA.out.below hB)
          replace HI := Lib.hid (HI.out.grow hB)
          replace HT := Lib.hid (fun j hj => keep_below hB _ _ (HT.out j hj))
          replace HW0 := Lib.hid (HW0.out.trans (hB.mono HW0.out.size))
          replace HR2 := Lib.hid (HR2.out.below hB)
          rw [HAA.out, HAM.out] at hOR ⊢
          have HX := Lib.hid (show IsArr W14 (fun b => W13.heap.size ≤ b ∧ b < W14.heap.size) (.slice s3 m c3) ua A from hOR.wide (fun b h1 h2 => ⟨h2, h1⟩))
          have hsua := hOR.2.store
          clear hOR
          clear hB
          refine hK.out _ _ ?_ (fun hHeld => ?_)
          · exact ⟨HA.out.2.1, HA.out.2.2.1, HA.out.2.2.2.1⟩
          clear hK K
          refine wpAnyH_ready (rs := [3, 4]) (by kernel_rfl) (by simp) ?_
          refine AllReadyH.cons (o := _) rfl (fun K hK => ?_) ?_
          · clear hHeld
            go_simp
            refine (ptidy_calls 40 _ p _ _ HC.out.1 HI.out).mono ?_
            rintro e W15 ⟨ut, rfl, hut, hB⟩
            replace HZ := Lib.hid (And.intro HZ.out hB.size)
            replace HA := Lib.hid (HA.out.below hB)
            replace HI := Lib.hid (HI.out.grow hB)
            replace HT := Lib.hid (fun j hj => keep_below hB _ _ (HT.out j hj))
            replace HW0 := Lib.hid (HW0.out.trans (hB.mono HW0.out.size))
            replace HR2 := Lib.hid (HR2.out.below hB)
            replace HX := Lib.hid (HX.out.grow hB)
            rw [HTP.out] at hut
            obtain ⟨t1, k1, t2, k2, rfl, _, hti⟩ := hut.opened
            rw [HTL.out] at hti
            rw [HTS.out, HTL.out, HTF.out] at hut ⊢
            have HY := Lib.hid hut.lt
            have HYI := Lib.hid hti.lt
            clear hut hti
            clear hB
            refine hK.out _ _ ?_ (fun hHeld => ?_)
            · exact ⟨HA.out.2.1, HA.out.2.2.1, HA.out.2.2.2.1⟩
            clear hK K
            refine wpAnyH_ready (rs := [4]) (by kernel_rfl) (by simp) ?_
            refine AllReadyH.cons (o := _) rfl (fun K hK => ?_) ?_
            · clear hHeld
              go_simp
              obtain ⟨W16, hWn⟩ : ∃ xw9, W15.alloc (.cells #[.slice none 0 0, .nilIface] 31) = xw9 := ⟨_, rfl⟩
              have hB : Below W15.heap.size W15 W16 := by rw [← hWn]; exact below_new _ _
              have hNB : At2 W16 W15.heap.size (.slice none 0 0) (.nilIface) := by rw [← hWn]; exact At2.new _ _ _ _
              rw [hWn]
              clear hWn
              obtain ⟨r1, hnm⟩ : ∃ x, W15.heap.size = x := ⟨_, rfl⟩
              rw [hnm] at hNB ⊢
              replace HZ := Lib.hid (And.intro HZ.out (And.intro hnm hNB.1))
              replace HA := Lib.hid (HA.out.below hB)
              replace HI := Lib.hid (HI.out.grow hB)
              replace HT := Lib.hid (fun j hj => keep_below hB _ _ (HT.out j hj))
              replace HW0 := Lib.hid (HW0.out.trans (hB.mono HW0.out.size))
              replace HR2 := Lib.hid (HR2.out.below hB)
              replace HX := Lib.hid (HX.out.grow hB)
              replace HY := Lib.hid (HY.out.grow hB)
              replace HYI := Lib.hid (HYI.out.grow hB)
              have HR1 := Lib.hid hNB
              clear hNB hB hnm
              refine hK.out _ _ ?_ (fun hHeld => ?_)
              · exact ⟨HA.out.2.1, HA.out.2.2.1, HA.out.2.2.2.1⟩
              clear hK K
              refine wpAnyH_ready (rs := [6]) (by kernel_rfl) (by simp) ?_
              refine AllReadyH.cons (o := _) rfl (fun K hK => ?_) ?_
              · clear hHeld
                have s0 := HR1.out.2.1
                have tt0 := HR1.out.2.2.2 0
                have s1 := HR1.out.2.2.1
                have tt1 := HR1.out.2.2.2 1
                go_simp
                clear s0 tt0 s1 tt1
                obtain ⟨W17, hWn⟩ : ∃ xw9, ((W16.setCell ⟨r1, 0, none⟩ (.slice s3 m c3)).setCell ⟨r1, 1, none⟩ (ua)) = xw9 := ⟨_, rfl⟩
                rw [hWn]
                replace HX := Lib.hid (show IsArr W17 _ (.slice s3 m c3) ua A by rw [← hWn]; exact HX.out.keep ((Kept.setCell _ _ _ (fun h => by have := HZ.out; simp only at h; omega)).trans (Kept.setCell _ _ _ (fun h => by have := HZ.out; simp only at h; omega))) (fun _ _ h => h))
                replace HY := Lib.hid (show IsP W17 _ (.agg #[.slice t1 m k1, .slice t2 n k2, .int .i64 f]) TP by rw [← hWn]; exact HY.out.keep ((Kept.setCell _ _ _ (fun h => by have := HZ.out; simp only at h; omega)).trans (Kept.setCell _ _ _ (fun h => by have := HZ.out; simp only at h; omega))) (fun _ _ h => h))
                replace HYI := Lib.hid (show Its W17 _ (.slice t2 n k2) TP.l by rw [← hWn]; exact HYI.out.keep ((Kept.setCell _ _ _ (fun h => by have := HZ.out; simp only at h; omega)).trans (Kept.setCell _ _ _ (fun h => by have := HZ.out; simp only at h; omega))) (fun _ _ h => h))
                replace HW0 := Lib.hid (show Below W11.heap.size W11 W17 by rw [← hWn]; exact ((HW0.out.setCell (p := ⟨r1, 0, none⟩) (by have := HZ.out; simp only; omega) _).setCell (p := ⟨r1, 1, none⟩) (by have := HZ.out; simp only; omega) _))
                replace HR1 := Lib.hid (show At2 W17 r1 (.slice s3 m c3) (ua) by rw [← hWn]; exact At2.put2 HR1.out _ _)
                replace HR2 := Lib.hid (show At3 W17 r2 (.slice none 0 0) (.slice none 0 0) (.int .i64 0) by rw [← hWn]; exact ((HR2.out.grown (grown_setCell _ ⟨r1, 0, none⟩ _) (by have := HZ.out; simp; omega)).grown (grown_setCell _ ⟨r1, 1, none⟩ _) (by have := HZ.out; simp; omega)))
                replace HA := Lib.hid (show At3 W17 w.heap.size (.slice so m sc) (.slice io n ic) (.int .i64 f) by rw [← hWn]; exact ((HA.out.grown (grown_setCell _ ⟨r1, 0, none⟩ _) (by have := HZ.out; have := HLTW.out; simp; omega)).grown (grown_setCell _ ⟨r1, 1, none⟩ _) (by have := HZ.out; have := HLTW.out; simp; omega)))
                clear hWn
                refine hK.out _ _ ?_ (fun hHeld => ?_)
                · exact ⟨HA.out.2.1, HA.out.2.2.1, HA.out.2.2.2.1⟩
                clear hK K
                refine wpAnyH_ready (rs := [7]) (by kernel_rfl) (by simp) ?_
                refine AllReadyH.cons (o := _) rfl (fun K hK => ?_) ?_
                · clear hHeld
                  have s0 := HR2.out.2.1
                  have tt0 := HR2.out.2.2.2.2 0
                  have s1 := HR2.out.2.2.1
                  have tt1 := HR2.out.2.2.2.2 1
                  have s2 := HR2.out.2.2.2.1
                  have tt2 := HR2.out.2.2.2.2 2
                  go_simp
                  clear s0 tt0 s1 tt1 s2 tt2
                  obtain ⟨W18, hWn⟩ : ∃ xw9, (((W17.setCell ⟨r2, 0, none⟩ (.slice t1 m k1)).setCell ⟨r2, 1, none⟩ (.slice t2 n k2)).setCell ⟨r2, 2, none⟩ (.int .i64 f)) = xw9 := ⟨_, rfl⟩
                  rw [hWn]
                  replace HX := Lib.hid (show IsArr W18 _ (.slice s3 m c3) ua A by rw [← hWn]; exact HX.out.keep (((Kept.setCell _ _ _ (fun h => by have := HZ.out; simp only at h; omega)).trans (Kept.setCell _ _ _ (fun h => by have := HZ.out; simp only at h; omega))).trans (Kept.setCell _ _ _ (fun h => by have := HZ.out; simp only at h; omega))) (fun _ _ h => h))
                  replace HY := Lib.hid (show IsP W18 _ (.agg #[.slice t1 m k1, .slice t2 n k2, .int .i64 f]) TP by rw [← hWn]; exact HY.out.keep (((Kept.setCell _ _ _ (fun h => by have := HZ.out; simp only at h; omega)).trans (Kept.setCell _ _ _ (fun h => by have := HZ.out; simp only at h; omega))).trans (Kept.setCell _ _ _ (fun h => by have := HZ.out; simp only at h; omega))) (fun _ _ h => h))
                  replace HYI := Lib.hid (show Its W18 _ (.slice t2 n k2) TP.l by rw [← hWn]; exact HYI.out.keep (((Kept.setCell _ _ _ (fun h => by have := HZ.out; simp only at h; omega)).trans (Kept.setCell _ _ _ (fun h => by have := HZ.out; simp only at h; omega))).trans (Kept.setCell _ _ _ (fun h => by have := HZ.out; simp only at h; omega))) (fun _ _ h => h))
                  replace HW0 := Lib.hid (show Below W11.heap.size W11 W18 by rw [← hWn]; exact (((HW0.out.setCell (p := ⟨r2, 0, none⟩) (by have := HZ.out; simp only; omega) _).setCell (p := ⟨r2, 1, none⟩) (by have := HZ.out; simp only; omega) _).setCell (p := ⟨r2, 2, none⟩) (by have := HZ.out; simp only; omega) _))
                  replace HR2 := Lib.hid (show At3 W18 r2 (.slice t1 m k1) (.slice t2 n k2) (.int .i64 f) by rw [← hWn]; exact At3.put3 HR2.out _ _ _)
                  replace HR1 := Lib.hid (show At2 W18 r1 (.slice s3 m c3) (ua) by rw [← hWn]; exact (((HR1.out.grown (grown_setCell _ ⟨r2, 0, none⟩ _) (by have := HZ.out; simp; omega)).grown (grown_setCell _ ⟨r2, 1, none⟩ _) (by have := HZ.out; simp; omega)).grown (grown_setCell _ ⟨r2, 2, none⟩ _) (by have := HZ.out; simp; omega)))
                  replace HA := Lib.hid (show At3 W18 w.heap.size (.slice so m sc) (.slice io n ic) (.int .i64 f) by rw [← hWn]; exact (((HA.out.grown (grown_setCell _ ⟨r2, 0, none⟩ _) (by have := HZ.out; have := HLTW.out; simp; omega)).grown (grown_setCell _ ⟨r2, 1, none⟩ _) (by have := HZ.out; have := HLTW.out; simp; omega)).grown (grown_setCell _ ⟨r2, 2, none⟩ _) (by have := HZ.out; have := HLTW.out; simp; omega)))
                  clear hWn
                  refine hK.out _ _ ?_ (fun hHeld => ?_)
                  · exact ⟨HA.out.2.1, HA.out.2.2.1, HA.out.2.2.2.1⟩
                  clear hK K
                  refine wpAnyH_done (by kernel_rfl) ?_ _
                  clear hHeld
                  exact ⟨rfl, s3, t1, t2, c3, k1, k2, ua, r1, r2, rfl, HR1.out, HR2.out, HX.out.wide (fun _ _ _ => trivial), HY.out.wide (fun _ _ _ => trivial), HYI.out.wide (fun _ _ _ => trivial), HW0.out⟩
                exact AllReadyH.nil
              exact AllReadyH.nil
            exact AllReadyH.nil
          refine AllReadyH.cons (o := _) rfl (fun K hK => ?_) ?_
          · clear hHeld
            go_simp
            obtain ⟨W15, hWn⟩ : ∃ xw9, W14.alloc (.cells #[.slice none 0 0, .nilIface] 31) = xw9 := ⟨_, rfl⟩
            have hB : Below W14.heap.size W14 W15 := by rw [← hWn]; exact below_new _ _
            have hNB : At2 W15 W14.heap.size (.slice none 0 0) (.nilIface) := by rw [← hWn]; exact At2.new _ _ _ _
            rw [hWn]
            clear hWn
            obtain ⟨r1, hnm⟩ : ∃ x, W14.heap.size = x := ⟨_, rfl⟩
            rw [hnm] at hNB ⊢
            replace HZ := Lib.hid (And.intro HZ.out (And.intro hnm hNB.1))
            replace HA := Lib.hid (HA.out.below hB)
            replace HI := Lib.hid (HI.out.grow hB)
            replace HT := Lib.hid (fun j hj => keep_below hB _ _ (HT.out j hj))
            replace HW0 := Lib.hid (HW0.out.trans (hB.mono HW0.out.size))
            replace HR2 := Lib.hid (HR2.out.below hB)
            replace HX := Lib.hid (HX.out.grow hB)
            have HR1 := Lib.hid hNB
            clear hNB hB hnm
            refine hK.out _ _ ?_ (fun hHeld => ?_)
            · exact ⟨HA.out.2.1, HA.out.2.2.1, HA.out.2.2.2.1⟩
            clear hK K
            refine wpAnyH_ready (rs := [3]) (by kernel_rfl) (by simp) ?_
            refine AllReadyH.cons (o := _) rfl (fun K hK => ?_) ?_
            · clear hHeld
              go_simp
              refine (ptidy_calls 40 _ p _ _ HC.out.1 HI.out).mono ?_
              rintro e W16 ⟨ut, rfl, hut, hB⟩
              replace HZ := Lib.hid (And.intro HZ.out hB.size)
              replace HA := Lib.hid (HA.out.below hB)
              replace HI := Lib.hid (HI.out.grow hB)
              replace HT := Lib.hid (fun j hj => keep_below hB _ _ (HT.out j hj))
              replace HW0 := Lib.hid (HW0.out.trans (hB.mono HW0.out.size))
              replace HR2 := Lib.hid (HR2.out.below hB)
              replace HX := Lib.hid (HX.out.grow hB)
              replace HR1 := Lib.hid (HR1.out.below hB)
              rw [HTP.out] at hut
              obtain ⟨t1, k1, t2, k2, rfl, _, hti⟩ := hut.opened
              rw [HTL.out] at hti
              rw [HTS.out, HTL.out, HTF.out] at hut ⊢
              have HY := Lib.hid hut.lt
              have HYI := Lib.hid hti.lt
              clear hut hti
              clear hB
              refine hK.out _ _ ?_ (fun hHeld => ?_)
              · exact ⟨HA.out.2.1, HA.out.2.2.1, HA.out.2.2.2.1⟩
              clear hK K
              refine wpAnyH_ready (rs := [6]) (by kernel_rfl) (by simp) ?_
              refine AllReadyH.cons (o := _) rfl (fun K hK => ?_) ?_
              · clear hHeld
                have s0 := HR1.out.2.1
                have tt0 := HR1.out.2.2.2 0
                have s1 := HR1.out.2.2.1
                have tt1 := HR1.out.2.2.2 1
                go_simp
                clear s0 tt0 s1 tt1
                obtain ⟨W17, hWn⟩ : ∃ xw9, ((W16.setCell ⟨r1, 0, none⟩ (.slice s3 m c3)).setCell ⟨r1, 1, none⟩ (ua)) = xw9 := ⟨_, rfl⟩
                rw [hWn]
                replace HX := Lib.hid (show IsArr W17 _ (.slice s3 m c3) ua A by rw [← hWn]; exact HX.out.keep ((Kept.setCell _ _ _ (fun h => by have := HZ.out; simp only at h; omega)).trans (Kept.setCell _ _ _ (fun h => by have := HZ.out; simp only at h; omega))) (fun _ _ h => h))
                replace HY := Lib.hid (show IsP W17 _ (.agg #[.slice t1 m k1, .slice t2 n k2, .int .i64 f]) TP by rw [← hWn]; exact HY.out.keep ((Kept.setCell _ _ _ (fun h => by have := HZ.out; simp only at h; omega)).trans (Kept.setCell _ _ _ (fun h => by have := HZ.out; simp only at h; omega))) (fun _ _ h => h))
                replace HYI := Lib.hid (show Its W17 _ (.slice t2 n k2) TP.l by rw [← hWn]; exact HYI.out.keep ((Kept.setCell _ _ _ (fun h => by have := HZ.out; simp only at h; omega)).trans (Kept.setCell _ _ _ (fun h => by have := HZ.out; simp only at h; omega))) (fun _ _ h => h))
                replace HW0 := Lib.hid (show Below W11.heap.size W11 W17 by rw [← hWn]; exact ((HW0.out.setCell (p := ⟨r1, 0, none⟩) (by have := HZ.out; simp only; omega) _).setCell (p := ⟨r1, 1, none⟩) (by have := HZ.out; simp only; omega) _))
                replace HR1 := Lib.hid (show At2 W17 r1 (.slice s3 m c3) (ua) by rw [← hWn]; exact At2.put2 HR1.out _ _)
                replace HR2 := Lib.hid (show At3 W17 r2 (.slice none 0 0) (.slice none 0 0) (.int .i64 0) by rw [← hWn]; exact ((HR2.out.grown (grown_setCell _ ⟨r1, 0, none⟩ _) (by have := HZ.out; simp; omega)).grown (grown_setCell _ ⟨r1, 1, none⟩ _) (by have := HZ.out; simp; omega)))
                replace HA := Lib.hid (show At3 W17 w.heap.size (.slice so m sc) (.slice io n ic) (.int .i64 f) by rw [← hWn]; exact ((HA.out.grown (grown_setCell _ ⟨r1, 0, none⟩ _) (by have := HZ.out; have := HLTW.out; simp; omega)).grown (grown_setCell _ ⟨r1, 1, none⟩ _) (by have := HZ.out; have := HLTW.out; simp; omega)))
                clear hWn
                refine hK.out _ _ ?_ (fun hHeld => ?_)
                · exact ⟨HA.out.2.1, HA.out.2.2.1, HA.out.2.2.2.1⟩
                clear hK K
                refine wpAnyH_ready (rs := [7]) (by kernel_rfl) (by simp) ?_
                refine AllReadyH.cons (o := _) rfl (fun K hK => ?_) ?_
                · clear hHeld
                  have s0 := HR2.out.2.1
                  have tt0 := HR2.out.2.2.2.2 0
                  have s1 := HR2.out.2.2.1
                  have tt1 := HR2.out.2.2.2.2 1
                  have s2 := HR2.out.2.2.2.1
                  have tt2 := HR2.out.2.2.2.2 2
                  go_simp
                  clear s0 tt0 s1 tt1 s2 tt2
                  obtain ⟨W18, hWn⟩ : ∃ xw9, (((W17.setCell ⟨r2, 0, none⟩ (.slice t1 m k1)).setCell ⟨r2, 1, none⟩ (.slice t2 n k2)).setCell ⟨r2, 2, none⟩ (.int .i64 f)) = xw9 := ⟨_, rfl⟩
                  rw [hWn]
                  replace HX := Lib.hid (show IsArr W18 _ (.slice s3 m c3) ua A by rw [← hWn]; exact HX.out.keep (((Kept.setCell _ _ _ (fun h => by have := HZ.out; simp only at h; omega)).trans (Kept.setCell _ _ _ (fun h => by have := HZ.out; simp only at h; omega))).trans (Kept.setCell _ _ _ (fun h => by have := HZ.out; simp only at h; omega))) (fun _ _ h => h))
                  replace HY := Lib.hid (show IsP W18 _ (.agg #[.slice t1 m k1, .slice t2 n k2, .int .i64 f]) TP by rw [← hWn]; exact HY.out.keep (((Kept.setCell _ _ _ (fun h => by have := HZ.out; simp only at h; omega)).trans (Kept.setCell _ _ _ (fun h => by have := HZ.out; simp only at h; omega))).trans (Kept.setCell _ _ _ (fun h => by have := HZ.out; simp only at h; omega))) (fun _ _ h => h))
                  replace HYI := Lib.hid (show Its W18 _ (.slice t2 n k2) TP.l by rw [← hWn]; exact HYI.out.keep (((Kept.setCell _ _ _ (fun h => by have := HZ.out; simp only at h; omega)).trans (Kept.setCell _ _ _ (fun h => by have := HZ.out; simp only at h; omega))).trans (Kept.setCell _ _ _ (fun h => by have := HZ.out; simp only at h; omega))) (fun _ _ h => h))
                  replace HW0 := Lib.hid (show Below W11.heap.size W11 W18 by rw [← hWn]; exact (((HW0.out.setCell (p := ⟨r2, 0, none⟩) (by have := HZ.out; simp only; omega) _).setCell (p := ⟨r2, 1, none⟩) (by have := HZ.out; simp only; omega) _).setCell (p := ⟨r2, 2, none⟩) (by have := HZ.out; simp only; omega) _))
                  replace HR2 := Lib.hid (show At3 W18 r2 (.slice t1 m k1) (.slice t2 n k2) (.int .i64 f) by rw [← hWn]; exact At3.put3 HR2.out _ _ _)
                  replace HR1 := Lib.hid (show At2 W18 r1 (.slice s3 m c3) (ua) by rw [← hWn]; exact (((HR1.out.grown (grown_setCell _ ⟨r2, 0, none⟩ _) (by have := HZ.out; simp; omega)).grown (grown_setCell _ ⟨r2, 1, none⟩ _) (by have := HZ.out; simp; omega)).grown (grown_setCell _ ⟨r2, 2, none⟩ _) (by have := HZ.out; simp; omega)))
                  replace HA := Lib.hid (show At3 W18 w.heap.size (.slice so m sc) (.slice io n ic) (.int .i64 f) by rw [← hWn]; exact (((HA.out.grown (grown_setCell _ ⟨r2, 0, none⟩ _) (by have := HZ.out; have := HLTW.out; simp; omega)).grown (grown_setCell _ ⟨r2, 1, none⟩ _) (by have := HZ.out; have := HLTW.out; simp; omega)).grown (grown_setCell _ ⟨r2, 2, none⟩ _) (by have := HZ.out; have := HLTW.out; simp; omega)))
                  clear hWn
                  refine hK.out _ _ ?_ (fun hHeld => ?_)
                  · exact ⟨HA.out.2.1, HA.out.2.2.1, HA.out.2.2.2.1⟩
                  clear hK K
                  refine wpAnyH_done (by kernel_rfl) ?_ _
                  clear hHeld
                  exact ⟨rfl, s3, t1, t2, c3, k1, k2, ua, r1, r2, rfl, HR1.out, HR2.out, HX.out.wide (fun _ _ _ => trivial), HY.out.wide (fun _ _ _ => trivial), HYI.out.wide (fun _ _ _ => trivial), HW0.out⟩
                exact AllReadyH.nil
              exact AllReadyH.nil
            exact AllReadyH.nil
          exact AllReadyH.nil
        refine AllReadyH.cons (o := _) rfl (fun K hK => ?_) ?_
        · clear hHeld
          go_simp
          obtain ⟨W14, hWn⟩ : ∃ xw9, W13.alloc (.cells #[.slice none 0 0, .nilIface] 31) = xw9 := ⟨_, rfl⟩
          have hB : Below W13.heap.size W13 W14 := by rw [← hWn]; exact below_new _ _
          have hNB : At2 W14 W13.heap.size (.slice none 0 0) (.nilIface) := by rw [← hWn]; exact At2.new _ _ _ _
          rw [hWn]
          clear hWn
          obtain ⟨r1, hnm⟩ : ∃ x, W13.heap.size = x := ⟨_, rfl⟩
          rw [hnm] at hNB ⊢
          replace HZ := Lib.hid (And.intro HZ.out (And.intro hnm hNB.1))
          replace HA := Lib.hid (HA.out.below hB)
          replace HI := Lib.hid (HI.out.grow hB)
          replace HT := Lib.hid (fun j hj => keep_below hB _ _ (HT.out j hj))
          replace HW0 := Lib.hid (HW0.out.trans (hB.mono HW0.out.size))
          replace HR2 := Lib.hid (HR2.out.below hB)
          have HR1 := Lib.hid hNB
          clear hNB hB hnm
          refine hK.out _ _ ?_ (fun hHeld => ?_)
          · exact ⟨HA.out.2.1, HA.out.2.2.1, HA.out.2.2.2.1⟩
          clear hK K
          refine wpAnyH_ready (rs := [1]) (by kernel_rfl) (by simp) ?_
          refine AllReadyH.cons (o := _) rfl (fun K hK => ?_) ?_
          · clear hHeld
            go_simp
            refine (lof_calls _ p _ nd _ HLO.out HI.out HT.out HC.out.1).mono ?_
            rintro e W15 ⟨s3, c3, ua, rfl, hOR, hB⟩
            replace HZ := Lib.hid (And.intro HZ.out hB.size)
            replace HA := Lib.hid (HA.out.below hB)
            replace HI := Lib.hid (HI.out.grow hB)
            replace HT := Lib.hid (fun j hj => keep_below hB _ _ (HT.out j hj))
            replace HW0 := Lib.hid (HW0.out.trans (hB.mono HW0.out.size))
            replace HR2 := Lib.hid (HR2.out.below hB)
            replace HR1 := Lib.hid (HR1.out.below hB)
            rw [HAA.out, HAM.out] at hOR ⊢
            have HX := Lib.hid (show IsArr W15 (fun b => W14.heap.size ≤ b ∧ b < W15.heap.size) (.slice s3 m c3) ua A from hOR.wide (fun b h1 h2 => ⟨h2, h1⟩))
            have hsua := hOR.2.store
            clear hOR
            clear hB
            refine hK.out _ _ ?_ (fun hHeld => ?_)
            · exact ⟨HA.out.2.1, HA.out.2.2.1, HA.out.2.2.2.1⟩
            clear hK K
            refine wpAnyH_ready (rs := [3]) (by kernel_rfl) (by simp) ?_
            refine AllReadyH.cons (o := _) rfl (fun K hK => ?_) ?_
            · clear hHeld
              go_simp
              refine (ptidy_calls 40 _ p _ _ HC.out.1 HI.out).mono ?_
              rintro e W16 ⟨ut, rfl, hut, hB⟩
              replace HZ := Lib.hid (And.intro HZ.out hB.size)
              replace HA := Lib.hid (HA.out.below hB)
              replace HI := Lib.hid (HI.out.grow hB)
              replace HT := Lib.hid (fun j hj => keep_below hB _ _ (HT.out j hj))
              replace HW0 := Lib.hid (HW0.out.trans (hB.mono HW0.out.size))
              replace HR2 := Lib.hid (HR2.out.below hB)
              replace HR1 := Lib.hid (HR1.out.below hB)
              replace HX := Lib.hid (HX.out.grow hB)
              rw [HTP.out] at hut
              obtain ⟨t1, k1, t2, k2, rfl, _, hti⟩ := hut.opened
              rw [HTL.out] at hti
              rw [HTS.out, HTL.out, HTF.out] at hut ⊢
              have HY := Lib.hid hut.lt
              have HYI := Lib.hid hti.lt
              clear hut hti
              clear hB
              refine hK.out _ _ ?_ (fun hHeld => ?_)
              · exact ⟨HA.out.2.1, HA.out.2.2.1, HA.out.2.2.2.1⟩
              clear hK K
              refine wpAnyH_ready (rs := [6]) (by kernel_rfl) (by simp) ?_
              refine AllReadyH.cons (o := _) rfl (fun K hK => ?_) ?_
              · clear hHeld
                have s0 := HR1.out.2.1
                have tt0 := HR1.out.2.2.2 0
                have s1 := HR1.out.2.2.1
                have tt1 := HR1.out.2.2.2 1
                go_simp
                clear s0 tt0 s1 tt1
                obtain ⟨W17, hWn⟩ : ∃ xw9, ((W16.setCell ⟨r1, 0, none⟩ (.slice s3 m c3)).setCell ⟨r1, 1, none⟩ (ua)) = xw9 := ⟨_, rfl⟩
                rw [hWn]
                replace HX := Lib.hid (show IsArr W17 _ (.slice s3 m c3) ua A by rw [← hWn]; exact HX.out.keep ((Kept.setCell _ _ _ (fun h => by have := HZ.out; simp only at h; omega)).trans (Kept.setCell _ _ _ (fun h => by have := HZ.out; simp only at h; omega))) (fun _ _ h => h))
                replace HY := Lib.hid (show IsP W17 _ (.agg #[.slice t1 m k1, .slice t2 n k2, .int .i64 f]) TP by rw [← hWn]; exact HY.out.keep ((Kept.setCell _ _ _ (fun h => by have := HZ.out; simp only at h; omega)).trans (Kept.setCell _ _ _ (fun h => by have := HZ.out; simp only at h; omega))) (fun _ _ h => h))
                replace HYI := Lib.hid (show Its W17 _ (.slice t2 n k2) TP.l by rw [← hWn]; exact HYI.out.keep ((Kept.setCell _ _ _ (fun h => by have := HZ.out; simp only at h; omega)).trans (Kept.setCell _ _ _ (fun h => by have := HZ.out; simp only at h; omega))) (fun _ _ h => h))
                replace HW0 := Lib.hid (show Below W11.heap.size W11 W17 by rw [← hWn]; exact ((HW0.out.setCell (p := ⟨r1, 0, none⟩) (by have := HZ.out; simp only; omega) _).setCell (p := ⟨r1, 1, none⟩) (by have := HZ.out; simp only; omega) _))
                replace HR1 := Lib.hid (show At2 W17 r1 (.slice s3 m c3) (ua) by rw [← hWn]; exact At2.put2 HR1.out _ _)
                replace HR2 := Lib.hid (show At3 W17 r2 (.slice none 0 0) (.slice none 0 0) (.int .i64 0) by rw [← hWn]; exact ((HR2.out.grown (grown_setCell _ ⟨r1, 0, none⟩ _) (by have := HZ.out; simp; omega)).grown (grown_setCell _ ⟨r1, 1, none⟩ _) (by have := HZ.out; simp; omega)))
                replace HA := Lib.hid (show At3 W17 w.heap.size (.slice so m sc) (.slice io n ic) (.int .i64 f) by rw [← hWn]; exact ((HA.out.grown (grown_setCell _ ⟨r1, 0, none⟩ _) (by have := HZ.out; have := HLTW.out; simp; omega)).grown (grown_setCell _ ⟨r1, 1, none⟩ _) (by have := HZ.out; have := HLTW.out; simp; omega)))
                clear hWn
                refine hK.out _ _ ?_ (fun hHeld => ?_)
                · exact ⟨HA.out.2.1, HA.out.2.2.1, HA.out.2.2.2.1⟩
                clear hK K
                refine wpAnyH_ready (rs := [7]) (by kernel_rfl) (by simp) ?_
                refine AllReadyH.cons (o := _) rfl (fun K hK => ?_) ?_
                · clear hHeld
                  have s0 := HR2.out.2.1
                  have tt0 := HR2.out.2.2.2.2 0
                  have s1 := HR2.out.2.2.1
                  have tt1 := HR2.out.2.2.2.2 1
                  have s2 := HR2.out.2.2.2.1
                  have tt2 := HR2.out.2.2.2.2 2
                  go_simp
                  clear s0 tt0 s1 tt1 s2 tt2
                  obtain ⟨W18, hWn⟩ : ∃ xw9, (((W17.setCell ⟨r2, 0, none⟩ (.slice t1 m k1)).setCell ⟨r2, 1, none⟩ (.slice t2 n k2)).setCell ⟨r2, 2, none⟩ (.int .i64 f)) = xw9 := ⟨_, rfl⟩
                  rw [hWn]
                  replace HX := Lib.hid (show IsArr W18 _ (.slice s3 m c3) ua A by rw [← hWn]; exact HX.out.keep (((Kept.setCell _ _ _ (fun h => by have := HZ.out; simp only at h; omega)).trans (Kept.setCell _ _ _ (fun h => by have := HZ.out; simp only at h; omega))).trans (Kept.setCell _ _ _ (fun h => by have := HZ.out; simp only at h; omega))) (fun _ _ h => h))
                  replace HY := Lib.hid (show IsP W18 _ (.agg #[.slice t1 m k1, .slice t2 n k2, .int .i64 f]) TP by rw [← hWn]; exact HY.out.keep (((Kept.setCell _ _ _ (fun h => by have := HZ.out; simp only at h; omega)).trans (Kept.setCell _ _ _ (fun h => by have := HZ.out; simp only at h; omega))).trans (Kept.setCell _ _ _ (fun h => by have := HZ.out; simp only at h; omega))) (fun _ _ h => h))
                  replace HYI := Lib.hid (show Its W18 _ (.slice t2 n k2) TP.l by rw [← hWn]; exact HYI.out.keep (((Kept.setCell _ _ _ (fun h => by have := HZ.out; simp only at h; omega)).trans (Kept.setCell _ _ _ (fun h => by have := HZ.out; simp only at h; omega))).trans (Kept.setCell _ _ _ (fun h => by have := HZ.out; simp only at h; omega))) (fun _ _ h => h))
                  replace HW0 := Lib.hid (show Below W11.heap.size W11 W18 by rw [← hWn]; exact (((HW0.out.setCell (p := ⟨r2, 0, none⟩) (by have := HZ.out; simp only; omega) _).setCell (p := ⟨r2, 1, none⟩) (by have := HZ.out; simp only; omega) _).setCell (p := ⟨r2, 2, none⟩) (by have := HZ.out; simp only; omega) _))
                  replace HR2 := Lib.hid (show At3 W18 r2 (.slice t1 m k1) (.slice t2 n k2) (.int .i64 f) by rw [← hWn]; exact At3.put3 HR2.out _ _ _)
                  replace HR1 := Lib.hid (show At2 W18 r1 (.slice s3 m c3) (ua) by rw [← hWn]; exact (((HR1.out.grown (grown_setCell _ ⟨r2, 0, none⟩ _) (by have := HZ.out; simp; omega)).grown (grown_setCell _ ⟨r2, 1, none⟩ _) (by have := HZ.out; simp; omega)).grown (grown_setCell _ ⟨r2, 2, none⟩ _) (by have := HZ.out; simp; omega)))
                  replace HA := Lib.hid (show At3 W18 w.heap.size (.slice so m sc) (.slice io n ic) (.int .i64 f) by rw [← hWn]; exact (((HA.out.grown (grown_setCell _ ⟨r2, 0, none⟩ _) (by have := HZ.out; have := HLTW.out; simp; omega)).grown (grown_setCell _ ⟨r2, 1, none⟩ _) (by have := HZ.out; have := HLTW.out; simp; omega)).grown (grown_setCell _ ⟨r2, 2, none⟩ _) (by have := HZ.out; have := HLTW.out; simp; omega)))
                  clear hWn
                  refine hK.out _ _ ?_ (fun hHeld => ?_)
                  · exact ⟨HA.out.2.1, HA.out.2.2.1, HA.out.2.2.2.1⟩
                  clear hK K
                  refine wpAnyH_done (by kernel_rfl) ?_ _
                  clear hHeld
                  exact ⟨rfl, s3, t1, t2, c3, k1, k2, ua, r1, r2, rfl, HR1.out, HR2.out, HX.out.wide (fun _ _ _ => trivial), HY.out.wide (fun _ _ _ => trivial), HYI.out.wide (fun _ _ _ => trivial), HW0.out⟩
                exact AllReadyH.nil
              exact AllReadyH.nil
            exact AllReadyH.nil
          exact AllReadyH.nil
        exact AllReadyH.nil
      exact AllReadyH.nil
    rintro _ W13 ⟨s3, t1, t2, c3, k1, k2, ua, r1, r2, rfl, h1, h2, h3, h4, h5, hB⟩
    replace HA := Lib.hid (HA.out.below hB)
    replace HB := Lib.hid (HB.out.trans (hB.mono HB.out.size))
    replace HI := Lib.hid (HI.out.grow hB)
    replace HT := Lib.hid (fun j hj => keep_below hB _ _ (HT.out j hj))
    replace HSH := Lib.hid (HSH.out.below hB)
    have HR1 := Lib.hid h1
    have HR2 := Lib.hid h2
    have HX := Lib.hid h3
    have HY := Lib.hid h4
    have HYI := Lib.hid h5
    have hsua := h3.2.store
    clear h1 h2 h3 h4 h5 hB
    simp only [Act.put, List.setIfInBounds_toArray, List.set_cons_zero, List.set_cons_succ]
    obtain ⟨N, hNN⟩ : ∃ N, tabN p.s = N := ⟨_, rfl⟩
    have HNN := Lib.hid hNN
    rcases Nat.eq_zero_or_pos m with hm0 | hmp
    · have hN1 : N = 1 := by
        rw [← hNN, List.eq_nil_of_length_eq_zero (HM.out.trans hm0)]; rfl
      subst hm0
      clear hNN
      subst hN1
      have q0 := HA.out.2.1
      have q1 := HA.out.2.2.1
      have q2 := HA.out.2.2.2.1
      have q3 := HR2.out.2.1
      have q4 := HR2.out.2.2.1
      have q5 := HR2.out.2.2.2.1
      have HAo := HA
      have HBo := HB
      have HIo := HI
      have HTo := HT
      have HSHo := HSH
      have HR1o := HR1
      have HR2o := HR2
      have HXo := HX
      have HYo := HY
      have HYIo := HYI
      have HQ := Lib.hid (Below.refl W13.heap.size W13)
      obtain ⟨W14, hWn⟩ : ∃ xw9, W13.alloc (.cells #[.slice t1 0 k1, .slice t2 n k2, .int .i64 f] 25) = xw9 := ⟨_, rfl⟩
      have hB : Below W13.heap.size W13 W14 := by rw [← hWn]; exact below_new _ _
      have hNB : At3 W14 W13.heap.size (.slice t1 0 k1) (.slice t2 n k2) (.int .i64 f) := by rw [← hWn]; exact At3.new _ _ _ _ _
      replace HA := Lib.hid (HA.out.below hB)
      replace HB := Lib.hid (HB.out.trans (hB.mono HB.out.size))
      replace HI := Lib.hid (HI.out.grow hB)
      replace HT := Lib.hid (fun j hj => keep_below hB _ _ (HT.out j hj))
      replace HSH := Lib.hid (HSH.out.below hB)
      replace HR1 := Lib.hid (HR1.out.below hB)
      replace HR2 := Lib.hid (HR2.out.below hB)
      replace HX := Lib.hid (HX.out.grow hB)
      replace HY := Lib.hid (HY.out.grow hB)
      replace HYI := Lib.hid (HYI.out.grow hB)
      replace HQ := Lib.hid (HQ.out.trans (hB.mono HQ.out.size))
      have HL := Lib.hid hNB
      clear hNB hB
      have hWl := hWn
      clear hWn
      have q6 := HA.out.2.1
      have q7 := HA.out.2.2.1
      have q8 := HA.out.2.2.2.1
      have HLZ := Lib.hid HL.out.1
      obtain ⟨W15, hWn⟩ : ∃ xw9, W14.alloc (.cells #[.int .i64 (n : Int)] 3) = xw9 := ⟨_, rfl⟩
      have hB : Below W14.heap.size W14 W15 := by rw [← hWn]; exact below_new _ _
      have hNS : Slc W15 (fun b => b = W14.heap.size) (.slice (some ⟨W14.heap.size, 0, none⟩) 1 1) 1 (ints [(n : Int)]) := by
        rw [← hWn]
        refine ⟨⟨rfl, _, _, rfl, fun i hi => ⟨_, 0, rfl, rfl, ?_⟩⟩, _, _, rfl, Nat.le_refl _, by unfold maxLen; omega⟩
        obtain rfl : i = 0 := by simp [ints] at hi; omega
        simp [ints]
      replace HA := Lib.hid (HA.out.below hB)
      replace HB := Lib.hid (HB.out.trans (hB.mono HB.out.size))
      replace HI := Lib.hid (HI.out.grow hB)
      replace HT := Lib.hid (fun j hj => keep_below hB _ _ (HT.out j hj))
      replace HSH := Lib.hid (HSH.out.below hB)
      replace HR1 := Lib.hid (HR1.out.below hB)
      replace HR2 := Lib.hid (HR2.out.below hB)
      replace HX := Lib.hid (HX.out.grow hB)
      replace HY := Lib.hid (HY.out.grow hB)
      replace HYI := Lib.hid (HYI.out.grow hB)
      replace HQ := Lib.hid (HQ.out.trans (hB.mono HQ.out.size))
      replace HL := Lib.hid (HL.out.below hB)
      have HSN := Lib.hid hNS
      clear hNS hB
      have cHA0 := HA.out.2.1
      have cHA1 := HA.out.2.2.1
      have cHA2 := HA.out.2.2.2.1
      have cHR10 := HR1.out.2.1
      have cHR11 := HR1.out.2.2.1
      have cHR20 := HR2.out.2.1
      have cHR21 := HR2.out.2.2.1
      have cHR22 := HR2.out.2.2.2.1
      have cHL0 := HL.out.2.1
      have cHL1 := HL.out.2.2.1
      have cHL2 := HL.out.2.2.2.1
      have zHL0 := HL.out.2.2.2.2 0
      have zHL1 := HL.out.2.2.2.2 1
      have zHL2 := HL.out.2.2.2.2 2
      go_wp2_with fail
      clear hWn hWl q0 q1 q2 q3 q4 q5 q6 q7 q8
      clear cHA0 cHA1 cHA2 cHR10 cHR11 cHR20 cHR21 cHR22 cHL0 cHL1 cHL2 zHL0 zHL1 zHL2
      obtain ⟨W16, hWn⟩ : ∃ xw9, W15.setCell ⟨W13.heap.size, 0, none⟩ (.slice (some ⟨W14.heap.size, 0, none⟩) 1 1) = xw9 := ⟨_, rfl⟩
      rw [hWn]
      have hNL : At3 W16 W13.heap.size (.slice (some ⟨W14.heap.size, 0, none⟩) 1 1) (.slice t2 n k2) (.int .i64 f) := by rw [← hWn]; exact HL.out.set0 _
      have hNS : Slc W16 (fun b => b = W14.heap.size) (.slice (some ⟨W14.heap.size, 0, none⟩) 1 1) 1 (ints [(n : Int)]) := by rw [← hWn]; exact HSN.out.keep (Kept.setCell _ _ _ (by have := HLZ.out; simp only; omega)) (fun _ _ h => h)
      have hB : Below W13.heap.size W13 W16 := by rw [← hWn]; exact HQ.out.setCell (p := ⟨W13.heap.size, 0, none⟩) (Nat.le_refl _) _
      clear hWn
      replace HA := Lib.hid (HAo.out.below hB)
      clear HAo
      replace HB := Lib.hid (HBo.out.trans (hB.mono HBo.out.size))
      clear HBo
      replace HI := Lib.hid (HIo.out.grow hB)
      clear HIo
      replace HT := Lib.hid (fun j hj => keep_below hB _ _ (HTo.out j hj))
      clear HTo
      replace HSH := Lib.hid (HSHo.out.below hB)
      clear HSHo
      replace HR1 := Lib.hid (HR1o.out.below hB)
      clear HR1o
      replace HR2 := Lib.hid (HR2o.out.below hB)
      clear HR2o
      replace HX := Lib.hid (HXo.out.grow hB)
      clear HXo
      replace HY := Lib.hid (HYo.out.grow hB)
      clear HYo
      replace HYI := Lib.hid (HYIo.out.grow hB)
      clear HYIo
      have HLV := Lib.hid hNL
      have HLP := Lib.hid (show IsP W16 (fun _ => True) (.agg #[.slice (some ⟨W14.heap.size, 0, none⟩) 1 1, .slice t2 n k2, .int .i64 f]) (.mk [(n : Int)] TP.l f) from IsP.of (hNS.keep (Kept.refl _ _) (fun _ _ _ => trivial)) HYI.out)
      obtain ⟨r3, hr3⟩ : ∃ x, W13.heap.size = x := ⟨_, rfl⟩
      obtain ⟨b3, hb3⟩ : ∃ x, W14.heap.size = x := ⟨_, rfl⟩
      rw [hr3] at HLV ⊢
      rw [hb3] at HLV HLP
      clear hr3 hb3 hNL hNS hB HQ HL HSN HLZ
      have HE1 := Lib.hid (shape_arr20 HMD.out)
      have HE2 := Lib.hid (tally_arr20 HMD.out)
      have HE3 := Lib.hid (ravel_arr20 HMD.out)
      have HE4 := Lib.hid (table_arr20 HMD.out)
      rw [HNN.out] at HE2
      rw [HN.out, HF.out] at HE3
      obtain ⟨W17, hWD⟩ : ∃ xw9, W16.drew = xw9 := ⟨_, rfl⟩
      have hB : Below W16.heap.size W16 W17 := by rw [← hWD]; exact Below.drewN' (Below.refl _ _) 1
      replace HA := Lib.hid (HA.out.below hB)
      replace HB := Lib.hid (HB.out.trans (hB.mono HB.out.size))
      replace HI := Lib.hid (HI.out.grow hB)
      replace HT := Lib.hid (fun j hj => keep_below hB _ _ (HT.out j hj))
      replace HSH := Lib.hid (HSH.out.below hB)
      replace HR1 := Lib.hid (HR1.out.below hB)
      replace HR2 := Lib.hid (HR2.out.below hB)
      replace HX := Lib.hid (HX.out.grow hB)
      replace HY := Lib.hid (HY.out.grow hB)
      replace HYI := Lib.hid (HYI.out.grow hB)
      replace HLV := Lib.hid (HLV.out.below hB)
      replace HLP := Lib.hid (HLP.out.grow hB)
      clear hB
      refine wp_region_held_drew (S := fun w' => w'.cell? ⟨w.heap.size, 0, none⟩ = some (.slice so 0 sc) ∧ w'.cell? ⟨w.heap.size, 1, none⟩ = some (.slice io n ic) ∧ w'.cell? ⟨w.heap.size, 2, none⟩ = some (.int .i64 f) ∧ w'.cell? ⟨r1, 0, none⟩ = some (.slice s3 0 c3) ∧ w'.cell? ⟨r1, 1, none⟩ = some (ua) ∧ w'.cell? ⟨r2, 0, none⟩ = some (.slice t1 0 k1) ∧ w'.cell? ⟨r2, 1, none⟩ = some (.slice t2 n k2) ∧ w'.cell? ⟨r2, 2, none⟩ = some (.int .i64 f) ∧ w'.cell? ⟨r3, 0, none⟩ = some (.slice (some ⟨b3, 0, none⟩) 1 1) ∧ w'.cell? ⟨r3, 1, none⟩ = some (.slice t2 n k2) ∧ w'.cell? ⟨r3, 2, none⟩ = some (.int .i64 f)) (by kernel_rfl) (by rw [hWD]; exact ⟨HA.out.2.1, HA.out.2.2.1, HA.out.2.2.2.1, HR1.out.2.1, HR1.out.2.2.1, HR2.out.2.1, HR2.out.2.2.1, HR2.out.2.2.2.1, HLV.out.2.1, HLV.out.2.2.1, HLV.out.2.2.2.1⟩) (fun hHeld => ?_)
      rw [hWD] at hHeld ⊢
      clear hWD
      refine wpAnyH_take (i := 0) (v := ?_) rfl (by kernel_rfl) (by kernel_rfl) (by kernel_rfl) (fun _ _ _ h => h) (Or.inl ⟨by rfl, ?_⟩) (by assumption) ?_
      rotate_left
      · (intro w hSw; (try dsimp only at hSw); go_simp; try with_reducible rfl)
      simp only [Act.put, List.getElem_toArray, List.getElem_cons_zero, List.setIfInBounds_toArray, List.set_cons_zero, List.set_cons_succ]
      refine wpAnyH_take (i := 2) (v := ?_) rfl (by kernel_rfl) (by kernel_rfl) (by kernel_rfl) (fun _ _ _ h => h) (Or.inl ⟨by rfl, ?_⟩) (by assumption) ?_
      rotate_left
      · (intro w hSw; (try dsimp only at hSw); go_simp; try with_reducible rfl)
      simp only [Act.put, List.getElem_toArray, List.getElem_cons_succ, List.getElem_cons_zero, List.setIfInBounds_toArray, List.set_cons_zero, List.set_cons_succ]
      refine wpAnyH_ready (rs := [1]) (by kernel_rfl) (by simp) ?_
      refine AllReadyH.cons (o := _) rfl (fun K hK => ?_) ?_
      · clear hHeld
        go_simp
        refine (rsshape_calls _ ua A _ HX.out HMD.out.good HT.out).mono ?_
        rintro e W18 ⟨xas, xac, xau, rfl, hxa, hB⟩
        replace HA := Lib.hid (HA.out.below hB)
        replace HB := Lib.hid (HB.out.trans (hB.mono HB.out.size))
        replace HI := Lib.hid (HI.out.grow hB)
        replace HT := Lib.hid (fun j hj => keep_below hB _ _ (HT.out j hj))
        replace HSH := Lib.hid (HSH.out.below hB)
        replace HR1 := Lib.hid (HR1.out.below hB)
        replace HR2 := Lib.hid (HR2.out.below hB)
        replace HX := Lib.hid (HX.out.grow hB)
        replace HY := Lib.hid (HY.out.grow hB)
        replace HYI := Lib.hid (HYI.out.grow hB)
        replace HLV := Lib.hid (HLV.out.below hB)
        replace HLP := Lib.hid (HLP.out.grow hB)
        have HX1 := Lib.hid hxa
        clear hxa
        clear hB
        refine hK.out _ _ ?_ (fun hHeld => ?_)
        · exact ⟨HA.out.2.1, HA.out.2.2.1, HA.out.2.2.2.1, HR1.out.2.1, HR1.out.2.2.1, HR2.out.2.1, HR2.out.2.2.1, HR2.out.2.2.2.1, HLV.out.2.1, HLV.out.2.2.1, HLV.out.2.2.2.1⟩
        clear hK K
        refine wpAnyH_ready (rs := [3]) (by kernel_rfl) (by simp) ?_
        refine AllReadyH.cons (o := _) rfl (fun K hK => ?_) ?_
        · clear hHeld
          go_simp
          refine (rshape20_calls _ p _ HI.out (by rw [HM.out]; exact HM8.out)).mono ?_
          rintro e W19 ⟨p1, rfl, hp1, hB⟩
          replace HA := Lib.hid (HA.out.below hB)
          replace HB := Lib.hid (HB.out.trans (hB.mono HB.out.size))
          replace HI := Lib.hid (HI.out.grow hB)
          replace HT := Lib.hid (fun j hj => keep_below hB _ _ (HT.out j hj))
          replace HSH := Lib.hid (HSH.out.below hB)
          replace HR1 := Lib.hid (HR1.out.below hB)
          replace HR2 := Lib.hid (HR2.out.below hB)
          replace HX := Lib.hid (HX.out.grow hB)
          replace HY := Lib.hid (HY.out.grow hB)
          replace HYI := Lib.hid (HYI.out.grow hB)
          replace HLV := Lib.hid (HLV.out.below hB)
          replace HLP := Lib.hid (HLP.out.grow hB)
          replace HX1 := Lib.hid (HX1.out.grow hB)
          have HP1 := Lib.hid (IsP.wide hp1 (ok' := fun _ => True) (fun _ _ _ => trivial))
          clear hp1
          clear hB
          refine hK.out _ _ ?_ (fun hHeld => ?_)
          · exact ⟨HA.out.2.1, HA.out.2.2.1, HA.out.2.2.2.1, HR1.out.2.1, HR1.out.2.2.1, HR2.out.2.1, HR2.out.2.2.1, HR2.out.2.2.2.1, HLV.out.2.1, HLV.out.2.2.1, HLV.out.2.2.2.1⟩
          clear hK K
          refine wpAnyH_ready (rs := [4]) (by kernel_rfl) (by simp) ?_
          refine AllReadyH.cons (o := _) rfl (fun K hK => ?_) ?_
          · clear hHeld
            go_simp
            refine (shows20_calls _ _ ([(A.1.length : Int)], sqL (shF A.1)) _ _ _ HX1.out HE1.out.1 HP1.out HE1.out.2 HT.out).mono ?_
            rintro e W20 ⟨rfl, hB⟩
            replace HA := Lib.hid (HA.out.below hB)
            replace HB := Lib.hid (HB.out.trans (hB.mono HB.out.size))
            replace HI := Lib.hid (HI.out.grow hB)
            replace HT := Lib.hid (fun j hj => keep_below hB _ _ (HT.out j hj))
            replace HSH := Lib.hid (HSH.out.below hB)
            replace HR1 := Lib.hid (HR1.out.below hB)
            replace HR2 := Lib.hid (HR2.out.below hB)
            replace HX := Lib.hid (HX.out.grow hB)
            replace HY := Lib.hid (HY.out.grow hB)
            replace HYI := Lib.hid (HYI.out.grow hB)
            replace HLV := Lib.hid (HLV.out.below hB)
            replace HLP := Lib.hid (HLP.out.grow hB)
            replace HX1 := Lib.hid (HX1.out.grow hB)
            replace HP1 := Lib.hid (HP1.out.grow hB)
            clear hB
            refine hK.out _ _ ?_ (fun hHeld => ?_)
            · exact ⟨HA.out.2.1, HA.out.2.2.1, HA.out.2.2.2.1, HR1.out.2.1, HR1.out.2.2.1, HR2.out.2.1, HR2.out.2.2.1, HR2.out.2.2.2.1, HLV.out.2.1, HLV.out.2.2.1, HLV.out.2.2.2.1⟩
            clear hK K
            refine wpAnyH_take (i := 5) (v := ?_) rfl (by kernel_rfl) (by kernel_rfl) (by kernel_rfl) (fun _ _ _ h => h) (Or.inl ⟨by rfl, ?_⟩) (by assumption) ?_
            rotate_left
            · (intro w hSw; (try dsimp only at hSw); go_simp; try with_reducible rfl)
            simp only [Act.put, List.getElem_toArray, List.getElem_cons_succ, List.getElem_cons_zero, List.setIfInBounds_toArray, List.set_cons_zero, List.set_cons_succ]
            refine wpAnyH_take (i := 6) (v := ?_) rfl (by kernel_rfl) (by kernel_rfl) (by kernel_rfl) (fun _ _ _ h => h) (Or.inl ⟨by rfl, ?_⟩) (by assumption) ?_
            rotate_left
            · (intro w hSw; (try dsimp only at hSw); go_simp; try with_reducible rfl)
            simp only [Act.put, List.getElem_toArray, List.getElem_cons_succ, List.getElem_cons_zero, List.setIfInBounds_toArray, List.set_cons_zero, List.set_cons_succ]
            refine wpAnyH_take (i := 8) (v := ?_) rfl (by kernel_rfl) (by kernel_rfl) (by kernel_rfl) (fun _ _ _ h => h) (Or.inl ⟨by rfl, ?_⟩) (by assumption) ?_
            rotate_left
            · (intro w hSw; (try dsimp only at hSw); go_simp; try with_reducible rfl)
            simp only [Act.put, List.getElem_toArray, List.getElem_cons_succ, List.getElem_cons_zero, List.setIfInBounds_toArray, List.set_cons_zero, List.set_cons_succ]
            refine wpAnyH_take (i := 9) (v := ?_) rfl (by kernel_rfl) (by kernel_rfl) (by kernel_rfl) (fun _ _ _ h => h) (Or.inl ⟨by rfl, ?_⟩) (by assumption) ?_
            rotate_left
            · (intro w hSw; (try dsimp only at hSw); go_simp; try with_reducible rfl)
            simp only [Act.put, List.getElem_toArray, List.getElem_cons_succ, List.getElem_cons_zero, List.setIfInBounds_toArray, List.set_cons_zero, List.set_cons_succ]
            refine wpAnyH_ready (rs := [7]) (by kernel_rfl) (by simp) ?_
            refine AllReadyH.cons (o := _) rfl (fun K hK => ?_) ?_
            · clear hHeld
              go_simp
              refine (rstally_calls _ ua A _ HX.out HMD.out.good HT.out).mono ?_
              rintro e W21 ⟨xbs, xbc, xbu, rfl, hxb, hB⟩
              replace HA := Lib.hid (HA.out.below hB)
              replace HB := Lib.hid (HB.out.trans (hB.mono HB.out.size))
              replace HI := Lib.hid (HI.out.grow hB)
              replace HT := Lib.hid (fun j hj => keep_below hB _ _ (HT.out j hj))
              replace HSH := Lib.hid (HSH.out.below hB)
              replace HR1 := Lib.hid (HR1.out.below hB)
              replace HR2 := Lib.hid (HR2.out.below hB)
              replace HX := Lib.hid (HX.out.grow hB)
              replace HY := Lib.hid (HY.out.grow hB)
              replace HYI := Lib.hid (HYI.out.grow hB)
              replace HLV := Lib.hid (HLV.out.below hB)
              replace HLP := Lib.hid (HLP.out.grow hB)
              replace HX1 := Lib.hid (HX1.out.grow hB)
              replace HP1 := Lib.hid (HP1.out.grow hB)
              have HX2 := Lib.hid hxb
              clear hxb
              clear hB
              refine hK.out _ _ ?_ (fun hHeld => ?_)
              · exact ⟨HA.out.2.1, HA.out.2.2.1, HA.out.2.2.2.1, HR1.out.2.1, HR1.out.2.2.1, HR2.out.2.1, HR2.out.2.2.1, HR2.out.2.2.2.1, HLV.out.2.1, HLV.out.2.2.1, HLV.out.2.2.2.1⟩
              clear hK K
              refine wpAnyH_ready (rs := [10]) (by kernel_rfl) (by simp) ?_
              refine AllReadyH.cons (o := _) rfl (fun K hK => ?_) ?_
              · clear hHeld
                go_simp
                refine (rNum_calls (floatOfInt .f64 1) _).mono ?_
                rintro e W22 ⟨p2, rfl, hp2, hB⟩
                replace HA := Lib.hid (HA.out.below hB)
                replace HB := Lib.hid (HB.out.trans (hB.mono HB.out.size))
                replace HI := Lib.hid (HI.out.grow hB)
                replace HT := Lib.hid (fun j hj => keep_below hB _ _ (HT.out j hj))
                replace HSH := Lib.hid (HSH.out.below hB)
                replace HR1 := Lib.hid (HR1.out.below hB)
                replace HR2 := Lib.hid (HR2.out.below hB)
                replace HX := Lib.hid (HX.out.grow hB)
                replace HY := Lib.hid (HY.out.grow hB)
                replace HYI := Lib.hid (HYI.out.grow hB)
                replace HLV := Lib.hid (HLV.out.below hB)
                replace HLP := Lib.hid (HLP.out.grow hB)
                replace HX1 := Lib.hid (HX1.out.grow hB)
                replace HP1 := Lib.hid (HP1.out.grow hB)
                replace HX2 := Lib.hid (HX2.out.grow hB)
                have HP2 := Lib.hid (IsP.wide hp2 (ok' := fun _ => True) (fun _ _ _ => trivial))
                clear hp2
                clear hB
                refine hK.out _ _ ?_ (fun hHeld => ?_)
                · exact ⟨HA.out.2.1, HA.out.2.2.1, HA.out.2.2.2.1, HR1.out.2.1, HR1.out.2.2.1, HR2.out.2.1, HR2.out.2.2.1, HR2.out.2.2.2.1, HLV.out.2.1, HLV.out.2.2.1, HLV.out.2.2.2.1⟩
                clear hK K
                refine wpAnyH_ready (rs := [11]) (by kernel_rfl) (by simp) ?_
                refine AllReadyH.cons (o := _) rfl (fun K hK => ?_) ?_
                · clear hHeld
                  go_simp
                  refine (shows20_calls _ _ ([], sqL [floatOfInt .f64 (tabN A.1)]) _ _ _ HX2.out HE2.out.1 HP2.out HE2.out.2 HT.out).mono ?_
                  rintro e W23 ⟨rfl, hB⟩
                  replace HA := Lib.hid (HA.out.below hB)
                  replace HB := Lib.hid (HB.out.trans (hB.mono HB.out.size))
                  replace HI := Lib.hid (HI.out.grow hB)
                  replace HT := Lib.hid (fun j hj => keep_below hB _ _ (HT.out j hj))
                  replace HSH := Lib.hid (HSH.out.below hB)
                  replace HR1 := Lib.hid (HR1.out.below hB)
                  replace HR2 := Lib.hid (HR2.out.below hB)
                  replace HX := Lib.hid (HX.out.grow hB)
                  replace HY := Lib.hid (HY.out.grow hB)
                  replace HYI := Lib.hid (HYI.out.grow hB)
                  replace HLV := Lib.hid (HLV.out.below hB)
                  replace HLP := Lib.hid (HLP.out.grow hB)
                  replace HX1 := Lib.hid (HX1.out.grow hB)
                  replace HP1 := Lib.hid (HP1.out.grow hB)
                  replace HX2 := Lib.hid (HX2.out.grow hB)
                  replace HP2 := Lib.hid (HP2.out.grow hB)
                  clear hB
                  refine hK.out _ _ ?_ (fun hHeld => ?_)
                  · exact ⟨HA.out.2.1, HA.out.2.2.1, HA.out.2.2.2.1, HR1.out.2.1, HR1.out.2.2.1, HR2.out.2.1, HR2.out.2.2.1, HR2.out.2.2.2.1, HLV.out.2.1, HLV.out.2.2.1, HLV.out.2.2.2.1⟩
                  clear hK K
                  refine wpAnyH_take (i := 12) (v := ?_) rfl (by kernel_rfl) (by kernel_rfl) (by kernel_rfl) (fun _ _ _ h => h) (Or.inl ⟨by rfl, ?_⟩) (by assumption) ?_
                  rotate_left
                  · (intro w hSw; (try dsimp only at hSw); go_simp; try with_reducible rfl)
                  simp only [Act.put, List.getElem_toArray, List.getElem_cons_succ, List.getElem_cons_zero, List.setIfInBounds_toArray, List.set_cons_zero, List.set_cons_succ]
                  refine wpAnyH_take (i := 13) (v := ?_) rfl (by kernel_rfl) (by kernel_rfl) (by kernel_rfl) (fun _ _ _ h => h) (Or.inl ⟨by rfl, ?_⟩) (by assumption) ?_
                  rotate_left
                  · (intro w hSw; (try dsimp only at hSw); go_simp; try with_reducible rfl)
                  simp only [Act.put, List.getElem_toArray, List.getElem_cons_succ, List.getElem_cons_zero, List.setIfInBounds_toArray, List.set_cons_zero, List.set_cons_succ]
                  refine wpAnyH_take (i := 14) (v := ?_) rfl (by kernel_rfl) (by kernel_rfl) (by kernel_rfl) (fun _ _ _ h => h) (Or.inl ⟨by rfl, ?_⟩) (by assumption) ?_
                  rotate_left
                  · (intro w hSw; (try dsimp only at hSw); go_simp; try with_reducible rfl)
                  simp only [Act.put, List.getElem_toArray, List.getElem_cons_succ, List.getElem_cons_zero, List.setIfInBounds_toArray, List.set_cons_zero, List.set_cons_succ]
                  refine wpAnyH_take (i := 16) (v := ?_) rfl (by kernel_rfl) (by kernel_rfl) (by kernel_rfl) (fun _ _ _ h => h) (Or.inl ⟨by rfl, ?_⟩) (by assumption) ?_
                  rotate_left
                  · (intro w hSw; (try dsimp only at hSw); go_simp; try with_reducible rfl)
                  simp only [Act.put, List.getElem_toArray, List.getElem_cons_succ, List.getElem_cons_zero, List.setIfInBounds_toArray, List.set_cons_zero, List.set_cons_succ]
                  refine wpAnyH_ready (rs := [15]) (by kernel_rfl) (by simp) ?_
                  refine AllReadyH.cons (o := _) rfl (fun K hK => ?_) ?_
                  · clear hHeld
                    go_simp
                    refine (rsravel_calls _ ua A _ HX.out HMD.out.good HT.out).mono ?_
                    rintro e W24 ⟨xcs, xcc, xcu, rfl, hxc, hB⟩
                    replace HA := Lib.hid (HA.out.below hB)
                    replace HB := Lib.hid (HB.out.trans (hB.mono HB.out.size))
                    replace HI := Lib.hid (HI.out.grow hB)
                    replace HT := Lib.hid (fun j hj => keep_below hB _ _ (HT.out j hj))
                    replace HSH := Lib.hid (HSH.out.below hB)
                    replace HR1 := Lib.hid (HR1.out.below hB)
                    replace HR2 := Lib.hid (HR2.out.below hB)
                    replace HX := Lib.hid (HX.out.grow hB)
                    replace HY := Lib.hid (HY.out.grow hB)
                    replace HYI := Lib.hid (HYI.out.grow hB)
                    replace HLV := Lib.hid (HLV.out.below hB)
                    replace HLP := Lib.hid (HLP.out.grow hB)
                    replace HX1 := Lib.hid (HX1.out.grow hB)
                    replace HP1 := Lib.hid (HP1.out.grow hB)
                    replace HX2 := Lib.hid (HX2.out.grow hB)
                    replace HP2 := Lib.hid (HP2.out.grow hB)
                    have HX3 := Lib.hid hxc
                    clear hxc
                    clear hB
                    refine hK.out _ _ ?_ (fun hHeld => ?_)
                    · exact ⟨HA.out.2.1, HA.out.2.2.1, HA.out.2.2.2.1, HR1.out.2.1, HR1.out.2.2.1, HR2.out.2.1, HR2.out.2.2.1, HR2.out.2.2.2.1, HLV.out.2.1, HLV.out.2.2.1, HLV.out.2.2.2.1⟩
                    clear hK K
                    refine wpAnyH_ready (rs := [17]) (by kernel_rfl) (by simp) ?_
                    refine AllReadyH.cons (o := _) rfl (fun K hK => ?_) ?_
                    · clear hHeld
                      go_simp
                      refine (shows20_calls _ _ ([(A.2.len : Int)], A.2) _ _ _ HX3.out HE3.out.1 HLP.out HE3.out.2 HT.out).mono ?_
                      rintro e W25 ⟨rfl, hB⟩
                      replace HA := Lib.hid (HA.out.below hB)
                      replace HB := Lib.hid (HB.out.trans (hB.mono HB.out.size))
                      replace HI := Lib.hid (HI.out.grow hB)
                      replace HT := Lib.hid (fun j hj => keep_below hB _ _ (HT.out j hj))
                      replace HSH := Lib.hid (HSH.out.below hB)
                      replace HR1 := Lib.hid (HR1.out.below hB)
                      replace HR2 := Lib.hid (HR2.out.below hB)
                      replace HX := Lib.hid (HX.out.grow hB)
                      replace HY := Lib.hid (HY.out.grow hB)
                      replace HYI := Lib.hid (HYI.out.grow hB)
                      replace HLV := Lib.hid (HLV.out.below hB)
                      replace HLP := Lib.hid (HLP.out.grow hB)
                      replace HX1 := Lib.hid (HX1.out.grow hB)
                      replace HP1 := Lib.hid (HP1.out.grow hB)
                      replace HX2 := Lib.hid (HX2.out.grow hB)
                      replace HP2 := Lib.hid (HP2.out.grow hB)
                      replace HX3 := Lib.hid (HX3.out.grow hB)
                      clear hB
                      refine hK.out _ _ ?_ (fun hHeld => ?_)
                      · exact ⟨HA.out.2.1, HA.out.2.2.1, HA.out.2.2.2.1, HR1.out.2.1, HR1.out.2.2.1, HR2.out.2.1, HR2.out.2.2.1, HR2.out.2.2.2.1, HLV.out.2.1, HLV.out.2.2.1, HLV.out.2.2.2.1⟩
                      clear hK K
                      refine wpAnyH_take (i := 18) (v := ?_) rfl (by kernel_rfl) (by kernel_rfl) (by kernel_rfl) (fun _ _ _ h => h) (Or.inl ⟨by rfl, ?_⟩) (by assumption) ?_
                      rotate_left
                      · (intro w hSw; (try dsimp only at hSw); go_simp; try with_reducible rfl)
                      simp only [Act.put, List.getElem_toArray, List.getElem_cons_succ, List.getElem_cons_zero, List.setIfInBounds_toArray, List.set_cons_zero, List.set_cons_succ]
                      refine wpAnyH_take (i := 19) (v := ?_) rfl (by kernel_rfl) (by kernel_rfl) (by kernel_rfl) (fun _ _ _ h => h) (Or.inl ⟨by rfl, ?_⟩) (by assumption) ?_
                      rotate_left
                      · (intro w hSw; (try dsimp only at hSw); go_simp; try with_reducible rfl)
                      simp only [Act.put, List.getElem_toArray, List.getElem_cons_succ, List.getElem_cons_zero, List.setIfInBounds_toArray, List.set_cons_zero, List.set_cons_succ]
                      refine wpAnyH_take (i := 20) (v := ?_) rfl (by kernel_rfl) (by kernel_rfl) (by kernel_rfl) (fun _ _ _ h => h) (Or.inl ⟨by rfl, ?_⟩) (by assumption) ?_
                      rotate_left
                      · (intro w hSw; (try dsimp only at hSw); go_simp; try with_reducible rfl)
                      simp only [Act.put, List.getElem_toArray, List.getElem_cons_succ, List.getElem_cons_zero, List.setIfInBounds_toArray, List.set_cons_zero, List.set_cons_succ]
                      refine wpAnyH_take (i := 22) (v := ?_) rfl (by kernel_rfl) (by kernel_rfl) (by kernel_rfl) (fun _ _ _ h => h) (Or.inl ⟨by rfl, ?_⟩) (by assumption) ?_
                      rotate_left
                      · (intro w hSw; (try dsimp only at hSw); go_simp; try with_reducible rfl)
                      simp only [Act.put, List.getElem_toArray, List.getElem_cons_succ, List.getElem_cons_zero, List.setIfInBounds_toArray, List.set_cons_zero, List.set_cons_succ]
                      refine wpAnyH_ready (rs := [21]) (by kernel_rfl) (by simp) ?_
                      refine AllReadyH.cons (o := _) rfl (fun K hK => ?_) ?_
                      · clear hHeld
                        go_simp
                        refine (rstable_calls _ ua A _ HX.out HMD.out.good HT.out).mono ?_
                        rintro e W26 ⟨xds, xdc, xdu, rfl, hxd, hB⟩
                        replace HA := Lib.hid (HA.out.below hB)
                        replace HB := Lib.hid (HB.out.trans (hB.mono HB.out.size))
                        replace HI := Lib.hid (HI.out.grow hB)
                        replace HT := Lib.hid (fun j hj => keep_below hB _ _ (HT.out j hj))
                        replace HSH := Lib.hid (HSH.out.below hB)
                        replace HR1 := Lib.hid (HR1.out.below hB)
                        replace HR2 := Lib.hid (HR2.out.below hB)
                        replace HX := Lib.hid (HX.out.grow hB)
                        replace HY := Lib.hid (HY.out.grow hB)
                        replace HYI := Lib.hid (HYI.out.grow hB)
                        replace HLV := Lib.hid (HLV.out.below hB)
                        replace HLP := Lib.hid (HLP.out.grow hB)
                        replace HX1 := Lib.hid (HX1.out.grow hB)
                        replace HP1 := Lib.hid (HP1.out.grow hB)
                        replace HX2 := Lib.hid (HX2.out.grow hB)
                        replace HP2 := Lib.hid (HP2.out.grow hB)
                        replace HX3 := Lib.hid (HX3.out.grow hB)
                        have HX4 := Lib.hid hxd
                        clear hxd
                        clear hB
                        refine hK.out _ _ ?_ (fun hHeld => ?_)
                        · exact ⟨HA.out.2.1, HA.out.2.2.1, HA.out.2.2.2.1, HR1.out.2.1, HR1.out.2.2.1, HR2.out.2.1, HR2.out.2.2.1, HR2.out.2.2.2.1, HLV.out.2.1, HLV.out.2.2.1, HLV.out.2.2.2.1⟩
                        clear hK K
                        refine wpAnyH_ready (rs := [23]) (by kernel_rfl) (by simp) ?_
                        refine AllReadyH.cons (o := _) rfl (fun K hK => ?_) ?_
                        · clear hHeld
                          go_simp
                          refine (rtable20_calls _ TP _ HY.out (by rw [HTS.out]; exact HM8.out)).mono ?_
                          rintro e W27 ⟨p4, rfl, hp4, hB⟩
                          replace HA := Lib.hid (HA.out.below hB)
                          replace HB := Lib.hid (HB.out.trans (hB.mono HB.out.size))
                          replace HI := Lib.hid (HI.out.grow hB)
                          replace HT := Lib.hid (fun j hj => keep_below hB _ _ (HT.out j hj))
                          replace HSH := Lib.hid (HSH.out.below hB)
                          replace HR1 := Lib.hid (HR1.out.below hB)
                          replace HR2 := Lib.hid (HR2.out.below hB)
                          replace HX := Lib.hid (HX.out.grow hB)
                          replace HY := Lib.hid (HY.out.grow hB)
                          replace HYI := Lib.hid (HYI.out.grow hB)
                          replace HLV := Lib.hid (HLV.out.below hB)
                          replace HLP := Lib.hid (HLP.out.grow hB)
                          replace HX1 := Lib.hid (HX1.out.grow hB)
                          replace HP1 := Lib.hid (HP1.out.grow hB)
                          replace HX2 := Lib.hid (HX2.out.grow hB)
                          replace HP2 := Lib.hid (HP2.out.grow hB)
                          replace HX3 := Lib.hid (HX3.out.grow hB)
                          replace HX4 := Lib.hid (HX4.out.grow hB)
                          have HP4 := Lib.hid (IsP.wide hp4 (ok' := fun _ => True) (fun _ _ _ => trivial))
                          clear hp4
                          clear hB
                          refine hK.out _ _ ?_ (fun hHeld => ?_)
                          · exact ⟨HA.out.2.1, HA.out.2.2.1, HA.out.2.2.2.1, HR1.out.2.1, HR1.out.2.2.1, HR2.out.2.1, HR2.out.2.2.1, HR2.out.2.2.2.1, HLV.out.2.1, HLV.out.2.2.1, HLV.out.2.2.2.1⟩
                          clear hK K
                          refine wpAnyH_ready (rs := [24]) (by kernel_rfl) (by simp) ?_
                          refine AllReadyH.cons (o := _) rfl (fun K hK => ?_) ?_
                          · clear hHeld
                            go_simp
                            refine (shows20_calls _ _ ([tabN A.1, tabM A.1], A.2) _ _ _ HX4.out HE4.out.1 HP4.out HE4.out.2 HT.out).mono ?_
                            rintro e W28 ⟨rfl, hB⟩
                            replace HA := Lib.hid (HA.out.below hB)
                            replace HB := Lib.hid (HB.out.trans (hB.mono HB.out.size))
                            replace HI := Lib.hid (HI.out.grow hB)
                            replace HT := Lib.hid (fun j hj => keep_below hB _ _ (HT.out j hj))
                            replace HSH := Lib.hid (HSH.out.below hB)
                            replace HR1 := Lib.hid (HR1.out.below hB)
                            replace HR2 := Lib.hid (HR2.out.below hB)
                            replace HX := Lib.hid (HX.out.grow hB)
                            replace HY := Lib.hid (HY.out.grow hB)
                            replace HYI := Lib.hid (HYI.out.grow hB)
                            replace HLV := Lib.hid (HLV.out.below hB)
                            replace HLP := Lib.hid (HLP.out.grow hB)
                            replace HX1 := Lib.hid (HX1.out.grow hB)
                            replace HP1 := Lib.hid (HP1.out.grow hB)
                            replace HX2 := Lib.hid (HX2.out.grow hB)
                            replace HP2 := Lib.hid (HP2.out.grow hB)
                            replace HX3 := Lib.hid (HX3.out.grow hB)
                            replace HX4 := Lib.hid (HX4.out.grow hB)
                            replace HP4 := Lib.hid (HP4.out.grow hB)
                            clear hB
                            refine hK.out _ _ ?_ (fun hHeld => ?_)
                            · exact ⟨HA.out.2.1, HA.out.2.2.1, HA.out.2.2.2.1, HR1.out.2.1, HR1.out.2.2.1, HR2.out.2.1, HR2.out.2.2.1, HR2.out.2.2.2.1, HLV.out.2.1, HLV.out.2.2.1, HLV.out.2.2.2.1⟩
                            clear hK K
                            refine wpAnyH_take (i := 25) (v := ?_) rfl (by kernel_rfl) (by kernel_rfl) (by kernel_rfl) (fun _ _ _ h => h) (Or.inl ⟨by rfl, ?_⟩) (by assumption) ?_
                            rotate_left
                            · (intro w hSw; (try dsimp only at hSw); go_simp; try with_reducible rfl)
                            simp only [Act.put, List.getElem_toArray, List.getElem_cons_succ, List.getElem_cons_zero, List.setIfInBounds_toArray, List.set_cons_zero, List.set_cons_succ]
                            refine wpAnyH_take (i := 26) (v := ?_) rfl (by kernel_rfl) (by kernel_rfl) (by kernel_rfl) (fun _ _ _ h => h) (Or.inl ⟨by rfl, ?_⟩) (by assumption) ?_
                            rotate_left
                            · (intro w hSw; (try dsimp only at hSw); go_simp; try with_reducible rfl)
                            simp only [Act.put, List.getElem_toArray, List.getElem_cons_succ, List.getElem_cons_zero, List.setIfInBounds_toArray, List.set_cons_zero, List.set_cons_succ]
                            refine wpAnyH_ready (rs := [27]) (by kernel_rfl) (by simp) ?_
                            refine AllReadyH.cons (o := _) rfl (fun K hK => ?_) ?_
                            · clear hHeld
                              go_simp
                              refine (awake20_calls _ HT.out).mono ?_
                              rintro e W29 ⟨rfl, hB⟩
                              replace HA := Lib.hid (HA.out.below hB)
                              replace HB := Lib.hid (HB.out.trans (hB.mono HB.out.size))
                              replace HI := Lib.hid (HI.out.grow hB)
                              replace HT := Lib.hid (fun j hj => keep_below hB _ _ (HT.out j hj))
                              replace HSH := Lib.hid (HSH.out.below hB)
                              replace HR1 := Lib.hid (HR1.out.below hB)
                              replace HR2 := Lib.hid (HR2.out.below hB)
                              replace HX := Lib.hid (HX.out.grow hB)
                              replace HY := Lib.hid (HY.out.grow hB)
                              replace HYI := Lib.hid (HYI.out.grow hB)
                              replace HLV := Lib.hid (HLV.out.below hB)
                              replace HLP := Lib.hid (HLP.out.grow hB)
                              replace HX1 := Lib.hid (HX1.out.grow hB)
                              replace HP1 := Lib.hid (HP1.out.grow hB)
                              replace HX2 := Lib.hid (HX2.out.grow hB)
                              replace HP2 := Lib.hid (HP2.out.grow hB)
                              replace HX3 := Lib.hid (HX3.out.grow hB)
                              replace HX4 := Lib.hid (HX4.out.grow hB)
                              replace HP4 := Lib.hid (HP4.out.grow hB)
                              clear hB
                              refine hK.out _ _ ?_ (fun hHeld => ?_)
                              · exact ⟨HA.out.2.1, HA.out.2.2.1, HA.out.2.2.2.1, HR1.out.2.1, HR1.out.2.2.1, HR2.out.2.1, HR2.out.2.2.1, HR2.out.2.2.2.1, HLV.out.2.1, HLV.out.2.2.1, HLV.out.2.2.2.1⟩
                              clear hK K
                              refine wpAnyH_take (i := 28) (v := ?_) rfl (by kernel_rfl) (by kernel_rfl) (by kernel_rfl) (fun _ _ _ h => h) (Or.inl ⟨by rfl, ?_⟩) (by assumption) ?_
                              rotate_left
                              · (intro w hSw; (try dsimp only at hSw); go_simp; try with_reducible rfl)
                              simp only [Act.put, List.getElem_toArray, List.getElem_cons_succ, List.getElem_cons_zero, List.setIfInBounds_toArray, List.set_cons_zero, List.set_cons_succ]
                              refine wpAnyH_take (i := 29) (v := ?_) rfl (by kernel_rfl) (by kernel_rfl) (by kernel_rfl) (fun _ _ _ h => h) (Or.inl ⟨by rfl, ?_⟩) (by assumption) ?_
                              rotate_left
                              · (intro w hSw; (try dsimp only at hSw); go_simp; try with_reducible rfl)
                              simp only [Act.put, List.getElem_toArray, List.getElem_cons_succ, List.getElem_cons_zero, List.setIfInBounds_toArray, List.set_cons_zero, List.set_cons_succ]
                              refine wpAnyH_done (by kernel_rfl) ?_ _
                              clear hHeld
                              have cHA0 := HA.out.2.1
                              have cHA1 := HA.out.2.2.1
                              have cHA2 := HA.out.2.2.2.1
                              have cHR10 := HR1.out.2.1
                              have cHR11 := HR1.out.2.2.1
                              have cHR20 := HR2.out.2.1
                              have cHR21 := HR2.out.2.2.1
                              have cHR22 := HR2.out.2.2.2.1
                              have cHLV0 := HLV.out.2.1
                              have cHLV1 := HLV.out.2.2.1
                              have cHLV2 := HLV.out.2.2.2.1
                              go_wp2_with fail
                              go_ret
                              exact BoolIs.mk rfl HB.out
                            exact AllReadyH.nil
                          exact AllReadyH.nil
                        exact AllReadyH.nil
                      exact AllReadyH.nil
                    exact AllReadyH.nil
                  exact AllReadyH.nil
                exact AllReadyH.nil
              exact AllReadyH.nil
            exact AllReadyH.nil
          exact AllReadyH.nil
        exact AllReadyH.nil
      exact AllReadyH.nil
    · obtain ⟨b9, off9, cap9, x9, e9, hx9, hc9⟩ := Slc.at_map (Value.int .i64) (l := p.s) (by rw [HM.out]; exact HSH.out) 0 (by rw [HM.out]; exact hmp)
      rw [HM.out] at e9
      cases e9
      have hx : x9 = N := by
        rw [← hNN]
        cases hps : p.s with
        | nil => rw [hps] at hx9; cases hx9
        | cons a r => rw [hps] at hx9; exact (Option.some.inj hx9).symm
      subst hx
      clear hx9 hNN
      have hc8 : W13.cell? ⟨b9, off9, none⟩ = some (.int .i64 x9) := hc9
      clear hc9
      have q0 := HA.out.2.1
      have q1 := HA.out.2.2.1
      have q2 := HA.out.2.2.2.1
      have q3 := HR2.out.2.1
      have q4 := HR2.out.2.2.1
      have q5 := HR2.out.2.2.2.1
      have HAo := HA
      have HBo := HB
      have HIo := HI
      have HTo := HT
      have HSHo := HSH
      have HR1o := HR1
      have HR2o := HR2
      have HXo := HX
      have HYo := HY
      have HYIo := HYI
      have HQ := Lib.hid (Below.refl W13.heap.size W13)
      obtain ⟨W14, hWn⟩ : ∃ xw9, W13.alloc (.cells #[.slice t1 m k1, .slice t2 n k2, .int .i64 f] 25) = xw9 := ⟨_, rfl⟩
      have hB : Below W13.heap.size W13 W14 := by rw [← hWn]; exact below_new _ _
      have hNB : At3 W14 W13.heap.size (.slice t1 m k1) (.slice t2 n k2) (.int .i64 f) := by rw [← hWn]; exact At3.new _ _ _ _ _
      replace HA := Lib.hid (HA.out.below hB)
      replace HB := Lib.hid (HB.out.trans (hB.mono HB.out.size))
      replace HI := Lib.hid (HI.out.grow hB)
      replace HT := Lib.hid (fun j hj => keep_below hB _ _ (HT.out j hj))
      replace HSH := Lib.hid (HSH.out.below hB)
      replace HR1 := Lib.hid (HR1.out.below hB)
      replace HR2 := Lib.hid (HR2.out.below hB)
      replace HX := Lib.hid (HX.out.grow hB)
      replace HY := Lib.hid (HY.out.grow hB)
      replace HYI := Lib.hid (HYI.out.grow hB)
      replace HQ := Lib.hid (HQ.out.trans (hB.mono HQ.out.size))
      have HL := Lib.hid hNB
      clear hNB hB
      have hWl := hWn
      clear hWn
      have q6 := HA.out.2.1
      have q7 := HA.out.2.2.1
      have q8 := HA.out.2.2.2.1
      have HLZ := Lib.hid HL.out.1
      obtain ⟨W15, hWn⟩ : ∃ xw9, W14.alloc (.cells #[.int .i64 (n : Int)] 3) = xw9 := ⟨_, rfl⟩
      have hB : Below W14.heap.size W14 W15 := by rw [← hWn]; exact below_new _ _
      have hNS : Slc W15 (fun b => b = W14.heap.size) (.slice (some ⟨W14.heap.size, 0, none⟩) 1 1) 1 (ints [(n : Int)]) := by
        rw [← hWn]
        refine ⟨⟨rfl, _, _, rfl, fun i hi => ⟨_, 0, rfl, rfl, ?_⟩⟩, _, _, rfl, Nat.le_refl _, by unfold maxLen; omega⟩
        obtain rfl : i = 0 := by simp [ints] at hi; omega
        simp [ints]
      replace HA := Lib.hid (HA.out.below hB)
      replace HB := Lib.hid (HB.out.trans (hB.mono HB.out.size))
      replace HI := Lib.hid (HI.out.grow hB)
      replace HT := Lib.hid (fun j hj => keep_below hB _ _ (HT.out j hj))
      replace HSH := Lib.hid (HSH.out.below hB)
      replace HR1 := Lib.hid (HR1.out.below hB)
      replace HR2 := Lib.hid (HR2.out.below hB)
      replace HX := Lib.hid (HX.out.grow hB)
      replace HY := Lib.hid (HY.out.grow hB)
      replace HYI := Lib.hid (HYI.out.grow hB)
      replace HQ := Lib.hid (HQ.out.trans (hB.mono HQ.out.size))
      replace HL := Lib.hid (HL.out.below hB)
      have HSN := Lib.hid hNS
      clear hNS hB
      have cHA0 := HA.out.2.1
      have cHA1 := HA.out.2.2.1
      have cHA2 := HA.out.2.2.2.1
      have cHR10 := HR1.out.2.1
      have cHR11 := HR1.out.2.2.1
      have cHR20 := HR2.out.2.1
      have cHR21 := HR2.out.2.2.1
      have cHR22 := HR2.out.2.2.2.1
      have cHL0 := HL.out.2.1
      have cHL1 := HL.out.2.2.1
      have cHL2 := HL.out.2.2.2.1
      have zHL0 := HL.out.2.2.2.2 0
      have zHL1 := HL.out.2.2.2.2 1
      have zHL2 := HL.out.2.2.2.2 2
      go_wp2_with fail
      clear hWn hWl q0 q1 q2 q3 q4 q5 q6 q7 q8
      clear hc8
      clear cHA0 cHA1 cHA2 cHR10 cHR11 cHR20 cHR21 cHR22 cHL0 cHL1 cHL2 zHL0 zHL1 zHL2
      obtain ⟨W16, hWn⟩ : ∃ xw9, W15.setCell ⟨W13.heap.size, 0, none⟩ (.slice (some ⟨W14.heap.size, 0, none⟩) 1 1) = xw9 := ⟨_, rfl⟩
      rw [hWn]
      have hNL : At3 W16 W13.heap.size (.slice (some ⟨W14.heap.size, 0, none⟩) 1 1) (.slice t2 n k2) (.int .i64 f) := by rw [← hWn]; exact HL.out.set0 _
      have hNS : Slc W16 (fun b => b = W14.heap.size) (.slice (some ⟨W14.heap.size, 0, none⟩) 1 1) 1 (ints [(n : Int)]) := by rw [← hWn]; exact HSN.out.keep (Kept.setCell _ _ _ (by have := HLZ.out; simp only; omega)) (fun _ _ h => h)
      have hB : Below W13.heap.size W13 W16 := by rw [← hWn]; exact HQ.out.setCell (p := ⟨W13.heap.size, 0, none⟩) (Nat.le_refl _) _
      clear hWn
      replace HA := Lib.hid (HAo.out.below hB)
      clear HAo
      replace HB := Lib.hid (HBo.out.trans (hB.mono HBo.out.size))
      clear HBo
      replace HI := Lib.hid (HIo.out.grow hB)
      clear HIo
      replace HT := Lib.hid (fun j hj => keep_below hB _ _ (HTo.out j hj))
      clear HTo
      replace HSH := Lib.hid (HSHo.out.below hB)
      clear HSHo
      replace HR1 := Lib.hid (HR1o.out.below hB)
      clear HR1o
      replace HR2 := Lib.hid (HR2o.out.below hB)
      clear HR2o
      replace HX := Lib.hid (HXo.out.grow hB)
      clear HXo
      replace HY := Lib.hid (HYo.out.grow hB)
      clear HYo
      replace HYI := Lib.hid (HYIo.out.grow hB)
      clear HYIo
      have HLV := Lib.hid hNL
      have HLP := Lib.hid (show IsP W16 (fun _ => True) (.agg #[.slice (some ⟨W14.heap.size, 0, none⟩) 1 1, .slice t2 n k2, .int .i64 f]) (.mk [(n : Int)] TP.l f) from IsP.of (hNS.keep (Kept.refl _ _) (fun _ _ _ => trivial)) HYI.out)
      obtain ⟨r3, hr3⟩ : ∃ x, W13.heap.size = x := ⟨_, rfl⟩
      obtain ⟨b3, hb3⟩ : ∃ x, W14.heap.size = x := ⟨_, rfl⟩
      rw [hr3] at HLV ⊢
      rw [hb3] at HLV HLP
      clear hr3 hb3 hNL hNS hB HQ HL HSN HLZ
      have HE1 := Lib.hid (shape_arr20 HMD.out)
      have HE2 := Lib.hid (tally_arr20 HMD.out)
      have HE3 := Lib.hid (ravel_arr20 HMD.out)
      have HE4 := Lib.hid (table_arr20 HMD.out)
      rw [HNN.out] at HE2
      rw [HN.out, HF.out] at HE3
      obtain ⟨W17, hWD⟩ : ∃ xw9, W16.drew = xw9 := ⟨_, rfl⟩
      have hB : Below W16.heap.size W16 W17 := by rw [← hWD]; exact Below.drewN' (Below.refl _ _) 1
      replace HA := Lib.hid (HA.out.below hB)
      replace HB := Lib.hid (HB.out.trans (hB.mono HB.out.size))
      replace HI := Lib.hid (HI.out.grow hB)
      replace HT := Lib.hid (fun j hj => keep_below hB _ _ (HT.out j hj))
      replace HSH := Lib.hid (HSH.out.below hB)
      replace HR1 := Lib.hid (HR1.out.below hB)
      replace HR2 := Lib.hid (HR2.out.below hB)
      replace HX := Lib.hid (HX.out.grow hB)
      replace HY := Lib.hid (HY.out.grow hB)
      replace HYI := Lib.hid (HYI.out.grow hB)
      replace HLV := Lib.hid (HLV.out.below hB)
      replace HLP := Lib.hid (HLP.out.grow hB)
      clear hB
      refine wp_region_held_drew (S := fun w' => w'.cell? ⟨w.heap.size, 0, none⟩ = some (.slice (some ⟨b9, off9, none⟩) m sc) ∧ w'.cell? ⟨w.heap.size, 1, none⟩ = some (.slice io n ic) ∧ w'.cell? ⟨w.heap.size, 2, none⟩ = some (.int .i64 f) ∧ w'.cell? ⟨r1, 0, none⟩ = some (.slice s3 m c3) ∧ w'.cell? ⟨r1, 1, none⟩ = some (ua) ∧ w'.cell? ⟨r2, 0, none⟩ = some (.slice t1 m k1) ∧ w'.cell? ⟨r2, 1, none⟩ = some (.slice t2 n k2) ∧ w'.cell? ⟨r2, 2, none⟩ = some (.int .i64 f) ∧ w'.cell? ⟨r3, 0, none⟩ = some (.slice (some ⟨b3, 0, none⟩) 1 1) ∧ w'.cell? ⟨r3, 1, none⟩ = some (.slice t2 n k2) ∧ w'.cell? ⟨r3, 2, none⟩ = some (.int .i64 f)) (by kernel_rfl) (by rw [hWD]; exact ⟨HA.out.2.1, HA.out.2.2.1, HA.out.2.2.2.1, HR1.out.2.1, HR1.out.2.2.1, HR2.out.2.1, HR2.out.2.2.1, HR2.out.2.2.2.1, HLV.out.2.1, HLV.out.2.2.1, HLV.out.2.2.2.1⟩) (fun hHeld => ?_)
      rw [hWD] at hHeld ⊢
      clear hWD
      refine wpAnyH_take (i := 0) (v := ?_) rfl (by kernel_rfl) (by kernel_rfl) (by kernel_rfl) (fun _ _ _ h => h) (Or.inl ⟨by rfl, ?_⟩) (by assumption) ?_
      rotate_left
      · (intro w hSw; (try dsimp only at hSw); go_simp; try with_reducible rfl)
      simp only [Act.put, List.getElem_toArray, List.getElem_cons_zero, List.setIfInBounds_toArray, List.set_cons_zero, List.set_cons_succ]
      refine wpAnyH_take (i := 2) (v := ?_) rfl (by kernel_rfl) (by kernel_rfl) (by kernel_rfl) (fun _ _ _ h => h) (Or.inl ⟨by rfl, ?_⟩) (by assumption) ?_
      rotate_left
      · (intro w hSw; (try dsimp only at hSw); go_simp; try with_reducible rfl)
      simp only [Act.put, List.getElem_toArray, List.getElem_cons_succ, List.getElem_cons_zero, List.setIfInBounds_toArray, List.set_cons_zero, List.set_cons_succ]
      refine wpAnyH_ready (rs := [1]) (by kernel_rfl) (by simp) ?_
      refine AllReadyH.cons (o := _) rfl (fun K hK => ?_) ?_
      · clear hHeld
        go_simp
        refine (rsshape_calls _ ua A _ HX.out HMD.out.good HT.out).mono ?_
        rintro e W18 ⟨xas, xac, xau, rfl, hxa, hB⟩
        replace HA := Lib.hid (HA.out.below hB)
        replace HB := Lib.hid (HB.out.trans (hB.mono HB.out.size))
        replace HI := Lib.hid (HI.out.grow hB)
        replace HT := Lib.hid (fun j hj => keep_below hB _ _ (HT.out j hj))
        replace HSH := Lib.hid (HSH.out.below hB)
        replace HR1 := Lib.hid (HR1.out.below hB)
        replace HR2 := Lib.hid (HR2.out.below hB)
        replace HX := Lib.hid (HX.out.grow hB)
        replace HY := Lib.hid (HY.out.grow hB)
        replace HYI := Lib.hid (HYI.out.grow hB)
        replace HLV := Lib.hid (HLV.out.below hB)
        replace HLP := Lib.hid (HLP.out.grow hB)
        have HX1 := Lib.hid hxa
        clear hxa
        clear hB
        refine hK.out _ _ ?_ (fun hHeld => ?_)
        · exact ⟨HA.out.2.1, HA.out.2.2.1, HA.out.2.2.2.1, HR1.out.2.1, HR1.out.2.2.1, HR2.out.2.1, HR2.out.2.2.1, HR2.out.2.2.2.1, HLV.out.2.1, HLV.out.2.2.1, HLV.out.2.2.2.1⟩
        clear hK K
        refine wpAnyH_ready (rs := [3]) (by kernel_rfl) (by simp) ?_
        refine AllReadyH.cons (o := _) rfl (fun K hK => ?_) ?_
        · clear hHeld
          go_simp
          refine (rshape20_calls _ p _ HI.out (by rw [HM.out]; exact HM8.out)).mono ?_
          rintro e W19 ⟨p1, rfl, hp1, hB⟩
          replace HA := Lib.hid (HA.out.below hB)
          replace HB := Lib.hid (HB.out.trans (hB.mono HB.out.size))
          replace HI := Lib.hid (HI.out.grow hB)
          replace HT := Lib.hid (fun j hj => keep_below hB _ _ (HT.out j hj))
          replace HSH := Lib.hid (HSH.out.below hB)
          replace HR1 := Lib.hid (HR1.out.below hB)
          replace HR2 := Lib.hid (HR2.out.below hB)
          replace HX := Lib.hid (HX.out.grow hB)
          replace HY := Lib.hid (HY.out.grow hB)
          replace HYI := Lib.hid (HYI.out.grow hB)
          replace HLV := Lib.hid (HLV.out.below hB)
          replace HLP := Lib.hid (HLP.out.grow hB)
          replace HX1 := Lib.hid (HX1.out.grow hB)
          have HP1 := Lib.hid (IsP.wide hp1 (ok' := fun _ => True) (fun _ _ _ => trivial))
          clear hp1
          clear hB
          refine hK.out _ _ ?_ (fun hHeld => ?_)
          · exact ⟨HA.out.2.1, HA.out.2.2.1, HA.out.2.2.2.1, HR1.out.2.1, HR1.out.2.2.1, HR2.out.2.1, HR2.out.2.2.1, HR2.out.2.2.2.1, HLV.out.2.1, HLV.out.2.2.1, HLV.out.2.2.2.1⟩
          clear hK K
          refine wpAnyH_ready (rs := [4]) (by kernel_rfl) (by simp) ?_
          refine AllReadyH.cons (o := _) rfl (fun K hK => ?_) ?_
          · clear hHeld
            go_simp
            refine (shows20_calls _ _ ([(A.1.length : Int)], sqL (shF A.1)) _ _ _ HX1.out HE1.out.1 HP1.out HE1.out.2 HT.out).mono ?_
            rintro e W20 ⟨rfl, hB⟩
            replace HA := Lib.hid (HA.out.below hB)
            replace HB := Lib.hid (HB.out.trans (hB.mono HB.out.size))
            replace HI := Lib.hid (HI.out.grow hB)
            replace HT := Lib.hid (fun j hj => keep_below hB _ _ (HT.out j hj))
            replace HSH := Lib.hid (HSH.out.below hB)
            replace HR1 := Lib.hid (HR1.out.below hB)
            replace HR2 := Lib.hid (HR2.out.below hB)
            replace HX := Lib.hid (HX.out.grow hB)
            replace HY := Lib.hid (HY.out.grow hB)
            replace HYI := Lib.hid (HYI.out.grow hB)
            replace HLV := Lib.hid (HLV.out.below hB)
            replace HLP := Lib.hid (HLP.out.grow hB)
            replace HX1 := Lib.hid (HX1.out.grow hB)
            replace HP1 := Lib.hid (HP1.out.grow hB)
            clear hB
            refine hK.out _ _ ?_ (fun hHeld => ?_)
            · exact ⟨HA.out.2.1, HA.out.2.2.1, HA.out.2.2.2.1, HR1.out.2.1, HR1.out.2.2.1, HR2.out.2.1, HR2.out.2.2.1, HR2.out.2.2.2.1, HLV.out.2.1, HLV.out.2.2.1, HLV.out.2.2.2.1⟩
            clear hK K
            refine wpAnyH_take (i := 5) (v := ?_) rfl (by kernel_rfl) (by kernel_rfl) (by kernel_rfl) (fun _ _ _ h => h) (Or.inl ⟨by rfl, ?_⟩) (by assumption) ?_
            rotate_left
            · (intro w hSw; (try dsimp only at hSw); go_simp; try with_reducible rfl)
            simp only [Act.put, List.getElem_toArray, List.getElem_cons_succ, List.getElem_cons_zero, List.setIfInBounds_toArray, List.set_cons_zero, List.set_cons_succ]
            refine wpAnyH_take (i := 6) (v := ?_) rfl (by kernel_rfl) (by kernel_rfl) (by kernel_rfl) (fun _ _ _ h => h) (Or.inl ⟨by rfl, ?_⟩) (by assumption) ?_
            rotate_left
            · (intro w hSw; (try dsimp only at hSw); go_simp; try with_reducible rfl)
            simp only [Act.put, List.getElem_toArray, List.getElem_cons_succ, List.getElem_cons_zero, List.setIfInBounds_toArray, List.set_cons_zero, List.set_cons_succ]
            refine wpAnyH_take (i := 8) (v := ?_) rfl (by kernel_rfl) (by kernel_rfl) (by kernel_rfl) (fun _ _ _ h => h) (Or.inl ⟨by rfl, ?_⟩) (by assumption) ?_
            rotate_left
            · (intro w hSw; (try dsimp only at hSw); go_simp; try with_reducible rfl)
            simp only [Act.put, List.getElem_toArray, List.getElem_cons_succ, List.getElem_cons_zero, List.setIfInBounds_toArray, List.set_cons_zero, List.set_cons_succ]
            refine wpAnyH_take (i := 9) (v := ?_) rfl (by kernel_rfl) (by kernel_rfl) (by kernel_rfl) (fun _ _ _ h => h) (Or.inl ⟨by rfl, ?_⟩) (by assumption) ?_
            rotate_left
            · (intro w hSw; (try dsimp only at hSw); go_simp; try with_reducible rfl)
            simp only [Act.put, List.getElem_toArray, List.getElem_cons_succ, List.getElem_cons_zero, List.setIfInBounds_toArray, List.set_cons_zero, List.set_cons_succ]
            refine wpAnyH_ready (rs := [7]) (by kernel_rfl) (by simp) ?_
            refine AllReadyH.cons (o := _) rfl (fun K hK => ?_) ?_
            · clear hHeld
              go_simp
              refine (rstally_calls _ ua A _ HX.out HMD.out.good HT.out).mono ?_
              rintro e W21 ⟨xbs, xbc, xbu, rfl, hxb, hB⟩
              replace HA := Lib.hid (HA.out.below hB)
              replace HB := Lib.hid (HB.out.trans (hB.mono HB.out.size))
              replace HI := Lib.hid (HI.out.grow hB)
              replace HT := Lib.hid (fun j hj => keep_below hB _ _ (HT.out j hj))
              replace HSH := Lib.hid (HSH.out.below hB)
              replace HR1 := Lib.hid (HR1.out.below hB)
              replace HR2 := Lib.hid (HR2.out.below hB)
              replace HX := Lib.hid (HX.out.grow hB)
              replace HY := Lib.hid (HY.out.grow hB)
              replace HYI := Lib.hid (HYI.out.grow hB)
              replace HLV := Lib.hid (HLV.out.below hB)
              replace HLP := Lib.hid (HLP.out.grow hB)
              replace HX1 := Lib.hid (HX1.out.grow hB)
              replace HP1 := Lib.hid (HP1.out.grow hB)
              have HX2 := Lib.hid hxb
              clear hxb
              clear hB
              refine hK.out _ _ ?_ (fun hHeld => ?_)
              · exact ⟨HA.out.2.1, HA.out.2.2.1, HA.out.2.2.2.1, HR1.out.2.1, HR1.out.2.2.1, HR2.out.2.1, HR2.out.2.2.1, HR2.out.2.2.2.1, HLV.out.2.1, HLV.out.2.2.1, HLV.out.2.2.2.1⟩
              clear hK K
              refine wpAnyH_ready (rs := [10]) (by kernel_rfl) (by simp) ?_
              refine AllReadyH.cons (o := _) rfl (fun K hK => ?_) ?_
              · clear hHeld
                go_simp
                refine (rNum_calls (floatOfInt .f64 x9) _).mono ?_
                rintro e W22 ⟨p2, rfl, hp2, hB⟩
                replace HA := Lib.hid (HA.out.below hB)
                replace HB := Lib.hid (HB.out.trans (hB.mono HB.out.size))
                replace HI := Lib.hid (HI.out.grow hB)
                replace HT := Lib.hid (fun j hj => keep_below hB _ _ (HT.out j hj))
                replace HSH := Lib.hid (HSH.out.below hB)
                replace HR1 := Lib.hid (HR1.out.below hB)
                replace HR2 := Lib.hid (HR2.out.below hB)
                replace HX := Lib.hid (HX.out.grow hB)
                replace HY := Lib.hid (HY.out.grow hB)
                replace HYI := Lib.hid (HYI.out.grow hB)
                replace HLV := Lib.hid (HLV.out.below hB)
                replace HLP := Lib.hid (HLP.out.grow hB)
                replace HX1 := Lib.hid (HX1.out.grow hB)
                replace HP1 := Lib.hid (HP1.out.grow hB)
                replace HX2 := Lib.hid (HX2.out.grow hB)
                have HP2 := Lib.hid (IsP.wide hp2 (ok' := fun _ => True) (fun _ _ _ => trivial))
                clear hp2
                clear hB
                refine hK.out _ _ ?_ (fun hHeld => ?_)
                · exact ⟨HA.out.2.1, HA.out.2.2.1, HA.out.2.2.2.1, HR1.out.2.1, HR1.out.2.2.1, HR2.out.2.1, HR2.out.2.2.1, HR2.out.2.2.2.1, HLV.out.2.1, HLV.out.2.2.1, HLV.out.2.2.2.1⟩
                clear hK K
                refine wpAnyH_ready (rs := [11]) (by kernel_rfl) (by simp) ?_
                refine AllReadyH.cons (o := _) rfl (fun K hK => ?_) ?_
                · clear hHeld
                  go_simp
                  refine (shows20_calls _ _ ([], sqL [floatOfInt .f64 (tabN A.1)]) _ _ _ HX2.out HE2.out.1 HP2.out HE2.out.2 HT.out).mono ?_
                  rintro e W23 ⟨rfl, hB⟩
                  replace HA := Lib.hid (HA.out.below hB)
                  replace HB := Lib.hid (HB.out.trans (hB.mono HB.out.size))
                  replace HI := Lib.hid (HI.out.grow hB)
                  replace HT := Lib.hid (fun j hj => keep_below hB _ _ (HT.out j hj))
                  replace HSH := Lib.hid (HSH.out.below hB)
                  replace HR1 := Lib.hid (HR1.out.below hB)
                  replace HR2 := Lib.hid (HR2.out.below hB)
                  replace HX := Lib.hid (HX.out.grow hB)
                  replace HY := Lib.hid (HY.out.grow hB)
                  replace HYI := Lib.hid (HYI.out.grow hB)
                  replace HLV := Lib.hid (HLV.out.below hB)
                  replace HLP := Lib.hid (HLP.out.grow hB)
                  replace HX1 := Lib.hid (HX1.out.grow hB)
                  replace HP1 := Lib.hid (HP1.out.grow hB)
                  replace HX2 := Lib.hid (HX2.out.grow hB)
                  replace HP2 := Lib.hid (HP2.out.grow hB)
                  clear hB
                  refine hK.out _ _ ?_ (fun hHeld => ?_)
                  · exact ⟨HA.out.2.1, HA.out.2.2.1, HA.out.2.2.2.1, HR1.out.2.1, HR1.out.2.2.1, HR2.out.2.1, HR2.out.2.2.1, HR2.out.2.2.2.1, HLV.out.2.1, HLV.out.2.2.1, HLV.out.2.2.2.1⟩
                  clear hK K
                  refine wpAnyH_take (i := 12) (v := ?_) rfl (by kernel_rfl) (by kernel_rfl) (by kernel_rfl) (fun _ _ _ h => h) (Or.inl ⟨by rfl, ?_⟩) (by assumption) ?_
                  rotate_left
                  · (intro w hSw; (try dsimp only at hSw); go_simp; try with_reducible rfl)
                  simp only [Act.put, List.getElem_toArray, List.getElem_cons_succ, List.getElem_cons_zero, List.setIfInBounds_toArray, List.set_cons_zero, List.set_cons_succ]
                  refine wpAnyH_take (i := 13) (v := ?_) rfl (by kernel_rfl) (by kernel_rfl) (by kernel_rfl) (fun _ _ _ h => h) (Or.inl ⟨by rfl, ?_⟩) (by assumption) ?_
                  rotate_left
                  · (intro w hSw; (try dsimp only at hSw); go_simp; try with_reducible rfl)
                  simp only [Act.put, List.getElem_toArray, List.getElem_cons_succ, List.getElem_cons_zero, List.setIfInBounds_toArray, List.set_cons_zero, List.set_cons_succ]
                  refine wpAnyH_take (i := 14) (v := ?_) rfl (by kernel_rfl) (by kernel_rfl) (by kernel_rfl) (fun _ _ _ h => h) (Or.inl ⟨by rfl, ?_⟩) (by assumption) ?_
                  rotate_left
                  · (intro w hSw; (try dsimp only at hSw); go_simp; try with_reducible rfl)
                  simp only [Act.put, List.getElem_toArray, List.getElem_cons_succ, List.getElem_cons_zero, List.setIfInBounds_toArray, List.set_cons_zero, List.set_cons_succ]
                  refine wpAnyH_take (i := 16) (v := ?_) rfl (by kernel_rfl) (by kernel_rfl) (by kernel_rfl) (fun _ _ _ h => h) (Or.inl ⟨by rfl, ?_⟩) (by assumption) ?_
                  rotate_left
                  · (intro w hSw; (try dsimp only at hSw); go_simp; try with_reducible rfl)
                  simp only [Act.put, List.getElem_toArray, List.getElem_cons_succ, List.getElem_cons_zero, List.setIfInBounds_toArray, List.set_cons_zero, List.set_cons_succ]
                  refine wpAnyH_ready (rs := [15]) (by kernel_rfl) (by simp) ?_
                  refine AllReadyH.cons (o := _) rfl (fun K hK => ?_) ?_
                  · clear hHeld
                    go_simp
                    refine (rsravel_calls _ ua A _ HX.out HMD.out.good HT.out).mono ?_
                    rintro e W24 ⟨xcs, xcc, xcu, rfl, hxc, hB⟩
                    replace HA := Lib.hid (HA.out.below hB)
                    replace HB := Lib.hid (HB.out.trans (hB.mono HB.out.size))
                    replace HI := Lib.hid (HI.out.grow hB)
                    replace HT := Lib.hid (fun j hj => keep_below hB _ _ (HT.out j hj))
                    replace HSH := Lib.hid (HSH.out.below hB)
                    replace HR1 := Lib.hid (HR1.out.below hB)
                    replace HR2 := Lib.hid (HR2.out.below hB)
                    replace HX := Lib.hid (HX.out.grow hB)
                    replace HY := Lib.hid (HY.out.grow hB)
                    replace HYI := Lib.hid (HYI.out.grow hB)
                    replace HLV := Lib.hid (HLV.out.below hB)
                    replace HLP := Lib.hid (HLP.out.grow hB)
                    replace HX1 := Lib.hid (HX1.out.grow hB)
                    replace HP1 := Lib.hid (HP1.out.grow hB)
                    replace HX2 := Lib.hid (HX2.out.grow hB)
                    replace HP2 := Lib.hid (HP2.out.grow hB)
                    have HX3 := Lib.hid hxc
                    clear hxc
                    clear hB
                    refine hK.out _ _ ?_ (fun hHeld => ?_)
                    · exact ⟨HA.out.2.1, HA.out.2.2.1, HA.out.2.2.2.1, HR1.out.2.1, HR1.out.2.2.1, HR2.out.2.1, HR2.out.2.2.1, HR2.out.2.2.2.1, HLV.out.2.1, HLV.out.2.2.1, HLV.out.2.2.2.1⟩
                    clear hK K
                    refine wpAnyH_ready (rs := [17]) (by kernel_rfl) (by simp) ?_
                    refine AllReadyH.cons (o := _) rfl (fun K hK => ?_) ?_
                    · clear hHeld
                      go_simp
                      refine (shows20_calls _ _ ([(A.2.len : Int)], A.2) _ _ _ HX3.out HE3.out.1 HLP.out HE3.out.2 HT.out).mono ?_
                      rintro e W25 ⟨rfl, hB⟩
                      replace HA := Lib.hid (HA.out.below hB)
                      replace HB := Lib.hid (HB.out.trans (hB.mono HB.out.size))
                      replace HI := Lib.hid (HI.out.grow hB)
                      replace HT := Lib.hid (fun j hj => keep_below hB _ _ (HT.out j hj))
                      replace HSH := Lib.hid (HSH.out.below hB)
                      replace HR1 := Lib.hid (HR1.out.below hB)
                      replace HR2 := Lib.hid (HR2.out.below hB)
                      replace HX := Lib.hid (HX.out.grow hB)
                      replace HY := Lib.hid (HY.out.grow hB)
                      replace HYI := Lib.hid (HYI.out.grow hB)
                      replace HLV := Lib.hid (HLV.out.below hB)
                      replace HLP := Lib.hid (HLP.out.grow hB)
                      replace HX1 := Lib.hid (HX1.out.grow hB)
                      replace HP1 := Lib.hid (HP1.out.grow hB)
                      replace HX2 := Lib.hid (HX2.out.grow hB)
                      replace HP2 := Lib.hid (HP2.out.grow hB)
                      replace HX3 := Lib.hid (HX3.out.grow hB)
                      clear hB
                      refine hK.out _ _ ?_ (fun hHeld => ?_)
                      · exact ⟨HA.out.2.1, HA.out.2.2.1, HA.out.2.2.2.1, HR1.out.2.1, HR1.out.2.2.1, HR2.out.2.1, HR2.out.2.2.1, HR2.out.2.2.2.1, HLV.out.2.1, HLV.out.2.2.1, HLV.out.2.2.2.1⟩
                      clear hK K
                      refine wpAnyH_take (i := 18) (v := ?_) rfl (by kernel_rfl) (by kernel_rfl) (by kernel_rfl) (fun _ _ _ h => h) (Or.inl ⟨by rfl, ?_⟩) (by assumption) ?_
                      rotate_left
                      · (intro w hSw; (try dsimp only at hSw); go_simp; try with_reducible rfl)
                      simp only [Act.put, List.getElem_toArray, List.getElem_cons_succ, List.getElem_cons_zero, List.setIfInBounds_toArray, List.set_cons_zero, List.set_cons_succ]
                      refine wpAnyH_take (i := 19) (v := ?_) rfl (by kernel_rfl) (by kernel_rfl) (by kernel_rfl) (fun _ _ _ h => h) (Or.inl ⟨by rfl, ?_⟩) (by assumption) ?_
                      rotate_left
                      · (intro w hSw; (try dsimp only at hSw); go_simp; try with_reducible rfl)
                      simp only [Act.put, List.getElem_toArray, List.getElem_cons_succ, List.getElem_cons_zero, List.setIfInBounds_toArray, List.set_cons_zero, List.set_cons_succ]
                      refine wpAnyH_take (i := 20) (v := ?_) rfl (by kernel_rfl) (by kernel_rfl) (by kernel_rfl) (fun _ _ _ h => h) (Or.inl ⟨by rfl, ?_⟩) (by assumption) ?_
                      rotate_left
                      · (intro w hSw; (try dsimp only at hSw); go_simp; try with_reducible rfl)
                      simp only [Act.put, List.getElem_toArray, List.getElem_cons_succ, List.getElem_cons_zero, List.setIfInBounds_toArray, List.set_cons_zero, List.set_cons_succ]
                      refine wpAnyH_take (i := 22) (v := ?_) rfl (by kernel_rfl) (by kernel_rfl) (by kernel_rfl) (fun _ _ _ h => h) (Or.inl ⟨by rfl, ?_⟩) (by assumption) ?_
                      rotate_left
                      · (intro w hSw; (try dsimp only at hSw); go_simp; try with_reducible rfl)
                      simp only [Act.put, List.getElem_toArray, List.getElem_cons_succ, List.getElem_cons_zero, List.setIfInBounds_toArray, List.set_cons_zero, List.set_cons_succ]
                      refine wpAnyH_ready (rs := [21]) (by kernel_rfl) (by simp) ?_
                      refine AllReadyH.cons (o := _) rfl (fun K hK => ?_) ?_
                      · clear hHeld
                        go_simp
                        refine (rstable_calls _ ua A _ HX.out HMD.out.good HT.out).mono ?_
                        rintro e W26 ⟨xds, xdc, xdu, rfl, hxd, hB⟩
                        replace HA := Lib.hid (HA.out.below hB)
                        replace HB := Lib.hid (HB.out.trans (hB.mono HB.out.size))
                        replace HI := Lib.hid (HI.out.grow hB)
                        replace HT := Lib.hid (fun j hj => keep_below hB _ _ (HT.out j hj))
                        replace HSH := Lib.hid (HSH.out.below hB)
                        replace HR1 := Lib.hid (HR1.out.below hB)
                        replace HR2 := Lib.hid (HR2.out.below hB)
                        replace HX := Lib.hid (HX.out.grow hB)
                        replace HY := Lib.hid (HY.out.grow hB)
                        replace HYI := Lib.hid (HYI.out.grow hB)
                        replace HLV := Lib.hid (HLV.out.below hB)
                        replace HLP := Lib.hid (HLP.out.grow hB)
                        replace HX1 := Lib.hid (HX1.out.grow hB)
                        replace HP1 := Lib.hid (HP1.out.grow hB)
                        replace HX2 := Lib.hid (HX2.out.grow hB)
                        replace HP2 := Lib.hid (HP2.out.grow hB)
                        replace HX3 := Lib.hid (HX3.out.grow hB)
                        have HX4 := Lib.hid hxd
                        clear hxd
                        clear hB
                        refine hK.out _ _ ?_ (fun hHeld => ?_)
                        · exact ⟨HA.out.2.1, HA.out.2.2.1, HA.out.2.2.2.1, HR1.out.2.1, HR1.out.2.2.1, HR2.out.2.1, HR2.out.2.2.1, HR2.out.2.2.2.1, HLV.out.2.1, HLV.out.2.2.1, HLV.out.2.2.2.1⟩
                        clear hK K
                        refine wpAnyH_ready (rs := [23]) (by kernel_rfl) (by simp) ?_
                        refine AllReadyH.cons (o := _) rfl (fun K hK => ?_) ?_
                        · clear hHeld
                          go_simp
                          refine (rtable20_calls _ TP _ HY.out (by rw [HTS.out]; exact HM8.out)).mono ?_
                          rintro e W27 ⟨p4, rfl, hp4, hB⟩
                          replace HA := Lib.hid (HA.out.below hB)
                          replace HB := Lib.hid (HB.out.trans (hB.mono HB.out.size))
                          replace HI := Lib.hid (HI.out.grow hB)
                          replace HT := Lib.hid (fun j hj => keep_below hB _ _ (HT.out j hj))
                          replace HSH := Lib.hid (HSH.out.below hB)
                          replace HR1 := Lib.hid (HR1.out.below hB)
                          replace HR2 := Lib.hid (HR2.out.below hB)
                          replace HX := Lib.hid (HX.out.grow hB)
                          replace HY := Lib.hid (HY.out.grow hB)
                          replace HYI := Lib.hid (HYI.out.grow hB)
                          replace HLV := Lib.hid (HLV.out.below hB)
                          replace HLP := Lib.hid (HLP.out.grow hB)
                          replace HX1 := Lib.hid (HX1.out.grow hB)
                          replace HP1 := Lib.hid (HP1.out.grow hB)
                          replace HX2 := Lib.hid (HX2.out.grow hB)
                          replace HP2 := Lib.hid (HP2.out.grow hB)
                          replace HX3 := Lib.hid (HX3.out.grow hB)
                          replace HX4 := Lib.hid (HX4.out.grow hB)
                          have HP4 := Lib.hid (IsP.wide hp4 (ok' := fun _ => True) (fun _ _ _ => trivial))
                          clear hp4
                          clear hB
                          refine hK.out _ _ ?_ (fun hHeld => ?_)
                          · exact ⟨HA.out.2.1, HA.out.2.2.1, HA.out.2.2.2.1, HR1.out.2.1, HR1.out.2.2.1, HR2.out.2.1, HR2.out.2.2.1, HR2.out.2.2.2.1, HLV.out.2.1, HLV.out.2.2.1, HLV.out.2.2.2.1⟩
                          clear hK K
                          refine wpAnyH_ready (rs := [24]) (by kernel_rfl) (by simp) ?_
                          refine AllReadyH.cons (o := _) rfl (fun K hK => ?_) ?_
                          · clear hHeld
                            go_simp
                            refine (shows20_calls _ _ ([tabN A.1, tabM A.1], A.2) _ _ _ HX4.out HE4.out.1 HP4.out HE4.out.2 HT.out).mono ?_
                            rintro e W28 ⟨rfl, hB⟩
                            replace HA := Lib.hid (HA.out.below hB)
                            replace HB := Lib.hid (HB.out.trans (hB.mono HB.out.size))
                            replace HI := Lib.hid (HI.out.grow hB)
                            replace HT := Lib.hid (fun j hj => keep_below hB _ _ (HT.out j hj))
                            replace HSH := Lib.hid (HSH.out.below hB)
                            replace HR1 := Lib.hid (HR1.out.below hB)
                            replace HR2 := Lib.hid (HR2.out.below hB)
                            replace HX := Lib.hid (HX.out.grow hB)
                            replace HY := Lib.hid (HY.out.grow hB)
                            replace HYI := Lib.hid (HYI.out.grow hB)
                            replace HLV := Lib.hid (HLV.out.below hB)
                            replace HLP := Lib.hid (HLP.out.grow hB)
                            replace HX1 := Lib.hid (HX1.out.grow hB)
                            replace HP1 := Lib.hid (HP1.out.grow hB)
                            replace HX2 := Lib.hid (HX2.out.grow hB)
                            replace HP2 := Lib.hid (HP2.out.grow hB)
                            replace HX3 := Lib.hid (HX3.out.grow hB)
                            replace HX4 := Lib.hid (HX4.out.grow hB)
                            replace HP4 := Lib.hid (HP4.out.grow hB)
                            clear hB
                            refine hK.out _ _ ?_ (fun hHeld => ?_)
                            · exact ⟨HA.out.2.1, HA.out.2.2.1, HA.out.2.2.2.1, HR1.out.2.1, HR1.out.2.2.1, HR2.out.2.1, HR2.out.2.2.1, HR2.out.2.2.2.1, HLV.out.2.1, HLV.out.2.2.1, HLV.out.2.2.2.1⟩
                            clear hK K
                            refine wpAnyH_take (i := 25) (v := ?_) rfl (by kernel_rfl) (by kernel_rfl) (by kernel_rfl) (fun _ _ _ h => h) (Or.inl ⟨by rfl, ?_⟩) (by assumption) ?_
                            rotate_left
                            · (intro w hSw; (try dsimp only at hSw); go_simp; try with_reducible rfl)
                            simp only [Act.put, List.getElem_toArray, List.getElem_cons_succ, List.getElem_cons_zero, List.setIfInBounds_toArray, List.set_cons_zero, List.set_cons_succ]
                            refine wpAnyH_take (i := 26) (v := ?_) rfl (by kernel_rfl) (by kernel_rfl) (by kernel_rfl) (fun _ _ _ h => h) (Or.inl ⟨by rfl, ?_⟩) (by assumption) ?_
                            rotate_left
                            · (intro w hSw; (try dsimp only at hSw); go_simp; try with_reducible rfl)
                            simp only [Act.put, List.getElem_toArray, List.getElem_cons_succ, List.getElem_cons_zero, List.setIfInBounds_toArray, List.set_cons_zero, List.set_cons_succ]
                            refine wpAnyH_ready (rs := [27]) (by kernel_rfl) (by simp) ?_
                            refine AllReadyH.cons (o := _) rfl (fun K hK => ?_) ?_
                            · clear hHeld
                              go_simp
                              refine (awake20_calls _ HT.out).mono ?_
                              rintro e W29 ⟨rfl, hB⟩
                              replace HA := Lib.hid (HA.out.below hB)
                              replace HB := Lib.hid (HB.out.trans (hB.mono HB.out.size))
                              replace HI := Lib.hid (HI.out.grow hB)
                              replace HT := Lib.hid (fun j hj => keep_below hB _ _ (HT.out j hj))
                              replace HSH := Lib.hid (HSH.out.below hB)
                              replace HR1 := Lib.hid (HR1.out.below hB)
                              replace HR2 := Lib.hid (HR2.out.below hB)
                              replace HX := Lib.hid (HX.out.grow hB)
                              replace HY := Lib.hid (HY.out.grow hB)
                              replace HYI := Lib.hid (HYI.out.grow hB)
                              replace HLV := Lib.hid (HLV.out.below hB)
                              replace HLP := Lib.hid (HLP.out.grow hB)
                              replace HX1 := Lib.hid (HX1.out.grow hB)
                              replace HP1 := Lib.hid (HP1.out.grow hB)
                              replace HX2 := Lib.hid (HX2.out.grow hB)
                              replace HP2 := Lib.hid (HP2.out.grow hB)
                              replace HX3 := Lib.hid (HX3.out.grow hB)
                              replace HX4 := Lib.hid (HX4.out.grow hB)
                              replace HP4 := Lib.hid (HP4.out.grow hB)
                              clear hB
                              refine hK.out _ _ ?_ (fun hHeld => ?_)
                              · exact ⟨HA.out.2.1, HA.out.2.2.1, HA.out.2.2.2.1, HR1.out.2.1, HR1.out.2.2.1, HR2.out.2.1, HR2.out.2.2.1, HR2.out.2.2.2.1, HLV.out.2.1, HLV.out.2.2.1, HLV.out.2.2.2.1⟩
                              clear hK K
                              refine wpAnyH_take (i := 28) (v := ?_) rfl (by kernel_rfl) (by kernel_rfl) (by kernel_rfl) (fun _ _ _ h => h) (Or.inl ⟨by rfl, ?_⟩) (by assumption) ?_
                              rotate_left
                              · (intro w hSw; (try dsimp only at hSw); go_simp; try with_reducible rfl)
                              simp only [Act.put, List.getElem_toArray, List.getElem_cons_succ, List.getElem_cons_zero, List.setIfInBounds_toArray, List.set_cons_zero, List.set_cons_succ]
                              refine wpAnyH_take (i := 29) (v := ?_) rfl (by kernel_rfl) (by kernel_rfl) (by kernel_rfl) (fun _ _ _ h => h) (Or.inl ⟨by rfl, ?_⟩) (by assumption) ?_
                              rotate_left
                              · (intro w hSw; (try dsimp only at hSw); go_simp; try with_reducible rfl)
                              simp only [Act.put, List.getElem_toArray, List.getElem_cons_succ, List.getElem_cons_zero, List.setIfInBounds_toArray, List.set_cons_zero, List.set_cons_succ]
                              refine wpAnyH_done (by kernel_rfl) ?_ _
                              clear hHeld
                              have cHA0 := HA.out.2.1
                              have cHA1 := HA.out.2.2.1
                              have cHA2 := HA.out.2.2.2.1
                              have cHR10 := HR1.out.2.1
                              have cHR11 := HR1.out.2.2.1
                              have cHR20 := HR2.out.2.1
                              have cHR21 := HR2.out.2.2.1
                              have cHR22 := HR2.out.2.2.2.1
                              have cHLV0 := HLV.out.2.1
                              have cHLV1 := HLV.out.2.2.1
                              have cHLV2 := HLV.out.2.2.2.1
                              go_wp2_with fail
                              go_ret
                              exact BoolIs.mk rfl HB.out
                            exact AllReadyH.nil
                          exact AllReadyH.nil
                        exact AllReadyH.nil
                      exact AllReadyH.nil
                    exact AllReadyH.nil
                  exact AllReadyH.nil
                exact AllReadyH.nil
              exact AllReadyH.nil
            exact AllReadyH.nil
          exact AllReadyH.nil
        exact AllReadyH.nil
      exact AllReadyH.nil

theorem reshapeParts_frame (w : World) (u : Value) (p : PA) (n : Nat) (hl : lo n p) (hp : IsP w (fun _ => True) u p) (hT : TabAt w) :
    Calls Tryz.prog 3 #[u] w fun e w' => e = .returned (.bool true) ∧ Below w.heap.size w w' :=
  reshapeParts_walk p u n w hl hp hT
end Go.Proofs.YtbfcdpabjailcaaGreatDoor

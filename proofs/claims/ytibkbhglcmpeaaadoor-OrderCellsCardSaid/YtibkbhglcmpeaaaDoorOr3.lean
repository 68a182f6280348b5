/- Layer 16's law: OrderCells. -/
import Derived.Test.YtibkbhglcmpeaaaDoorMgOr1
namespace Go.Proofs.YtibkbhglcmpeaaaDoor
set_option maxRecDepth 100000
open Go.RowKit Fl
set_option linter.unusedVariables false

theorem fld_its16 (x y z : Value) (w : World) : (Instr.field 25 (.agg #[x, y, z]) 1).run Tryd.prog w = .ok y w := by kernel_rfl
set_option maxHeartbeats 16000000 in
theorem orderCells_walk (p : PA) (u : Value) (nd : Nat) (sz iz kz : Int) (down : Bool) (w : World) (hl : lo nd p) (hp : IsP w (fun _ => True) u p) (hT : TabAt w) :
    Calls Tryd.prog 4 #[u, .int .i64 sz, .int .i64 iz, .int .i64 kz, .bool down] w (Yes16 w) := by
  have HP := Lib.hid hp
  have HLO := Lib.hid hl
  obtain ⟨so, sc, io, ic, rfl, hs, hit⟩ := hp.opened
  obtain ⟨W1, hW1⟩ : ∃ W1, W1 = w.alloc (.cells #[.slice so p.s.length sc, .slice io p.l.length ic, .int .i64 p.f] 25) := ⟨_, rfl⟩
  have HB := Lib.hid (show Below w.heap.size w W1 by rw [hW1]; exact below_new _ _)
  have HA := Lib.hid (show At3 W1 w.heap.size (.slice so p.s.length sc) (.slice io p.l.length ic) (.int .i64 p.f) by rw [hW1]; exact At3.new w _ _ _ _)
  have HI := Lib.hid (show IsP W1 (fun _ => True) _ p from HP.out.grow HB.out)
  have HT := Lib.hid (show TabAt W1 from fun j hj => keep_below HB.out _ _ (hT j hj))
  have HLM := Lib.hid (show p.l.length ≤ maxLen by obtain ⟨a9, c9, e9, h8, h9⟩ := hit.len; omega)
  
  obtain ⟨n, hn⟩ : ∃ n, p.l.length = n := ⟨_, rfl⟩
  obtain ⟨f, hf⟩ : ∃ f, p.f = f := ⟨_, rfl⟩
  have HN := Lib.hid hn
  have HF := Lib.hid hf
  have hfold := hW1.symm
  clear hs hit hp hl hW1 hT 
  rw [hn, hf] at HA HI hfold ⊢
  clear hn hf HP
  have cHA0 := HA.out.2.1
  have cHA1 := HA.out.2.2.1
  have cHA2 := HA.out.2.2.2.1
  go_enter Tryd.func4, Tryd.ntmps4
  go_wp2_with fail
  clear hfold
  refine (good16_calls _ p _ nd _ HLO.out HI.out HLM.out).mono ?_
  rintro e W11 ⟨bg, rfl, hbg, hB⟩
  clear cHA0 cHA1 cHA2
  replace HA := Lib.hid (HA.out.below hB)
  replace HB := Lib.hid (HB.out.trans (hB.mono HB.out.size))
  replace HI := Lib.hid (HI.out.grow hB)
  replace HT := Lib.hid (fun j hj => keep_below hB _ _ (HT.out j hj))
  have HBG := Lib.hid hbg
  clear hbg
  clear hB
  have cHA0 := HA.out.2.1
  have cHA1 := HA.out.2.2.1
  have cHA2 := HA.out.2.2.2.1
  cases bg
  · go_wp2_with fail
    refine (awake16_calls _ HT.out).mono ?_
    rintro e W12 ⟨rfl, hB⟩
    clear cHA0 cHA1 cHA2
    replace HA := Lib.hid (HA.out.below hB)
    replace HB := Lib.hid (HB.out.trans (hB.mono HB.out.size))
    replace HI := Lib.hid (HI.out.grow hB)
    replace HT := Lib.hid (fun j hj => keep_below hB _ _ (HT.out j hj))
    clear hB
    have cHA0 := HA.out.2.1
    have cHA1 := HA.out.2.2.1
    have cHA2 := HA.out.2.2.2.1
    go_wp2_with fail
    go_ret
    exact ⟨rfl, HB.out⟩
  have HG := Lib.hid (HBG.out rfl)
  have hn3 : n ≤ 300 := by have := HG.out.2.1; rw [HN.out] at this; exact this
  by_cases g1 : sz < 1
  · go_wp2_with fail
    refine (awake16_calls _ HT.out).mono ?_
    rintro e W12 ⟨rfl, hB⟩
    clear cHA0 cHA1 cHA2
    replace HA := Lib.hid (HA.out.below hB)
    replace HB := Lib.hid (HB.out.trans (hB.mono HB.out.size))
    replace HI := Lib.hid (HI.out.grow hB)
    replace HT := Lib.hid (fun j hj => keep_below hB _ _ (HT.out j hj))
    clear hB
    have cHA0 := HA.out.2.1
    have cHA1 := HA.out.2.2.1
    have cHA2 := HA.out.2.2.2.1
    go_wp2_with fail
    go_ret
    exact ⟨rfl, HB.out⟩
  by_cases g2 : 300 < sz
  · go_wp2_with fail
    refine (awake16_calls _ HT.out).mono ?_
    rintro e W12 ⟨rfl, hB⟩
    clear cHA0 cHA1 cHA2
    replace HA := Lib.hid (HA.out.below hB)
    replace HB := Lib.hid (HB.out.trans (hB.mono HB.out.size))
    replace HI := Lib.hid (HI.out.grow hB)
    replace HT := Lib.hid (fun j hj => keep_below hB _ _ (HT.out j hj))
    clear hB
    have cHA0 := HA.out.2.1
    have cHA1 := HA.out.2.2.1
    have cHA2 := HA.out.2.2.2.1
    go_wp2_with fail
    go_ret
    exact ⟨rfl, HB.out⟩
  obtain ⟨size, hsz⟩ : ∃ size : Nat, sz = (size : Int) := ⟨sz.toNat, by omega⟩
  subst hsz
  have hQn : n / size ≤ n := Nat.div_le_self _ _
  obtain ⟨Q, hQ⟩ : ∃ Q, n / size = Q := ⟨_, rfl⟩
  rw [hQ] at hQn
  have HQ := Lib.hid hQ
  have d1 : (n : Int) / (size : Int) = (Q : Int) := by rw [← hQ]; rfl
  have d2 : (n : Int).tdiv (size : Int) = (Q : Int) := by rw [← hQ]; rfl
  have w1 : IntKind.i64.wrap (Q : Int) = (Q : Int) := IntWalk.i64_in _ (by omega)
  have hz1 : ¬ (size : Int) = 0 := by omega
  have hz2 : ¬ size = 0 := by omega
  clear hQ
  by_cases g3 : iz < 0
  · go_wp2_with fail
    refine (awake16_calls _ HT.out).mono ?_
    rintro e W12 ⟨rfl, hB⟩
    clear cHA0 cHA1 cHA2
    replace HA := Lib.hid (HA.out.below hB)
    replace HB := Lib.hid (HB.out.trans (hB.mono HB.out.size))
    replace HI := Lib.hid (HI.out.grow hB)
    replace HT := Lib.hid (fun j hj => keep_below hB _ _ (HT.out j hj))
    clear hB
    have cHA0 := HA.out.2.1
    have cHA1 := HA.out.2.2.1
    have cHA2 := HA.out.2.2.2.1
    go_wp2_with fail
    go_ret
    exact ⟨rfl, HB.out⟩
  by_cases g4 : kz < 0
  · go_wp2_with fail
    refine (awake16_calls _ HT.out).mono ?_
    rintro e W12 ⟨rfl, hB⟩
    clear cHA0 cHA1 cHA2
    replace HA := Lib.hid (HA.out.below hB)
    replace HB := Lib.hid (HB.out.trans (hB.mono HB.out.size))
    replace HI := Lib.hid (HI.out.grow hB)
    replace HT := Lib.hid (fun j hj => keep_below hB _ _ (HT.out j hj))
    clear hB
    have cHA0 := HA.out.2.1
    have cHA1 := HA.out.2.2.1
    have cHA2 := HA.out.2.2.2.1
    go_wp2_with fail
    go_ret
    exact ⟨rfl, HB.out⟩
  by_cases g5 : (Q : Int) ≤ iz
  · go_wp2_with fail
    refine (awake16_calls _ HT.out).mono ?_
    rintro e W12 ⟨rfl, hB⟩
    clear cHA0 cHA1 cHA2
    replace HA := Lib.hid (HA.out.below hB)
    replace HB := Lib.hid (HB.out.trans (hB.mono HB.out.size))
    replace HI := Lib.hid (HI.out.grow hB)
    replace HT := Lib.hid (fun j hj => keep_below hB _ _ (HT.out j hj))
    clear hB
    have cHA0 := HA.out.2.1
    have cHA1 := HA.out.2.2.1
    have cHA2 := HA.out.2.2.2.1
    go_wp2_with fail
    go_ret
    exact ⟨rfl, HB.out⟩
  by_cases g6 : (Q : Int) ≤ kz
  · go_wp2_with fail
    refine (awake16_calls _ HT.out).mono ?_
    rintro e W12 ⟨rfl, hB⟩
    clear cHA0 cHA1 cHA2
    replace HA := Lib.hid (HA.out.below hB)
    replace HB := Lib.hid (HB.out.trans (hB.mono HB.out.size))
    replace HI := Lib.hid (HI.out.grow hB)
    replace HT := Lib.hid (fun j hj => keep_below hB _ _ (HT.out j hj))
    clear hB
    have cHA0 := HA.out.2.1
    have cHA1 := HA.out.2.2.1
    have cHA2 := HA.out.2.2.2.1
    go_wp2_with fail
    go_ret
    exact ⟨rfl, HB.out⟩
  obtain ⟨i, hi⟩ : ∃ i : Nat, iz = (i : Int) := ⟨iz.toNat, by omega⟩
  obtain ⟨k, hk⟩ : ∃ k : Nat, kz = (k : Int) := ⟨kz.toNat, by omega⟩
  subst hi hk
  obtain ⟨A, hA⟩ : ∃ A, (arrP 40 p).2 = A := ⟨_, rfl⟩
  obtain ⟨v1, v2, v3, v4, v5, v6⟩ := good_vec HG.out.1
  rw [hA] at v1 v2 v3 v5
  rw [HF.out] at v1 v5
  rw [HN.out] at v2 v4 v6
  have HAA := Lib.hid hA
  have HAC := Lib.hid (show A.cls < 2 by rw [v1, ← HF.out]; exact HG.out.2.2)
  have HAN := Lib.hid v2
  have HAF := Lib.hid v3
  have HKY := Lib.hid (v5 (by rw [← HF.out]; exact HG.out.2.2))
  have HTL := Lib.hid v6
  have HAM := Lib.hid (show A.len ≤ 1048576 by rw [v2]; exact v4)
  have hfa := fld_arr16
  clear hA v1 v2 v3 v4 v5 v6
  have HS := Lib.hid (show 0 < size ∧ size ≤ 1048576 by omega)
  have HIK := Lib.hid (show i < A.len / size ∧ k < A.len / size by rw [HAN.out, HQ.out]; omega)
  have HIL := Lib.hid (show i < (tidyP 40 p).l.length / size ∧ k < (tidyP 40 p).l.length / size by rw [HTL.out, HQ.out]; omega)
  have HTM := Lib.hid (show (tidyP 40 p).l.length ≤ 1048576 by rw [HTL.out]; omega)
  obtain ⟨C, hC⟩ : ∃ C, cmpK (keyV A) size i k = C := ⟨_, rfl⟩
  obtain ⟨L, hL⟩ : ∃ L, lesK (keyV A) size down i k = L := ⟨_, rfl⟩
  have HC := Lib.hid hC
  have HL := Lib.hid hL
  have hfp := fld_its16
  clear hC hL
  go_wp2_with fail
  clear g1 g2 g3 g4 g5 g6
  rename_i hq9 hr9 K9 H9
  clear hq9 hr9
  clear cHA0 cHA1 cHA2
  refine wp_mid (fun s0 s1 w' => ∃ (uT uL uo : Value) (tio : Option Addr) (tic rv : Nat), s1 = ((((((((s0.put (some 51) (.agg #[.slice so p.s.length sc, .slice io n ic, .int .i64 f])).put (some 52) uT).put (some 53) (.slice tio n tic)).put (some 54) (.agg #[.slice so p.s.length sc, .slice io n ic, .int .i64 f])).put (some 55) uL).put (some 56) (.agg #[uo])).put (some 12) (.pointer (some ⟨rv, 0, none⟩))).put (some 11) (.slice tio n tic)) ∧ Its w' (fun _ => True) (.slice tio n tic) (tidyP 40 p).l ∧ IsV w' (fun _ => True) uo A ∧ At1 w' rv uo ∧ Below W11.heap.size W11 w') ?_ ?_
  · have HW0 := Lib.hid (Below.refl W11.heap.size W11)
    have HAS := HA
    obtain ⟨W12, hWD⟩ : ∃ xw9, W11.drew = xw9 := ⟨_, rfl⟩
    have hB : Below W11.heap.size W11 W12 := by rw [← hWD]; exact Below.drewN' (Below.refl _ _) 1
    replace HA := Lib.hid (HA.out.below hB)
    replace HI := Lib.hid (HI.out.grow hB)
    replace HT := Lib.hid (fun j hj => keep_below hB _ _ (HT.out j hj))
    replace HW0 := Lib.hid (HW0.out.trans (hB.mono HW0.out.size))
    clear hB
    refine wp_region_held_drew (S := fun w' => w'.cell? ⟨w.heap.size, 0, none⟩ = some (.slice so p.s.length sc) ∧ w'.cell? ⟨w.heap.size, 1, none⟩ = some (.slice io n ic) ∧ w'.cell? ⟨w.heap.size, 2, none⟩ = some (.int .i64 f)) (by kernel_rfl) (by rw [hWD]; exact ⟨HA.out.2.1, HA.out.2.2.1, HA.out.2.2.2.1⟩) (fun hHeld => ?_)
    rw [hWD] at hHeld ⊢
    clear hWD
    refine wpAnyH_take (i := 0) (v := ?_) rfl (by kernel_rfl) (by kernel_rfl) (by kernel_rfl) (fun _ _ _ h => absurd h.1 (by simp)) (Or.inl ⟨by rfl, ?_⟩) (by assumption) ?_
    rotate_left
    · (intro w hSw; (try dsimp only at hSw); go_simp; try with_reducible rfl)
    simp only [Act.put, List.getElem_toArray, List.getElem_cons_zero, List.setIfInBounds_toArray, List.set_cons_zero, List.set_cons_succ]
    refine wpAnyH_take (i := 3) (v := ?_) rfl (by kernel_rfl) (by kernel_rfl) (by kernel_rfl) (fun _ _ _ h => absurd h.1 (by simp)) (Or.inl ⟨by rfl, ?_⟩) (by assumption) ?_
    rotate_left
    · (intro w hSw; (try dsimp only at hSw); go_simp; try with_reducible rfl)
    simp only [Act.put, List.getElem_toArray, List.getElem_cons_succ, List.getElem_cons_zero, List.setIfInBounds_toArray, List.set_cons_zero, List.set_cons_succ]
    refine wpAnyH_ready (rs := [1, 6]) (by kernel_rfl) (by simp) ?_
    refine AllReadyH.cons (o := _) rfl (fun K hK => ?_) ?_
    · clear hHeld
      go_simp
      refine (ptidy_calls 40 (fun b => True) p _ _ HG.out.1 (HI.out)).mono ?_
      rintro e W13 ⟨ut, rfl, hut, hB⟩
      replace HA := Lib.hid (HA.out.below hB)
      replace HI := Lib.hid (HI.out.grow hB)
      replace HT := Lib.hid (fun j hj => keep_below hB _ _ (HT.out j hj))
      replace HW0 := Lib.hid (HW0.out.trans (hB.mono HW0.out.size))
      obtain ⟨tso, tsc, tio, tic, rfl, _, hti⟩ := hut.opened
      rw [HTL.out] at hti ⊢
      have HTI := Lib.hid (show Its W13 (fun _ => True) (.slice tio n tic) (tidyP 40 p).l from hti.wide (fun _ _ _ => trivial))
      clear hut hti
      clear hB
      refine hK.out _ _ ?_ (fun hHeld => ?_)
      · exact ⟨HA.out.2.1, HA.out.2.2.1, HA.out.2.2.2.1⟩
      clear hK K
      refine wpAnyH_take (i := 2) (v := ?_) rfl (by kernel_rfl) (by kernel_rfl) (by kernel_rfl) (fun _ _ _ h => absurd h.1 (by simp)) (Or.inl ⟨by rfl, ?_⟩) (by assumption) ?_
      rotate_left
      · (intro w hSw; (try dsimp only at hSw); go_simp; try with_reducible rfl)
      simp only [Act.put, List.getElem_toArray, List.getElem_cons_succ, List.getElem_cons_zero, List.setIfInBounds_toArray, List.set_cons_zero, List.set_cons_succ]
      refine wpAnyH_ready (rs := [4, 6]) (by kernel_rfl) (by simp) ?_
      refine AllReadyH.cons (o := _) rfl (fun K hK => ?_) ?_
      · clear hHeld
        go_simp
        refine (lof_calls _ p _ nd _ HLO.out HI.out HT.out HG.out.1).mono ?_
        rintro e W14 ⟨so3, sc3, uo, rfl, hOR, hB⟩
        replace HA := Lib.hid (HA.out.below hB)
        replace HI := Lib.hid (HI.out.grow hB)
        replace HT := Lib.hid (fun j hj => keep_below hB _ _ (HT.out j hj))
        replace HW0 := Lib.hid (HW0.out.trans (hB.mono HW0.out.size))
        replace HTI := Lib.hid (HTI.out.grow hB)
        have HUO := Lib.hid (show IsV W14 (fun _ => True) uo A by rw [← HAA.out]; exact IsV.any hOR.2)
        have hsv := HUO.out.store
        clear hOR
        clear hB
        refine hK.out _ _ ?_ (fun hHeld => ?_)
        · exact ⟨HA.out.2.1, HA.out.2.2.1, HA.out.2.2.2.1⟩
        clear hK K
        refine wpAnyH_take (i := 5) (v := ?_) rfl (by kernel_rfl) (by kernel_rfl) (by kernel_rfl) (fun _ _ _ h => absurd h.1 (by simp)) (Or.inl ⟨by rfl, ?_⟩) (by assumption) ?_
        rotate_left
        · (intro w hSw; (try dsimp only at hSw); go_simp; try with_reducible rfl)
        simp only [Act.put, List.getElem_toArray, List.getElem_cons_succ, List.getElem_cons_zero, List.setIfInBounds_toArray, List.set_cons_zero, List.set_cons_succ]
        refine wpAnyH_ready (rs := [6]) (by kernel_rfl) (by simp) ?_
        refine AllReadyH.cons (o := _) rfl (fun K hK => ?_) ?_
        · clear hHeld
          go_simp
          obtain ⟨W15, hWn⟩ : ∃ xw9, W14.alloc (.cells #[.nilIface] 37) = xw9 := ⟨_, rfl⟩
          have hB : Below W14.heap.size W14 W15 := by rw [← hWn]; exact below_new _ _
          have hNB : At1 W15 W14.heap.size .nilIface := by rw [← hWn]; exact At1.new _ _ _
          have hbk : W11.heap.size ≤ W14.heap.size := HW0.out.size
          rw [hWn]
          clear hWn
          obtain ⟨rv, hnm⟩ : ∃ x, W14.heap.size = x := ⟨_, rfl⟩
          replace HUO := Lib.hid (show IsV W14 (fun b => b ≠ rv) uo A from HUO.out.wide (fun b (h : b < W14.heap.size) _ => by omega))
          replace HTI := Lib.hid (show Its W14 (fun b => b ≠ rv) (.slice tio n tic) (tidyP 40 p).l from HTI.out.wide (fun b (h : b < W14.heap.size) _ => by omega))
          rw [hnm] at hNB hbk ⊢
          replace HA := Lib.hid (HA.out.below hB)
          replace HI := Lib.hid (HI.out.grow hB)
          replace HT := Lib.hid (fun j hj => keep_below hB _ _ (HT.out j hj))
          replace HW0 := Lib.hid (HW0.out.trans (hB.mono HW0.out.size))
          replace HTI := Lib.hid (HTI.out.grow hB)
          replace HUO := Lib.hid (HUO.out.grow hB)
          have HRV := Lib.hid hNB
          have HBK9 := Lib.hid hbk
          clear hNB hB hnm hbk
          refine hK.out _ _ ?_ (fun hHeld => ?_)
          · exact ⟨HA.out.2.1, HA.out.2.2.1, HA.out.2.2.2.1⟩
          clear hK K
          refine wpAnyH_take (i := 7) (v := ?_) rfl (by kernel_rfl) (by kernel_rfl) (by kernel_rfl) (fun _ _ _ h => absurd h.1 (by simp)) (Or.inl ⟨by rfl, ?_⟩) (by assumption) ?_
          rotate_left
          · (intro w hSw; (try dsimp only at hSw); go_simp; try with_reducible rfl)
          simp only [Act.put, List.getElem_toArray, List.getElem_cons_succ, List.getElem_cons_zero, List.setIfInBounds_toArray, List.set_cons_zero, List.set_cons_succ]
          refine wpAnyH_ready (rs := [8]) (by kernel_rfl) (by simp) ?_
          refine AllReadyH.cons (o := _) rfl (fun K hK => ?_) ?_
          · clear hHeld
            have s0 := HRV.out.2.1
            have t0 := HRV.out.2.2 0
            go_simp
            clear s0 t0
            obtain ⟨W16, hWn⟩ : ∃ xw9, W15.setCell ⟨rv, 0, none⟩ uo = xw9 := ⟨_, rfl⟩
            rw [hWn]
            have HUY := Lib.hid (show IsV W16 (fun _ => True) uo A by rw [← hWn]; exact (HUO.out.keep (Kept.setCell _ _ _ (by simp)) (fun _ _ h => h)).any)
            have HTY := Lib.hid (show Its W16 (fun _ => True) (.slice tio n tic) (tidyP 40 p).l by rw [← hWn]; exact HTI.out.keep (Kept.setCell _ _ _ (by simp)) (fun _ _ _ => trivial))
            replace HW0 := Lib.hid (show Below W11.heap.size W11 W16 by rw [← hWn]; exact HW0.out.setCell HBK9.out _)
            replace HRV := Lib.hid (show At1 W16 rv uo by rw [← hWn]; exact At1.put1O HRV.out _)
            replace HA := Lib.hid (HAS.out.below HW0.out)
            clear hWn
            refine hK.out _ _ ?_ (fun hHeld => ?_)
            · exact ⟨HA.out.2.1, HA.out.2.2.1, HA.out.2.2.2.1⟩
            clear hK K
            refine wpAnyH_done (by kernel_rfl) ?_ _
            clear hHeld
            refine ⟨rfl, .agg #[.slice tso (tidyP 40 p).s.length tsc, .slice tio n tic, .int .i64 (tidyP 40 p).f], .agg #[.slice so3 (arrP 40 p).1.length sc3, uo], uo, tio, tic, rv, ?_, HTY.out, HUY.out, HRV.out, HW0.out⟩
            first | rfl | kernel_rfl
          exact AllReadyH.nil
        exact AllReadyH.nil
      refine AllReadyH.cons (o := _) rfl (fun K hK => ?_) ?_
      · clear hHeld
        go_simp
        obtain ⟨W14, hWn⟩ : ∃ xw9, W13.alloc (.cells #[.nilIface] 37) = xw9 := ⟨_, rfl⟩
        have hB : Below W13.heap.size W13 W14 := by rw [← hWn]; exact below_new _ _
        have hNB : At1 W14 W13.heap.size .nilIface := by rw [← hWn]; exact At1.new _ _ _
        have hbk : W11.heap.size ≤ W13.heap.size := HW0.out.size
        rw [hWn]
        clear hWn
        obtain ⟨rv, hnm⟩ : ∃ x, W13.heap.size = x := ⟨_, rfl⟩
        replace HTI := Lib.hid (show Its W13 (fun b => b ≠ rv) (.slice tio n tic) (tidyP 40 p).l from HTI.out.wide (fun b (h : b < W13.heap.size) _ => by omega))
        rw [hnm] at hNB hbk ⊢
        replace HA := Lib.hid (HA.out.below hB)
        replace HI := Lib.hid (HI.out.grow hB)
        replace HT := Lib.hid (fun j hj => keep_below hB _ _ (HT.out j hj))
        replace HW0 := Lib.hid (HW0.out.trans (hB.mono HW0.out.size))
        replace HTI := Lib.hid (HTI.out.grow hB)
        have HRV := Lib.hid hNB
        have HBK9 := Lib.hid hbk
        clear hNB hB hnm hbk
        refine hK.out _ _ ?_ (fun hHeld => ?_)
        · exact ⟨HA.out.2.1, HA.out.2.2.1, HA.out.2.2.2.1⟩
        clear hK K
        refine wpAnyH_ready (rs := [4]) (by kernel_rfl) (by simp) ?_
        refine AllReadyH.cons (o := _) rfl (fun K hK => ?_) ?_
        · clear hHeld
          go_simp
          have hrv := HRV.out.1
          refine (lof_calls _ p _ nd _ HLO.out HI.out HT.out HG.out.1).mono ?_
          rintro e W15 ⟨so3, sc3, uo, rfl, hOR, hB⟩
          replace HA := Lib.hid (HA.out.below hB)
          replace HI := Lib.hid (HI.out.grow hB)
          replace HT := Lib.hid (fun j hj => keep_below hB _ _ (HT.out j hj))
          replace HW0 := Lib.hid (HW0.out.trans (hB.mono HW0.out.size))
          replace HTI := Lib.hid (HTI.out.grow hB)
          replace HRV := Lib.hid (HRV.out.below hB)
          have HUO := Lib.hid (show IsV W15 (fun b => b ≠ rv) uo A by rw [← HAA.out]; exact hOR.2.wide (fun b _ (h : W14.heap.size ≤ b) => by omega))
          clear hrv
          have hsv := HUO.out.store
          clear hOR
          clear hB
          refine hK.out _ _ ?_ (fun hHeld => ?_)
          · exact ⟨HA.out.2.1, HA.out.2.2.1, HA.out.2.2.2.1⟩
          clear hK K
          refine wpAnyH_take (i := 5) (v := ?_) rfl (by kernel_rfl) (by kernel_rfl) (by kernel_rfl) (fun _ _ _ h => absurd h.1 (by simp)) (Or.inl ⟨by rfl, ?_⟩) (by assumption) ?_
          rotate_left
          · (intro w hSw; (try dsimp only at hSw); go_simp; try with_reducible rfl)
          simp only [Act.put, List.getElem_toArray, List.getElem_cons_succ, List.getElem_cons_zero, List.setIfInBounds_toArray, List.set_cons_zero, List.set_cons_succ]
          refine wpAnyH_take (i := 7) (v := ?_) rfl (by kernel_rfl) (by kernel_rfl) (by kernel_rfl) (fun _ _ _ h => absurd h.1 (by simp)) (Or.inl ⟨by rfl, ?_⟩) (by assumption) ?_
          rotate_left
          · (intro w hSw; (try dsimp only at hSw); go_simp; try with_reducible rfl)
          simp only [Act.put, List.getElem_toArray, List.getElem_cons_succ, List.getElem_cons_zero, List.setIfInBounds_toArray, List.set_cons_zero, List.set_cons_succ]
          refine wpAnyH_ready (rs := [8]) (by kernel_rfl) (by simp) ?_
          refine AllReadyH.cons (o := _) rfl (fun K hK => ?_) ?_
          · clear hHeld
            have s0 := HRV.out.2.1
            have t0 := HRV.out.2.2 0
            go_simp
            clear s0 t0
            obtain ⟨W16, hWn⟩ : ∃ xw9, W15.setCell ⟨rv, 0, none⟩ uo = xw9 := ⟨_, rfl⟩
            rw [hWn]
            have HUY := Lib.hid (show IsV W16 (fun _ => True) uo A by rw [← hWn]; exact (HUO.out.keep (Kept.setCell _ _ _ (by simp)) (fun _ _ h => h)).any)
            have HTY := Lib.hid (show Its W16 (fun _ => True) (.slice tio n tic) (tidyP 40 p).l by rw [← hWn]; exact HTI.out.keep (Kept.setCell _ _ _ (by simp)) (fun _ _ _ => trivial))
            replace HW0 := Lib.hid (show Below W11.heap.size W11 W16 by rw [← hWn]; exact HW0.out.setCell HBK9.out _)
            replace HRV := Lib.hid (show At1 W16 rv uo by rw [← hWn]; exact At1.put1O HRV.out _)
            replace HA := Lib.hid (HAS.out.below HW0.out)
            clear hWn
            refine hK.out _ _ ?_ (fun hHeld => ?_)
            · exact ⟨HA.out.2.1, HA.out.2.2.1, HA.out.2.2.2.1⟩
            clear hK K
            refine wpAnyH_done (by kernel_rfl) ?_ _
            clear hHeld
            refine ⟨rfl, .agg #[.slice tso (tidyP 40 p).s.length tsc, .slice tio n tic, .int .i64 (tidyP 40 p).f], .agg #[.slice so3 (arrP 40 p).1.length sc3, uo], uo, tio, tic, rv, ?_, HTY.out, HUY.out, HRV.out, HW0.out⟩
            first | rfl | kernel_rfl
          exact AllReadyH.nil
        exact AllReadyH.nil
      exact AllReadyH.nil
    refine AllReadyH.cons (o := _) rfl (fun K hK => ?_) ?_
    · clear hHeld
      go_simp
      obtain ⟨W13, hWn⟩ : ∃ xw9, W12.alloc (.cells #[.nilIface] 37) = xw9 := ⟨_, rfl⟩
      have hB : Below W12.heap.size W12 W13 := by rw [← hWn]; exact below_new _ _
      have hNB : At1 W13 W12.heap.size .nilIface := by rw [← hWn]; exact At1.new _ _ _
      have hbk : W11.heap.size ≤ W12.heap.size := HW0.out.size
      rw [hWn]
      clear hWn
      obtain ⟨rv, hnm⟩ : ∃ x, W12.heap.size = x := ⟨_, rfl⟩
      have HIR := Lib.hid (show IsP W12 (fun b => b ≠ rv) _ p from HI.out.wide (fun b (h : b < W12.heap.size) _ => by omega))
      rw [hnm] at hNB hbk ⊢
      replace HA := Lib.hid (HA.out.below hB)
      replace HI := Lib.hid (HI.out.grow hB)
      replace HT := Lib.hid (fun j hj => keep_below hB _ _ (HT.out j hj))
      replace HW0 := Lib.hid (HW0.out.trans (hB.mono HW0.out.size))
      replace HIR := Lib.hid (HIR.out.grow hB)
      have HRV := Lib.hid hNB
      have HBK9 := Lib.hid hbk
      clear hNB hB hnm hbk
      refine hK.out _ _ ?_ (fun hHeld => ?_)
      · exact ⟨HA.out.2.1, HA.out.2.2.1, HA.out.2.2.2.1⟩
      clear hK K
      refine wpAnyH_ready (rs := [1]) (by kernel_rfl) (by simp) ?_
      refine AllReadyH.cons (o := _) rfl (fun K hK => ?_) ?_
      · clear hHeld
        go_simp
        have hrv := HRV.out.1
        refine (ptidy_calls 40 (fun b => b ≠ rv) p _ _ HG.out.1 (HIR.out)).mono ?_
        rintro e W14 ⟨ut, rfl, hut, hB⟩
        replace HA := Lib.hid (HA.out.below hB)
        replace HI := Lib.hid (HI.out.grow hB)
        replace HT := Lib.hid (fun j hj => keep_below hB _ _ (HT.out j hj))
        replace HW0 := Lib.hid (HW0.out.trans (hB.mono HW0.out.size))
        replace HIR := Lib.hid (HIR.out.grow hB)
        replace HRV := Lib.hid (HRV.out.below hB)
        obtain ⟨tso, tsc, tio, tic, rfl, _, hti⟩ := hut.opened
        rw [HTL.out] at hti ⊢
        have HTI := Lib.hid (show Its W14 (fun b => b ≠ rv) (.slice tio n tic) (tidyP 40 p).l from hti.wide (fun b h1 h2 => by rcases h2 with ⟨h3, _⟩ | h3 <;> first | exact h3 | omega))
        clear hut hti hrv
        clear hB
        refine hK.out _ _ ?_ (fun hHeld => ?_)
        · exact ⟨HA.out.2.1, HA.out.2.2.1, HA.out.2.2.2.1⟩
        clear hK K
        refine wpAnyH_take (i := 2) (v := ?_) rfl (by kernel_rfl) (by kernel_rfl) (by kernel_rfl) (fun _ _ _ h => absurd h.1 (by simp)) (Or.inl ⟨by rfl, ?_⟩) (by assumption) ?_
        rotate_left
        · (intro w hSw; (try dsimp only at hSw); go_simp; try with_reducible rfl)
        simp only [Act.put, List.getElem_toArray, List.getElem_cons_succ, List.getElem_cons_zero, List.setIfInBounds_toArray, List.set_cons_zero, List.set_cons_succ]
        refine wpAnyH_ready (rs := [4]) (by kernel_rfl) (by simp) ?_
        refine AllReadyH.cons (o := _) rfl (fun K hK => ?_) ?_
        · clear hHeld
          go_simp
          have hrv := HRV.out.1
          refine (lof_calls _ p _ nd _ HLO.out HI.out HT.out HG.out.1).mono ?_
          rintro e W15 ⟨so3, sc3, uo, rfl, hOR, hB⟩
          replace HA := Lib.hid (HA.out.below hB)
          replace HI := Lib.hid (HI.out.grow hB)
          replace HT := Lib.hid (fun j hj => keep_below hB _ _ (HT.out j hj))
          replace HW0 := Lib.hid (HW0.out.trans (hB.mono HW0.out.size))
          replace HIR := Lib.hid (HIR.out.grow hB)
          replace HRV := Lib.hid (HRV.out.below hB)
          replace HTI := Lib.hid (HTI.out.grow hB)
          have HUO := Lib.hid (show IsV W15 (fun b => b ≠ rv) uo A by rw [← HAA.out]; exact hOR.2.wide (fun b _ (h : W14.heap.size ≤ b) => by omega))
          clear hrv
          have hsv := HUO.out.store
          clear hOR
          clear hB
          refine hK.out _ _ ?_ (fun hHeld => ?_)
          · exact ⟨HA.out.2.1, HA.out.2.2.1, HA.out.2.2.2.1⟩
          clear hK K
          refine wpAnyH_take (i := 5) (v := ?_) rfl (by kernel_rfl) (by kernel_rfl) (by kernel_rfl) (fun _ _ _ h => absurd h.1 (by simp)) (Or.inl ⟨by rfl, ?_⟩) (by assumption) ?_
          rotate_left
          · (intro w hSw; (try dsimp only at hSw); go_simp; try with_reducible rfl)
          simp only [Act.put, List.getElem_toArray, List.getElem_cons_succ, List.getElem_cons_zero, List.setIfInBounds_toArray, List.set_cons_zero, List.set_cons_succ]
          refine wpAnyH_take (i := 7) (v := ?_) rfl (by kernel_rfl) (by kernel_rfl) (by kernel_rfl) (fun _ _ _ h => absurd h.1 (by simp)) (Or.inl ⟨by rfl, ?_⟩) (by assumption) ?_
          rotate_left
          · (intro w hSw; (try dsimp only at hSw); go_simp; try with_reducible rfl)
          simp only [Act.put, List.getElem_toArray, List.getElem_cons_succ, List.getElem_cons_zero, List.setIfInBounds_toArray, List.set_cons_zero, List.set_cons_succ]
          refine wpAnyH_ready (rs := [8]) (by kernel_rfl) (by simp) ?_
          refine AllReadyH.cons (o := _) rfl (fun K hK => ?_) ?_
          · clear hHeld
            have s0 := HRV.out.2.1
            have t0 := HRV.out.2.2 0
            go_simp
            clear s0 t0
            obtain ⟨W16, hWn⟩ : ∃ xw9, W15.setCell ⟨rv, 0, none⟩ uo = xw9 := ⟨_, rfl⟩
            rw [hWn]
            have HUY := Lib.hid (show IsV W16 (fun _ => True) uo A by rw [← hWn]; exact (HUO.out.keep (Kept.setCell _ _ _ (by simp)) (fun _ _ h => h)).any)
            have HTY := Lib.hid (show Its W16 (fun _ => True) (.slice tio n tic) (tidyP 40 p).l by rw [← hWn]; exact HTI.out.keep (Kept.setCell _ _ _ (by simp)) (fun _ _ _ => trivial))
            replace HW0 := Lib.hid (show Below W11.heap.size W11 W16 by rw [← hWn]; exact HW0.out.setCell HBK9.out _)
            replace HRV := Lib.hid (show At1 W16 rv uo by rw [← hWn]; exact At1.put1O HRV.out _)
            replace HA := Lib.hid (HAS.out.below HW0.out)
            clear hWn
            refine hK.out _ _ ?_ (fun hHeld => ?_)
            · exact ⟨HA.out.2.1, HA.out.2.2.1, HA.out.2.2.2.1⟩
            clear hK K
            refine wpAnyH_done (by kernel_rfl) ?_ _
            clear hHeld
            refine ⟨rfl, .agg #[.slice tso (tidyP 40 p).s.length tsc, .slice tio n tic, .int .i64 (tidyP 40 p).f], .agg #[.slice so3 (arrP 40 p).1.length sc3, uo], uo, tio, tic, rv, ?_, HTY.out, HUY.out, HRV.out, HW0.out⟩
            first | rfl | kernel_rfl
          exact AllReadyH.nil
        exact AllReadyH.nil
      exact AllReadyH.nil
    exact AllReadyH.nil
  rintro _ wm ⟨uT, uL, uo, tio, tic, rv, rfl, hti, huo, hrv, hB⟩
  have HTI := Lib.hid hti
  have HUO := Lib.hid huo
  have HRV := Lib.hid hrv
  have hsv := huo.store
  clear hti huo hrv
  replace HA := Lib.hid (HA.out.below hB)
  replace HB := Lib.hid (HB.out.trans (hB.mono HB.out.size))
  replace HI := Lib.hid (HI.out.grow hB)
  replace HT := Lib.hid (fun j hj => keep_below hB _ _ (HT.out j hj))
  clear hB
  simp only [Act.put, List.setIfInBounds_toArray, List.set_cons_zero, List.set_cons_succ]
  have cHA0 := HA.out.2.1
  have cHA1 := HA.out.2.2.1
  have cHA2 := HA.out.2.2.2.1
  have cHRV0 := HRV.out.2.1
  go_wp2_with fail
  refine (ocells_calls _ A size i k _ HUO.out HAF.out HAC.out HS.out.1 HAM.out HIK.out.1 HIK.out.2).mono ?_
  rintro e W12 ⟨rfl, hB⟩
  clear cHA0 cHA1 cHA2 cHRV0
  replace HA := Lib.hid (HA.out.below hB)
  replace HB := Lib.hid (HB.out.trans (hB.mono HB.out.size))
  replace HI := Lib.hid (HI.out.grow hB)
  replace HT := Lib.hid (fun j hj => keep_below hB _ _ (HT.out j hj))
  replace HTI := Lib.hid (HTI.out.grow hB)
  replace HUO := Lib.hid (HUO.out.grow hB)
  replace HRV := Lib.hid (HRV.out.below hB)
  rw [HC.out]
  clear hB
  have cHA0 := HA.out.2.1
  have cHA1 := HA.out.2.2.1
  have cHA2 := HA.out.2.2.2.1
  have cHRV0 := HRV.out.2.1
  go_wp2_with fail
  refine (rcells_calls _ (tidyP 40 p).l (keyV A) size i k _ HTI.out HKY.out HS.out.1 HTM.out HIL.out.1 HIL.out.2).mono ?_
  rintro e W13 ⟨rfl, hB⟩
  clear cHA0 cHA1 cHA2 cHRV0
  replace HA := Lib.hid (HA.out.below hB)
  replace HB := Lib.hid (HB.out.trans (hB.mono HB.out.size))
  replace HI := Lib.hid (HI.out.grow hB)
  replace HT := Lib.hid (fun j hj => keep_below hB _ _ (HT.out j hj))
  replace HTI := Lib.hid (HTI.out.grow hB)
  replace HUO := Lib.hid (HUO.out.grow hB)
  replace HRV := Lib.hid (HRV.out.below hB)
  rw [HC.out]
  clear hB
  have cHA0 := HA.out.2.1
  have cHA1 := HA.out.2.2.1
  have cHA2 := HA.out.2.2.2.1
  have cHRV0 := HRV.out.2.1
  go_wp2_with fail
  refine (oless_calls _ A size i k down _ HUO.out HAF.out HAC.out HS.out.1 HAM.out HIK.out.1 HIK.out.2).mono ?_
  rintro e W14 ⟨rfl, hB⟩
  clear cHA0 cHA1 cHA2 cHRV0
  replace HA := Lib.hid (HA.out.below hB)
  replace HB := Lib.hid (HB.out.trans (hB.mono HB.out.size))
  replace HI := Lib.hid (HI.out.grow hB)
  replace HT := Lib.hid (fun j hj => keep_below hB _ _ (HT.out j hj))
  replace HTI := Lib.hid (HTI.out.grow hB)
  replace HUO := Lib.hid (HUO.out.grow hB)
  replace HRV := Lib.hid (HRV.out.below hB)
  rw [HL.out]
  clear hB
  have cHA0 := HA.out.2.1
  have cHA1 := HA.out.2.2.1
  have cHA2 := HA.out.2.2.2.1
  have cHRV0 := HRV.out.2.1
  go_wp2_with fail
  refine (rless_calls _ (tidyP 40 p).l (keyV A) size i k down _ HTI.out HKY.out HS.out.1 HTM.out HIL.out.1 HIL.out.2).mono ?_
  rintro e W15 ⟨rfl, hB⟩
  clear cHA0 cHA1 cHA2 cHRV0
  replace HA := Lib.hid (HA.out.below hB)
  replace HB := Lib.hid (HB.out.trans (hB.mono HB.out.size))
  replace HI := Lib.hid (HI.out.grow hB)
  replace HT := Lib.hid (fun j hj => keep_below hB _ _ (HT.out j hj))
  replace HTI := Lib.hid (HTI.out.grow hB)
  replace HUO := Lib.hid (HUO.out.grow hB)
  replace HRV := Lib.hid (HRV.out.below hB)
  rw [HL.out]
  clear hB
  have cHA0 := HA.out.2.1
  have cHA1 := HA.out.2.2.1
  have cHA2 := HA.out.2.2.2.1
  have cHRV0 := HRV.out.2.1
  go_wp2_with fail
  refine (awake16_calls _ HT.out).mono ?_
  rintro e W16 ⟨rfl, hB⟩
  clear cHA0 cHA1 cHA2 cHRV0
  replace HA := Lib.hid (HA.out.below hB)
  replace HB := Lib.hid (HB.out.trans (hB.mono HB.out.size))
  replace HI := Lib.hid (HI.out.grow hB)
  replace HT := Lib.hid (fun j hj => keep_below hB _ _ (HT.out j hj))
  replace HTI := Lib.hid (HTI.out.grow hB)
  replace HUO := Lib.hid (HUO.out.grow hB)
  replace HRV := Lib.hid (HRV.out.below hB)
  clear hB
  have cHA0 := HA.out.2.1
  have cHA1 := HA.out.2.2.1
  have cHA2 := HA.out.2.2.2.1
  have cHRV0 := HRV.out.2.1
  go_wp2_with fail
  go_ret
  exact ⟨rfl, HB.out⟩

theorem orderCells_frame (w : World) (u : Value) (p : PA) (n : Nat) (hl : lo n p) (hp : IsP w (fun _ => True) u p) (size : Int) (_ : (Lit.int .i64 size).wf = true) (i : Int) (_ : (Lit.int .i64 i).wf = true) (k : Int) (_ : (Lit.int .i64 k).wf = true) (down : Bool) (hT : TabAt w) :
    Calls Tryd.prog 4 #[u, .int .i64 size, .int .i64 i, .int .i64 k, .bool down] w fun e w' => e = .returned (.bool true) ∧ Below w.heap.size w w' :=
  orderCells_walk p u n size i k down w hl hp hT
end Go.Proofs.YtibkbhglcmpeaaaDoor

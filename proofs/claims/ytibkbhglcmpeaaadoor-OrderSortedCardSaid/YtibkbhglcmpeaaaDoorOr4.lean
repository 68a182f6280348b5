/- Layer 16's law: OrderSorted. -/
import Derived.Test.YtibkbhglcmpeaaaDoorMgOr1
import Derived.Test.YtibkbhglcmpeaaaDoorMgBv1
namespace Go.Proofs.YtibkbhglcmpeaaaDoor
set_option maxRecDepth 100000
open Go.RowKit Fl
set_option linter.unusedVariables false

theorem fld_its16s (x y z : Value) (w : World) : (Instr.field 25 (.agg #[x, y, z]) 1).run Tryd.prog w = .ok y w := by kernel_rfl
theorem ints_no {ok ok2 : Nat → Prop} (v1 v2 : Value) (l l2 : List Int) (n m : Nat) (w : World) (h1 : Slc w ok v1 n (ints l)) (h2 : Slc w ok2 v2 m (ints l2)) (hn : l.length = n) (hm : l2.length = m) (hb : n ≤ 2000000) (h : l ≠ l2) :
    Calls Tryd.prog 23 #[v1, v2] w fun e w' => e = .returned (.bool false) ∧ Below w.heap.size w w' := by
  subst hn hm
  have e : (l == l2) = false := by simpa using h
  rw [← e]
  exact ints_calls v1 v2 l l2 w h1.1.sl h2.1.sl (by unfold maxLen; omega)
set_option maxHeartbeats 16000000 in
theorem orderSorted_walk (p : PA) (u : Value) (nd : Nat) (sz : Int) (down : Bool) (v : Value) (l : List Int) (w : World) (hl : lo nd p) (hp : IsP w (fun _ => True) u p) (hv : Slc w (fun _ => True) v l.length (ints l)) (hT : TabAt w) :
    Calls Tryd.prog 5 #[u, .int .i64 sz, .bool down, v] w (Yes16 w) := by
  have HP := Lib.hid hp
  have HLO := Lib.hid hl
  obtain ⟨so, sc, io, ic, rfl, hs, hit⟩ := hp.opened
  obtain ⟨W1, hW1⟩ : ∃ W1, W1 = w.alloc (.cells #[.slice so p.s.length sc, .slice io p.l.length ic, .int .i64 p.f] 25) := ⟨_, rfl⟩
  have HB := Lib.hid (show Below w.heap.size w W1 by rw [hW1]; exact below_new _ _)
  have HA := Lib.hid (show At3 W1 w.heap.size (.slice so p.s.length sc) (.slice io p.l.length ic) (.int .i64 p.f) by rw [hW1]; exact At3.new w _ _ _ _)
  have HI := Lib.hid (show IsP W1 (fun _ => True) _ p from HP.out.grow HB.out)
  have HT := Lib.hid (show TabAt W1 from fun j hj => keep_below HB.out _ _ (hT j hj))
  have HLM := Lib.hid (show p.l.length ≤ maxLen by obtain ⟨a9, c9, e9, h8, h9⟩ := hit.len; omega)
  obtain ⟨ao, cap, rfl, _⟩ := hv.opened
  obtain ⟨m, hml⟩ : ∃ m, l.length = m := ⟨_, rfl⟩
  have HV := Lib.hid (show Slc W1 (fun _ => True) _ m (ints l) from hml ▸ hv.below HB.out)
  have HML := Lib.hid hml
  rw [hml]
  obtain ⟨n, hn⟩ : ∃ n, p.l.length = n := ⟨_, rfl⟩
  obtain ⟨f, hf⟩ : ∃ f, p.f = f := ⟨_, rfl⟩
  have HN := Lib.hid hn
  have HF := Lib.hid hf
  have hfold := hW1.symm
  clear hs hit hp hl hW1 hT hv hml
  rw [hn, hf] at HA HI hfold ⊢
  clear hn hf HP
  have cHA0 := HA.out.2.1
  have cHA1 := HA.out.2.2.1
  have cHA2 := HA.out.2.2.2.1
  go_enter Tryd.func5, Tryd.ntmps5
  go_wp2_with fail
  clear hfold
  refine (good16_calls _ p _ nd _ HLO.out HI.out HLM.out).mono ?_
  rintro e W11 ⟨bg, rfl, hbg, hB⟩
  clear cHA0 cHA1 cHA2
  replace HA := Lib.hid (HA.out.below hB)
  replace HB := Lib.hid (HB.out.trans (hB.mono HB.out.size))
  replace HI := Lib.hid (HI.out.grow hB)
  replace HT := Lib.hid (fun j hj => keep_below hB _ _ (HT.out j hj))
  replace HV := Lib.hid (HV.out.below hB)
  have HBG := Lib.hid hbg
  clear hbg
  clear hB
  have cHA0 := HA.out.2.1
  have cHA1 := HA.out.2.2.1
  have cHA2 := HA.out.2.2.2.1
  cases bg
  · go_wp2_with fail
    refine (awake16_calls _ HT.out).mono ?_
    rintro e W12 ⟨rfl, hB⟩
    clear cHA0 cHA1 cHA2
    replace HA := Lib.hid (HA.out.below hB)
    replace HB := Lib.hid (HB.out.trans (hB.mono HB.out.size))
    replace HI := Lib.hid (HI.out.grow hB)
    replace HT := Lib.hid (fun j hj => keep_below hB _ _ (HT.out j hj))
    replace HV := Lib.hid (HV.out.below hB)
    clear hB
    have cHA0 := HA.out.2.1
    have cHA1 := HA.out.2.2.1
    have cHA2 := HA.out.2.2.2.1
    go_wp2_with fail
    go_ret
    exact ⟨rfl, HB.out⟩
  have HG := Lib.hid (HBG.out rfl)
  have hn3 : n ≤ 300 := by have := HG.out.2.1; rw [HN.out] at this; exact this
  by_cases g1 : sz < 1
  · go_wp2_with fail
    refine (awake16_calls _ HT.out).mono ?_
    rintro e W12 ⟨rfl, hB⟩
    clear cHA0 cHA1 cHA2
    replace HA := Lib.hid (HA.out.below hB)
    replace HB := Lib.hid (HB.out.trans (hB.mono HB.out.size))
    replace HI := Lib.hid (HI.out.grow hB)
    replace HT := Lib.hid (fun j hj => keep_below hB _ _ (HT.out j hj))
    replace HV := Lib.hid (HV.out.below hB)
    clear hB
    have cHA0 := HA.out.2.1
    have cHA1 := HA.out.2.2.1
    have cHA2 := HA.out.2.2.2.1
    go_wp2_with fail
    go_ret
    exact ⟨rfl, HB.out⟩
  by_cases g2 : 300 < sz
  · go_wp2_with fail
    refine (awake16_calls _ HT.out).mono ?_
    rintro e W12 ⟨rfl, hB⟩
    clear cHA0 cHA1 cHA2
    replace HA := Lib.hid (HA.out.below hB)
    replace HB := Lib.hid (HB.out.trans (hB.mono HB.out.size))
    replace HI := Lib.hid (HI.out.grow hB)
    replace HT := Lib.hid (fun j hj => keep_below hB _ _ (HT.out j hj))
    replace HV := Lib.hid (HV.out.below hB)
    clear hB
    have cHA0 := HA.out.2.1
    have cHA1 := HA.out.2.2.1
    have cHA2 := HA.out.2.2.2.1
    go_wp2_with fail
    go_ret
    exact ⟨rfl, HB.out⟩
  by_cases g3 : 300 < m
  · go_wp2_with fail
    refine (awake16_calls _ HT.out).mono ?_
    rintro e W12 ⟨rfl, hB⟩
    clear cHA0 cHA1 cHA2
    replace HA := Lib.hid (HA.out.below hB)
    replace HB := Lib.hid (HB.out.trans (hB.mono HB.out.size))
    replace HI := Lib.hid (HI.out.grow hB)
    replace HT := Lib.hid (fun j hj => keep_below hB _ _ (HT.out j hj))
    replace HV := Lib.hid (HV.out.below hB)
    clear hB
    have cHA0 := HA.out.2.1
    have cHA1 := HA.out.2.2.1
    have cHA2 := HA.out.2.2.2.1
    go_wp2_with fail
    go_ret
    exact ⟨rfl, HB.out⟩
  obtain ⟨size, hsz⟩ : ∃ size : Nat, sz = (size : Int) := ⟨sz.toNat, by omega⟩
  subst hsz
  have hQn : n / size ≤ n := Nat.div_le_self _ _
  obtain ⟨Q, hQ⟩ : ∃ Q, n / size = Q := ⟨_, rfl⟩
  rw [hQ] at hQn
  have HQ := Lib.hid hQ
  have d1 : (n : Int) / (size : Int) = (Q : Int) := by rw [← hQ]; rfl
  have d2 : (n : Int).tdiv (size : Int) = (Q : Int) := by rw [← hQ]; rfl
  have w1 : IntKind.i64.wrap (Q : Int) = (Q : Int) := IntWalk.i64_in _ (by omega)
  have hz1 : ¬ (size : Int) = 0 := by omega
  have hz2 : ¬ size = 0 := by omega
  clear hQ
  obtain ⟨A, hA⟩ : ∃ A, (arrP 40 p).2 = A := ⟨_, rfl⟩
  obtain ⟨v1, v2, v3, v4, v5, v6⟩ := good_vec HG.out.1
  rw [hA] at v1 v2 v3 v5
  rw [HF.out] at v1 v5
  rw [HN.out] at v2 v4 v6
  have HAA := Lib.hid hA
  have HAC := Lib.hid (show A.cls < 2 by rw [v1, ← HF.out]; exact HG.out.2.2)
  have HAN := Lib.hid v2
  have HAF := Lib.hid v3
  have HKY := Lib.hid (v5 (by rw [← HF.out]; exact HG.out.2.2))
  have HTL := Lib.hid v6
  have HAM := Lib.hid (show A.len ≤ 1048576 by rw [v2]; exact v4)
  have hfa := fld_arr16
  clear hA v1 v2 v3 v4 v5 v6
  have HS := Lib.hid (show 0 < size ∧ size ≤ 1048576 by omega)
  have HMM := Lib.hid (show m ≤ 300 by omega)
  have HQM := Lib.hid (show Q ≤ 300 by omega)
  have HTM := Lib.hid (show (tidyP 40 p).l.length ≤ 1048576 by rw [HTL.out]; omega)
  have HQA := Lib.hid (show A.len / size = Q by rw [HAN.out, HQ.out])
  have HQT := Lib.hid (show (tidyP 40 p).l.length / size = Q by rw [HTL.out, HQ.out])
  obtain ⟨G, hG⟩ : ∃ G, zL (grN Q (lesK (keyV A) size down) Q) = G := ⟨_, rfl⟩
  have HGL := Lib.hid (show G.length = Q by rw [← hG, zL_len, grN_len])
  have HGS := Lib.hid (show ∀ a, SoI (A.len / size) (lesK (keyV A) size down) a ↔ a = G from fun a => by rw [HQA.out, ← hG]; exact soI_iff (lesK_tot _ _ _ _) (grN_gr (lesK_tot _ _ _ _)) a)
  have HGE := Lib.hid hG
  have hfp := fld_its16s
  clear hG
  go_wp2_with fail
  clear cHA0 cHA1 cHA2
  refine wp_mid (fun s0 s1 w' => ∃ (uT uL uo : Value) (tio : Option Addr) (tic rv : Nat), s1 = ((((((((s0.put (some 29) (.agg #[.slice so p.s.length sc, .slice io n ic, .int .i64 f])).put (some 30) uT).put (some 31) (.slice tio n tic)).put (some 32) (.agg #[.slice so p.s.length sc, .slice io n ic, .int .i64 f])).put (some 33) uL).put (some 34) (.agg #[uo])).put (some 10) (.pointer (some ⟨rv, 0, none⟩))).put (some 9) (.slice tio n tic)) ∧ Its w' (fun _ => True) (.slice tio n tic) (tidyP 40 p).l ∧ IsV w' (fun _ => True) uo A ∧ At1 w' rv uo ∧ Below W11.heap.size W11 w') ?_ ?_
  · have HW0 := Lib.hid (Below.refl W11.heap.size W11)
    have HAS := HA
    obtain ⟨W12, hWD⟩ : ∃ xw9, W11.drew = xw9 := ⟨_, rfl⟩
    have hB : Below W11.heap.size W11 W12 := by rw [← hWD]; exact Below.drewN' (Below.refl _ _) 1
    replace HA := Lib.hid (HA.out.below hB)
    replace HI := Lib.hid (HI.out.grow hB)
    replace HT := Lib.hid (fun j hj => keep_below hB _ _ (HT.out j hj))
    replace HW0 := Lib.hid (HW0.out.trans (hB.mono HW0.out.size))
    clear hB
    refine wp_region_held_drew (S := fun w' => w'.cell? ⟨w.heap.size, 0, none⟩ = some (.slice so p.s.length sc) ∧ w'.cell? ⟨w.heap.size, 1, none⟩ = some (.slice io n ic) ∧ w'.cell? ⟨w.heap.size, 2, none⟩ = some (.int .i64 f)) (by kernel_rfl) (by rw [hWD]; exact ⟨HA.out.2.1, HA.out.2.2.1, HA.out.2.2.2.1⟩) (fun hHeld => ?_)
    rw [hWD] at hHeld ⊢
    clear hWD
    refine wpAnyH_take (i := 0) (v := ?_) rfl (by kernel_rfl) (by kernel_rfl) (by kernel_rfl) (fun _ _ _ h => absurd h.1 (by simp)) (Or.inl ⟨by rfl, ?_⟩) (by assumption) ?_
    rotate_left
    · (intro w hSw; (try dsimp only at hSw); go_simp; try with_reducible rfl)
    simp only [Act.put, List.getElem_toArray, List.getElem_cons_zero, List.setIfInBounds_toArray, List.set_cons_zero, List.set_cons_succ]
    refine wpAnyH_take (i := 3) (v := ?_) rfl (by kernel_rfl) (by kernel_rfl) (by kernel_rfl) (fun _ _ _ h => absurd h.1 (by simp)) (Or.inl ⟨by rfl, ?_⟩) (by assumption) ?_
    rotate_left
    · (intro w hSw; (try dsimp only at hSw); go_simp; try with_reducible rfl)
    simp only [Act.put, List.getElem_toArray, List.getElem_cons_succ, List.getElem_cons_zero, List.setIfInBounds_toArray, List.set_cons_zero, List.set_cons_succ]
    refine wpAnyH_ready (rs := [1, 6]) (by kernel_rfl) (by simp) ?_
    refine AllReadyH.cons (o := _) rfl (fun K hK => ?_) ?_
    · clear hHeld
      go_simp
      refine (ptidy_calls 40 (fun b => True) p _ _ HG.out.1 (HI.out)).mono ?_
      rintro e W13 ⟨ut, rfl, hut, hB⟩
      replace HA := Lib.hid (HA.out.below hB)
      replace HI := Lib.hid (HI.out.grow hB)
      replace HT := Lib.hid (fun j hj => keep_below hB _ _ (HT.out j hj))
      replace HW0 := Lib.hid (HW0.out.trans (hB.mono HW0.out.size))
      obtain ⟨tso, tsc, tio, tic, rfl, _, hti⟩ := hut.opened
      rw [HTL.out] at hti ⊢
      have HTI := Lib.hid (show Its W13 (fun _ => True) (.slice tio n tic) (tidyP 40 p).l from hti.wide (fun _ _ _ => trivial))
      clear hut hti
      clear hB
      refine hK.out _ _ ?_ (fun hHeld => ?_)
      · exact ⟨HA.out.2.1, HA.out.2.2.1, HA.out.2.2.2.1⟩
      clear hK K
      refine wpAnyH_take (i := 2) (v := ?_) rfl (by kernel_rfl) (by kernel_rfl) (by kernel_rfl) (fun _ _ _ h => absurd h.1 (by simp)) (Or.inl ⟨by rfl, ?_⟩) (by assumption) ?_
      rotate_left
      · (intro w hSw; (try dsimp only at hSw); go_simp; try with_reducible rfl)
      simp only [Act.put, List.getElem_toArray, List.getElem_cons_succ, List.getElem_cons_zero, List.setIfInBounds_toArray, List.set_cons_zero, List.set_cons_succ]
      refine wpAnyH_ready (rs := [4, 6]) (by kernel_rfl) (by simp) ?_
      refine AllReadyH.cons (o := _) rfl (fun K hK => ?_) ?_
      · clear hHeld
        go_simp
        refine (lof_calls _ p _ nd _ HLO.out HI.out HT.out HG.out.1).mono ?_
        rintro e W14 ⟨so3, sc3, uo, rfl, hOR, hB⟩
        replace HA := Lib.hid (HA.out.below hB)
        replace HI := Lib.hid (HI.out.grow hB)
        replace HT := Lib.hid (fun j hj => keep_below hB _ _ (HT.out j hj))
        replace HW0 := Lib.hid (HW0.out.trans (hB.mono HW0.out.size))
        replace HTI := Lib.hid (HTI.out.grow hB)
        have HUO := Lib.hid (show IsV W14 (fun _ => True) uo A by rw [← HAA.out]; exact IsV.any hOR.2)
        have hsv := HUO.out.store
        clear hOR
        clear hB
        refine hK.out _ _ ?_ (fun hHeld => ?_)
        · exact ⟨HA.out.2.1, HA.out.2.2.1, HA.out.2.2.2.1⟩
        clear hK K
        refine wpAnyH_take (i := 5) (v := ?_) rfl (by kernel_rfl) (by kernel_rfl) (by kernel_rfl) (fun _ _ _ h => absurd h.1 (by simp)) (Or.inl ⟨by rfl, ?_⟩) (by assumption) ?_
        rotate_left
        · (intro w hSw; (try dsimp only at hSw); go_simp; try with_reducible rfl)
        simp only [Act.put, List.getElem_toArray, List.getElem_cons_succ, List.getElem_cons_zero, List.setIfInBounds_toArray, List.set_cons_zero, List.set_cons_succ]
        refine wpAnyH_ready (rs := [6]) (by kernel_rfl) (by simp) ?_
        refine AllReadyH.cons (o := _) rfl (fun K hK => ?_) ?_
        · clear hHeld
          go_simp
          obtain ⟨W15, hWn⟩ : ∃ xw9, W14.alloc (.cells #[.nilIface] 37) = xw9 := ⟨_, rfl⟩
          have hB : Below W14.heap.size W14 W15 := by rw [← hWn]; exact below_new _ _
          have hNB : At1 W15 W14.heap.size .nilIface := by rw [← hWn]; exact At1.new _ _ _
          have hbk : W11.heap.size ≤ W14.heap.size := HW0.out.size
          rw [hWn]
          clear hWn
          obtain ⟨rv, hnm⟩ : ∃ x, W14.heap.size = x := ⟨_, rfl⟩
          replace HUO := Lib.hid (show IsV W14 (fun b => b ≠ rv) uo A from HUO.out.wide (fun b (h : b < W14.heap.size) _ => by omega))
          replace HTI := Lib.hid (show Its W14 (fun b => b ≠ rv) (.slice tio n tic) (tidyP 40 p).l from HTI.out.wide (fun b (h : b < W14.heap.size) _ => by omega))
          rw [hnm] at hNB hbk ⊢
          replace HA := Lib.hid (HA.out.below hB)
          replace HI := Lib.hid (HI.out.grow hB)
          replace HT := Lib.hid (fun j hj => keep_below hB _ _ (HT.out j hj))
          replace HW0 := Lib.hid (HW0.out.trans (hB.mono HW0.out.size))
          replace HTI := Lib.hid (HTI.out.grow hB)
          replace HUO := Lib.hid (HUO.out.grow hB)
          have HRV := Lib.hid hNB
          have HBK9 := Lib.hid hbk
          clear hNB hB hnm hbk
          refine hK.out _ _ ?_ (fun hHeld => ?_)
          · exact ⟨HA.out.2.1, HA.out.2.2.1, HA.out.2.2.2.1⟩
          clear hK K
          refine wpAnyH_take (i := 7) (v := ?_) rfl (by kernel_rfl) (by kernel_rfl) (by kernel_rfl) (fun _ _ _ h => absurd h.1 (by simp)) (Or.inl ⟨by rfl, ?_⟩) (by assumption) ?_
          rotate_left
          · (intro w hSw; (try dsimp only at hSw); go_simp; try with_reducible rfl)
          simp only [Act.put, List.getElem_toArray, List.getElem_cons_succ, List.getElem_cons_zero, List.setIfInBounds_toArray, List.set_cons_zero, List.set_cons_succ]
          refine wpAnyH_ready (rs := [8]) (by kernel_rfl) (by simp) ?_
          refine AllReadyH.cons (o := _) rfl (fun K hK => ?_) ?_
          · clear hHeld
            have s0 := HRV.out.2.1
            have t0 := HRV.out.2.2 0
            go_simp
            clear s0 t0
            obtain ⟨W16, hWn⟩ : ∃ xw9, W15.setCell ⟨rv, 0, none⟩ uo = xw9 := ⟨_, rfl⟩
            rw [hWn]
            have HUY := Lib.hid (show IsV W16 (fun _ => True) uo A by rw [← hWn]; exact (HUO.out.keep (Kept.setCell _ _ _ (by simp)) (fun _ _ h => h)).any)
            have HTY := Lib.hid (show Its W16 (fun _ => True) (.slice tio n tic) (tidyP 40 p).l by rw [← hWn]; exact HTI.out.keep (Kept.setCell _ _ _ (by simp)) (fun _ _ _ => trivial))
            replace HW0 := Lib.hid (show Below W11.heap.size W11 W16 by rw [← hWn]; exact HW0.out.setCell HBK9.out _)
            replace HRV := Lib.hid (show At1 W16 rv uo by rw [← hWn]; exact At1.put1O HRV.out _)
            replace HA := Lib.hid (HAS.out.below HW0.out)
            clear hWn
            refine hK.out _ _ ?_ (fun hHeld => ?_)
            · exact ⟨HA.out.2.1, HA.out.2.2.1, HA.out.2.2.2.1⟩
            clear hK K
            refine wpAnyH_done (by kernel_rfl) ?_ _
            clear hHeld
            refine ⟨rfl, .agg #[.slice tso (tidyP 40 p).s.length tsc, .slice tio n tic, .int .i64 (tidyP 40 p).f], .agg #[.slice so3 (arrP 40 p).1.length sc3, uo], uo, tio, tic, rv, ?_, HTY.out, HUY.out, HRV.out, HW0.out⟩
            first | rfl | kernel_rfl
          exact AllReadyH.nil
        exact AllReadyH.nil
      refine AllReadyH.cons (o := _) rfl (fun K hK => ?_) ?_
      · clear hHeld
        go_simp
        obtain ⟨W14, hWn⟩ : ∃ xw9, W13.alloc (.cells #[.nilIface] 37) = xw9 := ⟨_, rfl⟩
        have hB : Below W13.heap.size W13 W14 := by rw [← hWn]; exact below_new _ _
        have hNB : At1 W14 W13.heap.size .nilIface := by rw [← hWn]; exact At1.new _ _ _
        have hbk : W11.heap.size ≤ W13.heap.size := HW0.out.size
        rw [hWn]
        clear hWn
        obtain ⟨rv, hnm⟩ : ∃ x, W13.heap.size = x := ⟨_, rfl⟩
        replace HTI := Lib.hid (show Its W13 (fun b => b ≠ rv) (.slice tio n tic) (tidyP 40 p).l from HTI.out.wide (fun b (h : b < W13.heap.size) _ => by omega))
        rw [hnm] at hNB hbk ⊢
        replace HA := Lib.hid (HA.out.below hB)
        replace HI := Lib.hid (HI.out.grow hB)
        replace HT := Lib.hid (fun j hj => keep_below hB _ _ (HT.out j hj))
        replace HW0 := Lib.hid (HW0.out.trans (hB.mono HW0.out.size))
        replace HTI := Lib.hid (HTI.out.grow hB)
        have HRV := Lib.hid hNB
        have HBK9 := Lib.hid hbk
        clear hNB hB hnm hbk
        refine hK.out _ _ ?_ (fun hHeld => ?_)
        · exact ⟨HA.out.2.1, HA.out.2.2.1, HA.out.2.2.2.1⟩
        clear hK K
        refine wpAnyH_ready (rs := [4]) (by kernel_rfl) (by simp) ?_
        refine AllReadyH.cons (o := _) rfl (fun K hK => ?_) ?_
        · clear hHeld
          go_simp
          have hrv := HRV.out.1
          refine (lof_calls _ p _ nd _ HLO.out HI.out HT.out HG.out.1).mono ?_
          rintro e W15 ⟨so3, sc3, uo, rfl, hOR, hB⟩
          replace HA := Lib.hid (HA.out.below hB)
          replace HI := Lib.hid (HI.out.grow hB)
          replace HT := Lib.hid (fun j hj => keep_below hB _ _ (HT.out j hj))
          replace HW0 := Lib.hid (HW0.out.trans (hB.mono HW0.out.size))
          replace HTI := Lib.hid (HTI.out.grow hB)
          replace HRV := Lib.hid (HRV.out.below hB)
          have HUO := Lib.hid (show IsV W15 (fun b => b ≠ rv) uo A by rw [← HAA.out]; exact hOR.2.wide (fun b _ (h : W14.heap.size ≤ b) => by omega))
          clear hrv
          have hsv := HUO.out.store
          clear hOR
          clear hB
          refine hK.out _ _ ?_ (fun hHeld => ?_)
          · exact ⟨HA.out.2.1, HA.out.2.2.1, HA.out.2.2.2.1⟩
          clear hK K
          refine wpAnyH_take (i := 5) (v := ?_) rfl (by kernel_rfl) (by kernel_rfl) (by kernel_rfl) (fun _ _ _ h => absurd h.1 (by simp)) (Or.inl ⟨by rfl, ?_⟩) (by assumption) ?_
          rotate_left
          · (intro w hSw; (try dsimp only at hSw); go_simp; try with_reducible rfl)
          simp only [Act.put, List.getElem_toArray, List.getElem_cons_succ, List.getElem_cons_zero, List.setIfInBounds_toArray, List.set_cons_zero, List.set_cons_succ]
          refine wpAnyH_take (i := 7) (v := ?_) rfl (by kernel_rfl) (by kernel_rfl) (by kernel_rfl) (fun _ _ _ h => absurd h.1 (by simp)) (Or.inl ⟨by rfl, ?_⟩) (by assumption) ?_
          rotate_left
          · (intro w hSw; (try dsimp only at hSw); go_simp; try with_reducible rfl)
          simp only [Act.put, List.getElem_toArray, List.getElem_cons_succ, List.getElem_cons_zero, List.setIfInBounds_toArray, List.set_cons_zero, List.set_cons_succ]
          refine wpAnyH_ready (rs := [8]) (by kernel_rfl) (by simp) ?_
          refine AllReadyH.cons (o := _) rfl (fun K hK => ?_) ?_
          · clear hHeld
            have s0 := HRV.out.2.1
            have t0 := HRV.out.2.2 0
            go_simp
            clear s0 t0
            obtain ⟨W16, hWn⟩ : ∃ xw9, W15.setCell ⟨rv, 0, none⟩ uo = xw9 := ⟨_, rfl⟩
            rw [hWn]
            have HUY := Lib.hid (show IsV W16 (fun _ => True) uo A by rw [← hWn]; exact (HUO.out.keep (Kept.setCell _ _ _ (by simp)) (fun _ _ h => h)).any)
            have HTY := Lib.hid (show Its W16 (fun _ => True) (.slice tio n tic) (tidyP 40 p).l by rw [← hWn]; exact HTI.out.keep (Kept.setCell _ _ _ (by simp)) (fun _ _ _ => trivial))
            replace HW0 := Lib.hid (show Below W11.heap.size W11 W16 by rw [← hWn]; exact HW0.out.setCell HBK9.out _)
            replace HRV := Lib.hid (show At1 W16 rv uo by rw [← hWn]; exact At1.put1O HRV.out _)
            replace HA := Lib.hid (HAS.out.below HW0.out)
            clear hWn
            refine hK.out _ _ ?_ (fun hHeld => ?_)
            · exact ⟨HA.out.2.1, HA.out.2.2.1, HA.out.2.2.2.1⟩
            clear hK K
            refine wpAnyH_done (by kernel_rfl) ?_ _
            clear hHeld
            refine ⟨rfl, .agg #[.slice tso (tidyP 40 p).s.length tsc, .slice tio n tic, .int .i64 (tidyP 40 p).f], .agg #[.slice so3 (arrP 40 p).1.length sc3, uo], uo, tio, tic, rv, ?_, HTY.out, HUY.out, HRV.out, HW0.out⟩
            first | rfl | kernel_rfl
          exact AllReadyH.nil
        exact AllReadyH.nil
      exact AllReadyH.nil
    refine AllReadyH.cons (o := _) rfl (fun K hK => ?_) ?_
    · clear hHeld
      go_simp
      obtain ⟨W13, hWn⟩ : ∃ xw9, W12.alloc (.cells #[.nilIface] 37) = xw9 := ⟨_, rfl⟩
      have hB : Below W12.heap.size W12 W13 := by rw [← hWn]; exact below_new _ _
      have hNB : At1 W13 W12.heap.size .nilIface := by rw [← hWn]; exact At1.new _ _ _
      have hbk : W11.heap.size ≤ W12.heap.size := HW0.out.size
      rw [hWn]
      clear hWn
      obtain ⟨rv, hnm⟩ : ∃ x, W12.heap.size = x := ⟨_, rfl⟩
      have HIR := Lib.hid (show IsP W12 (fun b => b ≠ rv) _ p from HI.out.wide (fun b (h : b < W12.heap.size) _ => by omega))
      rw [hnm] at hNB hbk ⊢
      replace HA := Lib.hid (HA.out.below hB)
      replace HI := Lib.hid (HI.out.grow hB)
      replace HT := Lib.hid (fun j hj => keep_below hB _ _ (HT.out j hj))
      replace HW0 := Lib.hid (HW0.out.trans (hB.mono HW0.out.size))
      replace HIR := Lib.hid (HIR.out.grow hB)
      have HRV := Lib.hid hNB
      have HBK9 := Lib.hid hbk
      clear hNB hB hnm hbk
      refine hK.out _ _ ?_ (fun hHeld => ?_)
      · exact ⟨HA.out.2.1, HA.out.2.2.1, HA.out.2.2.2.1⟩
      clear hK K
      refine wpAnyH_ready (rs := [1]) (by kernel_rfl) (by simp) ?_
      refine AllReadyH.cons (o := _) rfl (fun K hK => ?_) ?_
      · clear hHeld
        go_simp
        have hrv := HRV.out.1
        refine (ptidy_calls 40 (fun b => b ≠ rv) p _ _ HG.out.1 (HIR.out)).mono ?_
        rintro e W14 ⟨ut, rfl, hut, hB⟩
        replace HA := Lib.hid (HA.out.below hB)
        replace HI := Lib.hid (HI.out.grow hB)
        replace HT := Lib.hid (fun j hj => keep_below hB _ _ (HT.out j hj))
        replace HW0 := Lib.hid (HW0.out.trans (hB.mono HW0.out.size))
        replace HIR := Lib.hid (HIR.out.grow hB)
        replace HRV := Lib.hid (HRV.out.below hB)
        obtain ⟨tso, tsc, tio, tic, rfl, _, hti⟩ := hut.opened
        rw [HTL.out] at hti ⊢
        have HTI := Lib.hid (show Its W14 (fun b => b ≠ rv) (.slice tio n tic) (tidyP 40 p).l from hti.wide (fun b h1 h2 => by rcases h2 with ⟨h3, _⟩ | h3 <;> first | exact h3 | omega))
        clear hut hti hrv
        clear hB
        refine hK.out _ _ ?_ (fun hHeld => ?_)
        · exact ⟨HA.out.2.1, HA.out.2.2.1, HA.out.2.2.2.1⟩
        clear hK K
        refine wpAnyH_take (i := 2) (v := ?_) rfl (by kernel_rfl) (by kernel_rfl) (by kernel_rfl) (fun _ _ _ h => absurd h.1 (by simp)) (Or.inl ⟨by rfl, ?_⟩) (by assumption) ?_
        rotate_left
        · (intro w hSw; (try dsimp only at hSw); go_simp; try with_reducible rfl)
        simp only [Act.put, List.getElem_toArray, List.getElem_cons_succ, List.getElem_cons_zero, List.setIfInBounds_toArray, List.set_cons_zero, List.set_cons_succ]
        refine wpAnyH_ready (rs := [4]) (by kernel_rfl) (by simp) ?_
        refine AllReadyH.cons (o := _) rfl (fun K hK => ?_) ?_
        · clear hHeld
          go_simp
          have hrv := HRV.out.1
          refine (lof_calls _ p _ nd _ HLO.out HI.out HT.out HG.out.1).mono ?_
          rintro e W15 ⟨so3, sc3, uo, rfl, hOR, hB⟩
          replace HA := Lib.hid (HA.out.below hB)
          replace HI := Lib.hid (HI.out.grow hB)
          replace HT := Lib.hid (fun j hj => keep_below hB _ _ (HT.out j hj))
          replace HW0 := Lib.hid (HW0.out.trans (hB.mono HW0.out.size))
          replace HIR := Lib.hid (HIR.out.grow hB)
          replace HRV := Lib.hid (HRV.out.below hB)
          replace HTI := Lib.hid (HTI.out.grow hB)
          have HUO := Lib.hid (show IsV W15 (fun b => b ≠ rv) uo A by rw [← HAA.out]; exact hOR.2.wide (fun b _ (h : W14.heap.size ≤ b) => by omega))
          clear hrv
          have hsv := HUO.out.store
          clear hOR
          clear hB
          refine hK.out _ _ ?_ (fun hHeld => ?_)
          · exact ⟨HA.out.2.1, HA.out.2.2.1, HA.out.2.2.2.1⟩
          clear hK K
          refine wpAnyH_take (i := 5) (v := ?_) rfl (by kernel_rfl) (by kernel_rfl) (by kernel_rfl) (fun _ _ _ h => absurd h.1 (by simp)) (Or.inl ⟨by rfl, ?_⟩) (by assumption) ?_
          rotate_left
          · (intro w hSw; (try dsimp only at hSw); go_simp; try with_reducible rfl)
          simp only [Act.put, List.getElem_toArray, List.getElem_cons_succ, List.getElem_cons_zero, List.setIfInBounds_toArray, List.set_cons_zero, List.set_cons_succ]
          refine wpAnyH_take (i := 7) (v := ?_) rfl (by kernel_rfl) (by kernel_rfl) (by kernel_rfl) (fun _ _ _ h => absurd h.1 (by simp)) (Or.inl ⟨by rfl, ?_⟩) (by assumption) ?_
          rotate_left
          · (intro w hSw; (try dsimp only at hSw); go_simp; try with_reducible rfl)
          simp only [Act.put, List.getElem_toArray, List.getElem_cons_succ, List.getElem_cons_zero, List.setIfInBounds_toArray, List.set_cons_zero, List.set_cons_succ]
          refine wpAnyH_ready (rs := [8]) (by kernel_rfl) (by simp) ?_
          refine AllReadyH.cons (o := _) rfl (fun K hK => ?_) ?_
          · clear hHeld
            have s0 := HRV.out.2.1
            have t0 := HRV.out.2.2 0
            go_simp
            clear s0 t0
            obtain ⟨W16, hWn⟩ : ∃ xw9, W15.setCell ⟨rv, 0, none⟩ uo = xw9 := ⟨_, rfl⟩
            rw [hWn]
            have HUY := Lib.hid (show IsV W16 (fun _ => True) uo A by rw [← hWn]; exact (HUO.out.keep (Kept.setCell _ _ _ (by simp)) (fun _ _ h => h)).any)
            have HTY := Lib.hid (show Its W16 (fun _ => True) (.slice tio n tic) (tidyP 40 p).l by rw [← hWn]; exact HTI.out.keep (Kept.setCell _ _ _ (by simp)) (fun _ _ _ => trivial))
            replace HW0 := Lib.hid (show Below W11.heap.size W11 W16 by rw [← hWn]; exact HW0.out.setCell HBK9.out _)
            replace HRV := Lib.hid (show At1 W16 rv uo by rw [← hWn]; exact At1.put1O HRV.out _)
            replace HA := Lib.hid (HAS.out.below HW0.out)
            clear hWn
            refine hK.out _ _ ?_ (fun hHeld => ?_)
            · exact ⟨HA.out.2.1, HA.out.2.2.1, HA.out.2.2.2.1⟩
            clear hK K
            refine wpAnyH_done (by kernel_rfl) ?_ _
            clear hHeld
            refine ⟨rfl, .agg #[.slice tso (tidyP 40 p).s.length tsc, .slice tio n tic, .int .i64 (tidyP 40 p).f], .agg #[.slice so3 (arrP 40 p).1.length sc3, uo], uo, tio, tic, rv, ?_, HTY.out, HUY.out, HRV.out, HW0.out⟩
            first | rfl | kernel_rfl
          exact AllReadyH.nil
        exact AllReadyH.nil
      exact AllReadyH.nil
    exact AllReadyH.nil
  rintro _ wm ⟨uT, uL, uo, tio, tic, rv, rfl, hti, huo, hrv, hB⟩
  have HTI := Lib.hid hti
  have HUO := Lib.hid huo
  have HRV := Lib.hid hrv
  have hsv := huo.store
  clear hti huo hrv
  replace HA := Lib.hid (HA.out.below hB)
  replace HB := Lib.hid (HB.out.trans (hB.mono HB.out.size))
  replace HI := Lib.hid (HI.out.grow hB)
  replace HT := Lib.hid (fun j hj => keep_below hB _ _ (HT.out j hj))
  replace HV := Lib.hid (HV.out.below hB)
  clear hB
  simp only [Act.put, List.setIfInBounds_toArray, List.set_cons_zero, List.set_cons_succ]
  have cHA0 := HA.out.2.1
  have cHA1 := HA.out.2.2.1
  have cHA2 := HA.out.2.2.2.1
  have cHRV0 := HRV.out.2.1
  go_wp2_with fail
  refine (rgrade_calls _ (tidyP 40 p).l (keyV A) size down _ HTI.out HKY.out HS.out.1 HS.out.2 HTM.out).mono ?_
  rintro e W12 ⟨vg, rfl, hvg, hB⟩
  clear cHA0 cHA1 cHA2 cHRV0
  replace HA := Lib.hid (HA.out.below hB)
  replace HB := Lib.hid (HB.out.trans (hB.mono HB.out.size))
  replace HI := Lib.hid (HI.out.grow hB)
  replace HT := Lib.hid (fun j hj => keep_below hB _ _ (HT.out j hj))
  replace HV := Lib.hid (HV.out.below hB)
  replace HTI := Lib.hid (HTI.out.grow hB)
  replace HUO := Lib.hid (HUO.out.grow hB)
  replace HRV := Lib.hid (HRV.out.below hB)
  rw [HQT.out, HGE.out] at hvg
  have HVG := Lib.hid hvg.any
  obtain ⟨ag, cg, rfl, _⟩ := hvg.opened
  clear hvg
  clear hB
  have cHA0 := HA.out.2.1
  have cHA1 := HA.out.2.2.1
  have cHA2 := HA.out.2.2.2.1
  have cHRV0 := HRV.out.2.1
  go_wp2_with fail
  refine (osorted_yes _ A size _ _ G Q down _ HUO.out HAF.out HAC.out HS.out.1 HS.out.2 HAM.out rfl HGL.out HVG.out (by have := HQM.out; omega) ((HGS.out G).2 rfl)).mono ?_
  rintro e W13 ⟨rfl, hB⟩
  clear cHA0 cHA1 cHA2 cHRV0
  replace HA := Lib.hid (HA.out.below hB)
  replace HB := Lib.hid (HB.out.trans (hB.mono HB.out.size))
  replace HI := Lib.hid (HI.out.grow hB)
  replace HT := Lib.hid (fun j hj => keep_below hB _ _ (HT.out j hj))
  replace HV := Lib.hid (HV.out.below hB)
  replace HTI := Lib.hid (HTI.out.grow hB)
  replace HUO := Lib.hid (HUO.out.grow hB)
  replace HRV := Lib.hid (HRV.out.below hB)
  replace HVG := Lib.hid (HVG.out.below hB)
  clear hB
  have cHA0 := HA.out.2.1
  have cHA1 := HA.out.2.2.1
  have cHA2 := HA.out.2.2.2.1
  have cHRV0 := HRV.out.2.1
  go_wp2_with fail
  by_cases hlg : l = G
  rotate_left
  · have HNE := Lib.hid hlg
    clear hlg
    refine (osorted_no _ A size _ _ l m down _ HUO.out HAF.out HAC.out HS.out.1 HS.out.2 HAM.out rfl HML.out HV.out (by have := HMM.out; omega) (fun h => HNE.out ((HGS.out l).1 h))).mono ?_
    rintro e W14 ⟨rfl, hB⟩
    clear cHA0 cHA1 cHA2 cHRV0
    replace HA := Lib.hid (HA.out.below hB)
    replace HB := Lib.hid (HB.out.trans (hB.mono HB.out.size))
    replace HI := Lib.hid (HI.out.grow hB)
    replace HT := Lib.hid (fun j hj => keep_below hB _ _ (HT.out j hj))
    replace HV := Lib.hid (HV.out.below hB)
    replace HTI := Lib.hid (HTI.out.grow hB)
    replace HUO := Lib.hid (HUO.out.grow hB)
    replace HRV := Lib.hid (HRV.out.below hB)
    replace HVG := Lib.hid (HVG.out.below hB)
    clear hB
    have cHA0 := HA.out.2.1
    have cHA1 := HA.out.2.2.1
    have cHA2 := HA.out.2.2.2.1
    have cHRV0 := HRV.out.2.1
    go_wp2_with fail
    refine (ints_no _ _ l G m Q _ HV.out HVG.out HML.out HGL.out (by have := HMM.out; omega) HNE.out).mono ?_
    rintro e W15 ⟨rfl, hB⟩
    clear cHA0 cHA1 cHA2 cHRV0
    replace HA := Lib.hid (HA.out.below hB)
    replace HB := Lib.hid (HB.out.trans (hB.mono HB.out.size))
    replace HI := Lib.hid (HI.out.grow hB)
    replace HT := Lib.hid (fun j hj => keep_below hB _ _ (HT.out j hj))
    replace HV := Lib.hid (HV.out.below hB)
    replace HTI := Lib.hid (HTI.out.grow hB)
    replace HUO := Lib.hid (HUO.out.grow hB)
    replace HRV := Lib.hid (HRV.out.below hB)
    replace HVG := Lib.hid (HVG.out.below hB)
    clear hB
    have cHA0 := HA.out.2.1
    have cHA1 := HA.out.2.2.1
    have cHA2 := HA.out.2.2.2.1
    have cHRV0 := HRV.out.2.1
    go_wp2_with fail
    refine (osorted_zero _ A _ down _ HUO.out).mono ?_
    rintro e W16 ⟨rfl, hB⟩
    clear cHA0 cHA1 cHA2 cHRV0
    replace HA := Lib.hid (HA.out.below hB)
    replace HB := Lib.hid (HB.out.trans (hB.mono HB.out.size))
    replace HI := Lib.hid (HI.out.grow hB)
    replace HT := Lib.hid (fun j hj => keep_below hB _ _ (HT.out j hj))
    replace HV := Lib.hid (HV.out.below hB)
    replace HTI := Lib.hid (HTI.out.grow hB)
    replace HUO := Lib.hid (HUO.out.grow hB)
    replace HRV := Lib.hid (HRV.out.below hB)
    replace HVG := Lib.hid (HVG.out.below hB)
    clear hB
    have cHA0 := HA.out.2.1
    have cHA1 := HA.out.2.2.1
    have cHA2 := HA.out.2.2.2.1
    have cHRV0 := HRV.out.2.1
    go_wp2_with fail
    refine (awake16_calls _ HT.out).mono ?_
    rintro e W17 ⟨rfl, hB⟩
    clear cHA0 cHA1 cHA2 cHRV0
    replace HA := Lib.hid (HA.out.below hB)
    replace HB := Lib.hid (HB.out.trans (hB.mono HB.out.size))
    replace HI := Lib.hid (HI.out.grow hB)
    replace HT := Lib.hid (fun j hj => keep_below hB _ _ (HT.out j hj))
    replace HV := Lib.hid (HV.out.below hB)
    replace HTI := Lib.hid (HTI.out.grow hB)
    replace HUO := Lib.hid (HUO.out.grow hB)
    replace HRV := Lib.hid (HRV.out.below hB)
    replace HVG := Lib.hid (HVG.out.below hB)
    clear hB
    have cHA0 := HA.out.2.1
    have cHA1 := HA.out.2.2.1
    have cHA2 := HA.out.2.2.2.1
    have cHRV0 := HRV.out.2.1
    go_wp2_with fail
    go_ret
    exact ⟨rfl, HB.out⟩
  have HEQ := Lib.hid hlg
  clear hlg
  refine (osorted_yes _ A size _ _ l m down _ HUO.out HAF.out HAC.out HS.out.1 HS.out.2 HAM.out rfl HML.out HV.out (by have := HMM.out; omega) ((HGS.out l).2 HEQ.out)).mono ?_
  rintro e W14 ⟨rfl, hB⟩
  clear cHA0 cHA1 cHA2 cHRV0
  replace HA := Lib.hid (HA.out.below hB)
  replace HB := Lib.hid (HB.out.trans (hB.mono HB.out.size))
  replace HI := Lib.hid (HI.out.grow hB)
  replace HT := Lib.hid (fun j hj => keep_below hB _ _ (HT.out j hj))
  replace HV := Lib.hid (HV.out.below hB)
  replace HTI := Lib.hid (HTI.out.grow hB)
  replace HUO := Lib.hid (HUO.out.grow hB)
  replace HRV := Lib.hid (HRV.out.below hB)
  replace HVG := Lib.hid (HVG.out.below hB)
  clear hB
  have cHA0 := HA.out.2.1
  have cHA1 := HA.out.2.2.1
  have cHA2 := HA.out.2.2.2.1
  have cHRV0 := HRV.out.2.1
  go_wp2_with fail
  have HLQ := Lib.hid (show Q = m by rw [← HGL.out, ← HEQ.out]; exact HML.out)
  have HVH := Lib.hid (show Slc W14 (fun _ => True) (.slice ag Q cg) m (ints l) by have := HVG.out; rw [← HEQ.out] at this; rw [← HLQ.out]; exact this)
  refine (ints_eq _ _ l m _ HV.out HVH.out HML.out (by have := HMM.out; omega)).mono ?_
  rintro e W15 ⟨rfl, hB⟩
  clear cHA0 cHA1 cHA2 cHRV0
  replace HA := Lib.hid (HA.out.below hB)
  replace HB := Lib.hid (HB.out.trans (hB.mono HB.out.size))
  replace HI := Lib.hid (HI.out.grow hB)
  replace HT := Lib.hid (fun j hj => keep_below hB _ _ (HT.out j hj))
  replace HV := Lib.hid (HV.out.below hB)
  replace HTI := Lib.hid (HTI.out.grow hB)
  replace HUO := Lib.hid (HUO.out.grow hB)
  replace HRV := Lib.hid (HRV.out.below hB)
  replace HVG := Lib.hid (HVG.out.below hB)
  clear hB
  have cHA0 := HA.out.2.1
  have cHA1 := HA.out.2.2.1
  have cHA2 := HA.out.2.2.2.1
  have cHRV0 := HRV.out.2.1
  go_wp2_with fail
  refine (osorted_zero _ A _ down _ HUO.out).mono ?_
  rintro e W16 ⟨rfl, hB⟩
  clear cHA0 cHA1 cHA2 cHRV0
  replace HA := Lib.hid (HA.out.below hB)
  replace HB := Lib.hid (HB.out.trans (hB.mono HB.out.size))
  replace HI := Lib.hid (HI.out.grow hB)
  replace HT := Lib.hid (fun j hj => keep_below hB _ _ (HT.out j hj))
  replace HV := Lib.hid (HV.out.below hB)
  replace HTI := Lib.hid (HTI.out.grow hB)
  replace HUO := Lib.hid (HUO.out.grow hB)
  replace HRV := Lib.hid (HRV.out.below hB)
  replace HVG := Lib.hid (HVG.out.below hB)
  clear hB
  have cHA0 := HA.out.2.1
  have cHA1 := HA.out.2.2.1
  have cHA2 := HA.out.2.2.2.1
  have cHRV0 := HRV.out.2.1
  go_wp2_with fail
  refine (awake16_calls _ HT.out).mono ?_
  rintro e W17 ⟨rfl, hB⟩
  clear cHA0 cHA1 cHA2 cHRV0
  replace HA := Lib.hid (HA.out.below hB)
  replace HB := Lib.hid (HB.out.trans (hB.mono HB.out.size))
  replace HI := Lib.hid (HI.out.grow hB)
  replace HT := Lib.hid (fun j hj => keep_below hB _ _ (HT.out j hj))
  replace HV := Lib.hid (HV.out.below hB)
  replace HTI := Lib.hid (HTI.out.grow hB)
  replace HUO := Lib.hid (HUO.out.grow hB)
  replace HRV := Lib.hid (HRV.out.below hB)
  replace HVG := Lib.hid (HVG.out.below hB)
  clear hB
  have cHA0 := HA.out.2.1
  have cHA1 := HA.out.2.2.1
  have cHA2 := HA.out.2.2.2.1
  have cHRV0 := HRV.out.2.1
  go_wp2_with fail
  go_ret
  exact ⟨rfl, HB.out⟩

theorem orderSorted_frame (w : World) (u : Value) (p : PA) (n : Nat) (hl : lo n p) (hp : IsP w (fun _ => True) u p) (size : Int) (_ : (Lit.int .i64 size).wf = true) (down : Bool) (v : Value) (l : List Int) (hr : RowC w v (l.map (Value.int .i64))) (hz : ∀ z ∈ l, (Lit.int .i64 z).wf = true) (hm : l.length ≤ maxLen) (hT : TabAt w) :
    Calls Tryd.prog 5 #[u, .int .i64 size, .bool down, v] w fun e w' => e = .returned (.bool true) ∧ Below w.heap.size w w' :=
  orderSorted_walk p u n size down v l w hl hp (by have := hr.slc; rw [List.length_map] at this; exact this) hT
end Go.Proofs.YtibkbhglcmpeaaaDoor

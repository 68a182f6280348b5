/- Merged: LoI. -/
import Derived.Test.YtakbhiomhjmihaaDoorMgLo1
import Derived.Test.YtakbhiomhjmihaaDoorMgBv1
/- Layer 12's law: LogicTurns. -/
namespace Go.Proofs.YtakbhiomhjmihaaDoor
set_option maxRecDepth 100000
open Go.RowKit Fl
set_option linter.unusedVariables false

theorem At1.put1L {w : World} {b : Nat} {u : Value} (h : At1 w b u) (x : Value) : At1 (w.setCell ⟨b, 0, none⟩ x) b x :=
  ⟨by simpa using h.1, World.cell?_setCell_same _ _ _ h.2.1, fun o => by simpa using h.2.2 o⟩
theorem pk_same {l : List Bool} {n i : Nat} (hl : l.length = n) (hi : i < n) : pk false l i = l[i]'(by omega) := by
  unfold pk
  have e : (if l.length = 1 then 0 else i) = i := by split <;> omega
  rw [e, List.getD_eq_getElem?_getD, List.getElem?_eq_getElem (by omega)]; rfl
theorem lo_zero {f : Int} {a b : List Bool} (hf : 21 ≤ f ∧ f ≤ 24) (h : a.length = b.length) : loE f (.bits a) (.bits b) = 0 ∧ loV f (.bits a) (.bits b) = .bits ((prs false a b a.length).map fun p => logB f p.1 p.2) := by
  have hl : lenN (VV.bits a).len (VV.bits b).len = a.length := if_pos (Or.inl h)
  have hg : goesA (VV.bits a).len (VV.bits b).len := Or.inl h
  have hE : loE f (.bits a) (.bits b) = 0 := by
    by_cases h0 : a.length = 0
    · exact loE_z0 hf hg (by rw [hl, h0]) ⟨rfl, rfl⟩
    · exact loE_0 hf hg (by rw [hl]; exact h0) ⟨rfl, rfl⟩
  exact ⟨hE, by rw [loV_yes hE, hl]; rfl⟩
theorem lo_nots {a b : List Bool} (h : a.length = b.length) (f g : Int) (neg : Bool) (hfg : ∀ x y, logB g (!x) (!y) = (if neg then !(logB f x y) else logB f x y)) :
    ((prs false (a.map fun b => !b) (b.map fun b => !b) a.length).map fun p => logB g p.1 p.2) = ((prs false a b a.length).map fun p => logB f p.1 p.2).map fun b => if neg then !b else b := by
  apply List.ext_getElem (by simp [prs_len])
  intro i h1 h2
  have hi : i < a.length := by simpa [prs_len] using h1
  simp only [prs, List.getElem_map, List.getElem_range]
  rw [pk_same (n := a.length) (by simp) hi, pk_same (n := a.length) (by simp [h]) hi, pk_same rfl hi, pk_same (n := a.length) h.symm hi]
  simp only [List.getElem_map]
  exact hfg _ _
theorem lo_flips {a b : List Bool} (f g : Int) (hfg : ∀ x y, logB g x y = !(logB f x y)) (n : Nat) :
    ((prs false a b n).map fun p => logB g p.1 p.2) = ((prs false a b n).map fun p => logB f p.1 p.2).map fun b => !b := by
  rw [List.map_map]
  exact List.map_congr_left fun p _ => hfg _ _
/-- The four answers: by X, what And tells. -/
theorem lo_turns {a b : List Bool} (h : a.length = b.length) : ∃ X : List Bool, X.length = a.length ∧
    (loE 21 (.bits a) (.bits b) = 0 ∧ loV 21 (.bits a) (.bits b) = .bits X) ∧ (loE 23 (.bits a) (.bits b) = 0 ∧ loV 23 (.bits a) (.bits b) = .bits (X.map fun b => !b)) ∧
    (loE 22 (.bits (a.map fun b => !b)) (.bits (b.map fun b => !b)) = 0 ∧ loV 22 (.bits (a.map fun b => !b)) (.bits (b.map fun b => !b)) = .bits (X.map fun b => !b)) ∧
    (loE 24 (.bits (a.map fun b => !b)) (.bits (b.map fun b => !b)) = 0 ∧ loV 24 (.bits (a.map fun b => !b)) (.bits (b.map fun b => !b)) = .bits X) := by
  have h2 : (a.map fun b => !b).length = (b.map fun b => !b).length := by simp [h]
  refine ⟨(prs false a b a.length).map fun p => logB 21 p.1 p.2, by simp [prs_len], lo_zero (by decide) h, ?_, ?_, ?_⟩
  · obtain ⟨e1, e2⟩ := lo_zero (f := 23) (by decide) h
    exact ⟨e1, by rw [e2, lo_flips 21 23 (fun x y => by cases x <;> cases y <;> decide)]⟩
  · obtain ⟨e1, e2⟩ := lo_zero (f := 22) (by decide) h2
    refine ⟨e1, ?_⟩
    rw [e2, List.length_map, lo_nots h 21 22 true (fun x y => by cases x <;> cases y <;> decide)]
    simp
  · obtain ⟨e1, e2⟩ := lo_zero (f := 24) (by decide) h2
    refine ⟨e1, ?_⟩
    rw [e2, List.length_map, lo_nots h 21 24 false (fun x y => by cases x <;> cases y <;> decide)]
    simp
set_option maxHeartbeats 16000000 in
theorem logicTurns_walk (va vb : Value) (a b : List Bool) (w : World) (hva : Slc w (fun _ => True) va a.length (bools a)) (hvb : Slc w (fun _ => True) vb b.length (bools b)) (hla : a.length ≤ maxLen) (hlb : b.length ≤ maxLen) (hT : TabAt w) :
    Calls Tryd.prog 6 #[va, vb] w (Yes12 w) := by
  have HVA := Lib.hid hva
  have HVB := Lib.hid hvb
  have HT := Lib.hid hT
  have HB := Lib.hid (Below.refl w.heap.size w)
  obtain ⟨ao, cap, rfl, _⟩ := hva.opened
  obtain ⟨bo, cbp, rfl, _⟩ := hvb.opened
  clear hva hvb hT
  by_cases hga : 300 < a.length
  · go_enter Tryd.func6, Tryd.ntmps6
    go_wp2_with fail
    refine (awake12_calls _ HT.out).mono ?_
    rintro e W11 ⟨rfl, hB⟩
    replace HB := Lib.hid (HB.out.trans (hB.mono HB.out.size))
    replace HT := Lib.hid (fun j hj => keep_below hB _ _ (HT.out j hj))
    replace HVA := Lib.hid (HVA.out.below hB)
    replace HVB := Lib.hid (HVB.out.below hB)
    clear hB
    go_wp2_with fail
    go_ret
    exact ⟨rfl, HB.out⟩
  by_cases hgb : b.length = a.length
  rotate_left
  · have h9 : ((b.length : Int) != (a.length : Int)) = true := by rw [bne_iff_ne]; omega
    go_enter Tryd.func6, Tryd.ntmps6
    go_wp2_with fail
    refine (awake12_calls _ HT.out).mono ?_
    rintro e W11 ⟨rfl, hB⟩
    replace HB := Lib.hid (HB.out.trans (hB.mono HB.out.size))
    replace HT := Lib.hid (fun j hj => keep_below hB _ _ (HT.out j hj))
    replace HVA := Lib.hid (HVA.out.below hB)
    replace HVB := Lib.hid (HVB.out.below hB)
    clear hB
    go_wp2_with fail
    go_ret
    exact ⟨rfl, HB.out⟩
  have HLA := Lib.hid (show a.length ≤ 1048576 by omega)
  have HLE := Lib.hid hgb
  have HTU := Lib.hid (lo_turns hgb.symm)
  obtain ⟨bl, hbl⟩ : ∃ n, b.length = n := ⟨_, rfl⟩
  have HBL := Lib.hid hbl
  have h9 : ((a.length : Int) != (a.length : Int)) = false := by simp
  rw [hgb] at HVB ⊢
  clear hbl hgb
  obtain ⟨X, hX⟩ := HTU.out
  have HXL := Lib.hid hX.1
  have HZ1 := Lib.hid hX.2.1
  have HZ2 := Lib.hid hX.2.2.1
  have HZ3 := Lib.hid hX.2.2.2.1
  have HZ4 := Lib.hid hX.2.2.2.2
  have HXM := Lib.hid (show X.length ≤ 1048576 by rw [hX.1]; exact HLA.out)
  have HBM := Lib.hid (show b.length ≤ 1048576 by rw [HLE.out]; exact HLA.out)
  clear hX
  obtain ⟨Y, hY⟩ : ∃ Y, (X.map fun b => !b) = Y := ⟨_, rfl⟩
  have HYE := Lib.hid hY
  have HYM := Lib.hid (show Y.length ≤ 1048576 by rw [← hY, List.length_map]; exact HXM.out)
  rw [hY] at HZ2 HZ3
  clear hY
  obtain ⟨na, hna⟩ : ∃ Y, (a.map fun b => !b) = Y := ⟨_, rfl⟩
  obtain ⟨nb, hnb⟩ : ∃ Y, (b.map fun b => !b) = Y := ⟨_, rfl⟩
  have HNA := Lib.hid hna
  have HNB := Lib.hid hnb
  have HNAM := Lib.hid (show na.length ≤ 1048576 by rw [← hna, List.length_map]; exact HLA.out)
  have HNBM := Lib.hid (show nb.length ≤ 1048576 by rw [← hnb, List.length_map]; exact HBM.out)
  rw [hna, hnb] at HZ3 HZ4
  clear hna hnb HTU
  go_enter Tryd.func6, Tryd.ntmps6
  go_wp2_with fail
  refine (pack_calls _ a _ HVA.out.1.sl HLA.out).mono ?_
  rintro e W11 ⟨vp, rfl, hvp, hB⟩
  replace HB := Lib.hid (HB.out.trans (hB.mono HB.out.size))
  replace HT := Lib.hid (fun j hj => keep_below hB _ _ (HT.out j hj))
  replace HVA := Lib.hid (HVA.out.below hB)
  replace HVB := Lib.hid (HVB.out.below hB)
  have Hvp := Lib.hid hvp
  obtain ⟨ap, cp, rfl, hcp⟩ := hvp.opened
  clear hvp hcp
  clear hB
  go_wp2_with fail
  have HVB := Lib.hid (show Slc W11 (fun _ => True) (.slice bo a.length cbp) b.length (bools b) by rw [HLE.out]; exact HVB.out)
  refine (pack_calls _ b _ HVB.out.1.sl HBM.out).mono ?_
  rintro e W12 ⟨vq, rfl, hvq, hB⟩
  replace HB := Lib.hid (HB.out.trans (hB.mono HB.out.size))
  replace HT := Lib.hid (fun j hj => keep_below hB _ _ (HT.out j hj))
  replace HVA := Lib.hid (HVA.out.below hB)
  replace HVB := Lib.hid (HVB.out.below hB)
  replace Hvp := Lib.hid (Hvp.out.keep (keep_below hB))
  have Hvq := Lib.hid hvq
  obtain ⟨aq, cq, rfl, hcq⟩ := hvq.opened
  clear hvq hcq
  clear hB
  go_wp2_with fail
  clear HVA HVB
  obtain ⟨W13, hWn⟩ : ∃ xw9, (W12.alloc (.cells #[.int .i64 a.length, .slice ap ((a.length + 63) / 64) cp] 43)).alloc (.cells #[.int .i64 b.length, .slice aq ((b.length + 63) / 64) cq] 43) = xw9 := ⟨_, rfl⟩
  have hB : Below W12.heap.size W12 W13 := by rw [← hWn]; exact (below_new _ _).alloc (by simp) _
  have hNA : At2 W13 W12.heap.size (.int .i64 a.length) (.slice ap ((a.length + 63) / 64) cp) := by rw [← hWn]; exact (At2.new W12 _ _ _).alloc _
  have hNB : At2 W13 (W12.heap.size + 1) (.int .i64 b.length) (.slice aq ((b.length + 63) / 64) cq) := by rw [← hWn]; have := At2.new (W12.alloc (.cells #[.int .i64 a.length, .slice ap ((a.length + 63) / 64) cp] 43)) (.int .i64 b.length) (.slice aq ((b.length + 63) / 64) cq) 43; simpa using this
  rw [hWn]
  clear hWn
  obtain ⟨pb, hpb⟩ : ∃ x, W12.heap.size = x := ⟨_, rfl⟩
  obtain ⟨qb, hqb⟩ : ∃ x, W12.heap.size + 1 = x := ⟨_, rfl⟩
  rw [hpb] at hNA hqb ⊢
  rw [hqb] at ⊢
  rw [hpb, hqb] at hNB
  replace HB := Lib.hid (HB.out.trans (hB.mono HB.out.size))
  replace HT := Lib.hid (fun j hj => keep_below hB _ _ (HT.out j hj))
  replace Hvp := Lib.hid (Hvp.out.keep (keep_below hB))
  replace Hvq := Lib.hid (Hvq.out.keep (keep_below hB))
  have HP := Lib.hid hNA
  have HQ := Lib.hid hNB
  clear hNA hNB hB hpb hqb
  have cHP0 := HP.out.2.1
  have cHP1 := HP.out.2.2.1
  have cHQ0 := HQ.out.2.1
  have cHQ1 := HQ.out.2.2.1
  go_wp2_with fail
  clear cHP0 cHP1 cHQ0 cHQ1
  refine wp_mid (fun s0 s1 w' => ∃ (ux uy u4 : Value) (r4 : Nat), s1 = ((((((((((s0.put (some 39) (.agg #[.int .i64 a.length, .slice ap ((a.length + 63) / 64) cp])).put (some 40) (.agg #[ux])).put (some 41) (.agg #[.int .i64 b.length, .slice aq ((b.length + 63) / 64) cq])).put (some 42) (.agg #[uy])).put (some 43) (.tuple #[.agg #[u4], .int .i64 0])).put (some 38) (.tuple #[.agg #[u4], .int .i64 0])).put (some 44) (.agg #[u4])).put (some 45) (.int .i64 0)).put (some 7) (.pointer (some ⟨r4, 0, none⟩))).put (some 8) (.int .i64 0)) ∧ IsV w' (fun _ => True) u4 (.bits X) ∧ At1 w' r4 u4 ∧ Below W13.heap.size W13 w') ?_ ?_
  · have HW0 := Lib.hid (Below.refl W13.heap.size W13)
    have HPQ := Lib.hid (show pb < W13.heap.size ∧ qb < W13.heap.size from ⟨HP.out.1, HQ.out.1⟩)
    obtain ⟨W14, hWD⟩ : ∃ xw9, W13.drew = xw9 := ⟨_, rfl⟩
    have hB : Below W13.heap.size W13 W14 := by rw [← hWD]; exact Below.drewN' (Below.refl _ _) 1
    replace HT := Lib.hid (fun j hj => keep_below hB _ _ (HT.out j hj))
    replace Hvp := Lib.hid (Hvp.out.keep (keep_below hB))
    replace Hvq := Lib.hid (Hvq.out.keep (keep_below hB))
    replace HP := Lib.hid (HP.out.below hB)
    replace HQ := Lib.hid (HQ.out.below hB)
    replace HW0 := Lib.hid (HW0.out.trans (hB.mono HW0.out.size))
    clear hB
    refine wp_region_held_drew (S := fun w' => w'.cell? ⟨pb, 0, none⟩ = some (.int .i64 a.length) ∧ w'.cell? ⟨pb, 1, none⟩ = some (.slice ap ((a.length + 63) / 64) cp) ∧ w'.cell? ⟨qb, 0, none⟩ = some (.int .i64 b.length) ∧ w'.cell? ⟨qb, 1, none⟩ = some (.slice aq ((b.length + 63) / 64) cq)) (by kernel_rfl) (by rw [hWD]; exact ⟨HP.out.2.1, HP.out.2.2.1, HQ.out.2.1, HQ.out.2.2.1⟩) (fun hHeld => ?_)
    rw [hWD] at hHeld ⊢
    clear hWD
    refine wpAnyH_take (i := 0) (v := ?_) rfl (by kernel_rfl) (by kernel_rfl) (by kernel_rfl) (fun _ _ _ h => absurd h.1 (by simp)) (Or.inl ⟨by rfl, ?_⟩) (by assumption) ?_
    rotate_left
    · (intro w hSw; (try dsimp only at hSw); go_simp; try with_reducible rfl)
    simp only [Act.put, List.getElem_toArray, List.getElem_cons_zero, List.setIfInBounds_toArray, List.set_cons_zero, List.set_cons_succ]
    refine wpAnyH_take (i := 2) (v := ?_) rfl (by kernel_rfl) (by kernel_rfl) (by kernel_rfl) (fun _ _ _ h => absurd h.1 (by simp)) (Or.inl ⟨by rfl, ?_⟩) (by assumption) ?_
    rotate_left
    · (intro w hSw; (try dsimp only at hSw); go_simp; try with_reducible rfl)
    simp only [Act.put, List.getElem_toArray, List.getElem_cons_succ, List.getElem_cons_zero, List.setIfInBounds_toArray, List.set_cons_zero, List.set_cons_succ]
    refine wpAnyH_ready (rs := [1, 8]) (by kernel_rfl) (by simp) ?_
    refine AllReadyH.cons (o := _) rfl (fun K hK => ?_) ?_
    · clear hHeld
      go_simp
      refine (vbits_calls _ a _ Hvp.out HLA.out).mono ?_
      rintro e W15 ⟨ux, rfl, hux, hB⟩
      replace HT := Lib.hid (fun j hj => keep_below hB _ _ (HT.out j hj))
      replace Hvp := Lib.hid (Hvp.out.keep (keep_below hB))
      replace Hvq := Lib.hid (Hvq.out.keep (keep_below hB))
      replace HP := Lib.hid (HP.out.below hB)
      replace HQ := Lib.hid (HQ.out.below hB)
      replace HW0 := Lib.hid (HW0.out.trans (hB.mono HW0.out.size))
      have Hux := Lib.hid (IsV.any hux)
      have hsux := hux.store
      clear hux
      clear hB
      refine hK.out _ _ ?_ (fun hHeld => ?_)
      · exact ⟨HP.out.2.1, HP.out.2.2.1, HQ.out.2.1, HQ.out.2.2.1⟩
      clear hK K
      refine wpAnyH_ready (rs := [3, 8]) (by kernel_rfl) (by simp) ?_
      refine AllReadyH.cons (o := _) rfl (fun K hK => ?_) ?_
      · clear hHeld
        go_simp
        refine (vbits_calls _ b _ Hvq.out HBM.out).mono ?_
        rintro e W16 ⟨uy, rfl, huy, hB⟩
        replace HT := Lib.hid (fun j hj => keep_below hB _ _ (HT.out j hj))
        replace Hvp := Lib.hid (Hvp.out.keep (keep_below hB))
        replace Hvq := Lib.hid (Hvq.out.keep (keep_below hB))
        replace HP := Lib.hid (HP.out.below hB)
        replace HQ := Lib.hid (HQ.out.below hB)
        replace HW0 := Lib.hid (HW0.out.trans (hB.mono HW0.out.size))
        replace Hux := Lib.hid (Hux.out.grow hB)
        have Huy := Lib.hid (IsV.any huy)
        have hsuy := huy.store
        clear huy
        clear hB
        refine hK.out _ _ ?_ (fun hHeld => ?_)
        · exact ⟨HP.out.2.1, HP.out.2.2.1, HQ.out.2.1, HQ.out.2.2.1⟩
        clear hK K
        refine wpAnyH_ready (rs := [4, 8]) (by kernel_rfl) (by simp) ?_
        refine AllReadyH.cons (o := _) rfl (fun K hK => ?_) ?_
        · clear hHeld
          go_simp
          refine (loapply_calls 21 _ _ (.bits a) (.bits b) _ Hux.out Huy.out HLA.out HBM.out trivial trivial HT.out).mono ?_
          rintro e W17 ⟨u4, rfl, hu4, hB⟩
          replace HT := Lib.hid (fun j hj => keep_below hB _ _ (HT.out j hj))
          replace Hvp := Lib.hid (Hvp.out.keep (keep_below hB))
          replace Hvq := Lib.hid (Hvq.out.keep (keep_below hB))
          replace HP := Lib.hid (HP.out.below hB)
          replace HQ := Lib.hid (HQ.out.below hB)
          replace HW0 := Lib.hid (HW0.out.trans (hB.mono HW0.out.size))
          replace Hux := Lib.hid (Hux.out.grow hB)
          replace Huy := Lib.hid (Huy.out.grow hB)
          rw [HZ1.out.1]
          rw [HZ1.out.2] at hu4
          have HU4 := Lib.hid (IsV.any hu4)
          have hsu4 := hu4.store
          clear hu4
          clear hB
          refine hK.out _ _ ?_ (fun hHeld => ?_)
          · exact ⟨HP.out.2.1, HP.out.2.2.1, HQ.out.2.1, HQ.out.2.2.1⟩
          clear hK K
          refine wpAnyH_take (i := 5) (v := ?_) rfl (by kernel_rfl) (by kernel_rfl) (by kernel_rfl) (fun _ _ _ h => absurd h.1 (by simp)) (Or.inl ⟨by rfl, ?_⟩) (by assumption) ?_
          rotate_left
          · (intro w hSw; (try dsimp only at hSw); go_simp; try with_reducible rfl)
          simp only [Act.put, List.getElem_toArray, List.getElem_cons_succ, List.getElem_cons_zero, List.setIfInBounds_toArray, List.set_cons_zero, List.set_cons_succ]
          refine wpAnyH_take (i := 6) (v := ?_) rfl (by kernel_rfl) (by kernel_rfl) (by kernel_rfl) (fun _ _ _ h => absurd h.1 (by simp)) (Or.inl ⟨by rfl, ?_⟩) (by assumption) ?_
          rotate_left
          · (intro w hSw; (try dsimp only at hSw); go_simp; try with_reducible rfl)
          simp only [Act.put, List.getElem_toArray, List.getElem_cons_succ, List.getElem_cons_zero, List.setIfInBounds_toArray, List.set_cons_zero, List.set_cons_succ]
          refine wpAnyH_take (i := 7) (v := ?_) rfl (by kernel_rfl) (by kernel_rfl) (by kernel_rfl) (fun _ _ _ h => absurd h.1 (by simp)) (Or.inl ⟨by rfl, ?_⟩) (by assumption) ?_
          rotate_left
          · (intro w hSw; (try dsimp only at hSw); go_simp; try with_reducible rfl)
          simp only [Act.put, List.getElem_toArray, List.getElem_cons_succ, List.getElem_cons_zero, List.setIfInBounds_toArray, List.set_cons_zero, List.set_cons_succ]
          refine wpAnyH_ready (rs := [8]) (by kernel_rfl) (by simp) ?_
          refine AllReadyH.cons (o := _) rfl (fun K hK => ?_) ?_
          · clear hHeld
            go_simp
            obtain ⟨W18, hWn⟩ : ∃ xw9, W17.alloc (.cells #[.nilIface] 31) = xw9 := ⟨_, rfl⟩
            have hB : Below W17.heap.size W17 W18 := by rw [← hWn]; exact below_new _ _
            have hNB : At1 W18 W17.heap.size .nilIface := by rw [← hWn]; exact At1.new _ _ _
            have hbk : W13.heap.size ≤ W17.heap.size := HW0.out.size
            rw [hWn]
            clear hWn
            obtain ⟨r4, hnm⟩ : ∃ x, W17.heap.size = x := ⟨_, rfl⟩
            rw [hnm] at hNB hbk ⊢
            replace HT := Lib.hid (fun j hj => keep_below hB _ _ (HT.out j hj))
            replace Hvp := Lib.hid (Hvp.out.keep (keep_below hB))
            replace Hvq := Lib.hid (Hvq.out.keep (keep_below hB))
            replace HP := Lib.hid (HP.out.below hB)
            replace HQ := Lib.hid (HQ.out.below hB)
            replace HW0 := Lib.hid (HW0.out.trans (hB.mono HW0.out.size))
            replace Hux := Lib.hid (Hux.out.grow hB)
            replace Huy := Lib.hid (Huy.out.grow hB)
            replace HU4 := Lib.hid (HU4.out.grow hB)
            have HRV := Lib.hid hNB
            have HBK := Lib.hid hbk
            clear hNB hB hnm hbk
            refine hK.out _ _ ?_ (fun hHeld => ?_)
            · exact ⟨HP.out.2.1, HP.out.2.2.1, HQ.out.2.1, HQ.out.2.2.1⟩
            clear hK K
            refine wpAnyH_ready (rs := [9]) (by kernel_rfl) (by simp) ?_
            refine AllReadyH.cons (o := _) rfl (fun K hK => ?_) ?_
            · clear hHeld
              have s0 := HRV.out.2.1
              have t0 := HRV.out.2.2 0
              go_simp
              clear s0 t0
              obtain ⟨W19, hWn⟩ : ∃ xw9, W18.setCell ⟨r4, 0, none⟩ u4 = xw9 := ⟨_, rfl⟩
              rw [hWn]
              replace HU4 := Lib.hid (show IsV W19 (fun _ => True) u4 (.bits X) by rw [← hWn]; exact HU4.out.bits_set HRV.out.2.1 (.inl rfl) _)
              replace HW0 := Lib.hid (show Below W13.heap.size W13 W19 by rw [← hWn]; exact HW0.out.setCell HBK.out _)
              replace HP := Lib.hid (show At2 W19 pb _ _ by rw [← hWn]; exact HP.out.grown (grown_setCell _ ⟨r4, 0, none⟩ _) (by have := HBK.out; have := HPQ.out.1; simp; omega))
              replace HQ := Lib.hid (show At2 W19 qb _ _ by rw [← hWn]; exact HQ.out.grown (grown_setCell _ ⟨r4, 0, none⟩ _) (by have := HBK.out; have := HPQ.out.2; simp; omega))
              replace HRV := Lib.hid (show At1 W19 r4 u4 by rw [← hWn]; exact At1.put1L HRV.out _)
              clear hWn
              refine hK.out _ _ ?_ (fun hHeld => ?_)
              · exact ⟨HP.out.2.1, HP.out.2.2.1, HQ.out.2.1, HQ.out.2.2.1⟩
              clear hK K
              refine wpAnyH_take (i := 10) (v := ?_) rfl (by kernel_rfl) (by kernel_rfl) (by kernel_rfl) (fun _ _ _ h => absurd h.1 (by simp)) (Or.inl ⟨by rfl, ?_⟩) (by assumption) ?_
              rotate_left
              · (intro w hSw; (try dsimp only at hSw); go_simp; try with_reducible rfl)
              simp only [Act.put, List.getElem_toArray, List.getElem_cons_succ, List.getElem_cons_zero, List.setIfInBounds_toArray, List.set_cons_zero, List.set_cons_succ]
              refine wpAnyH_done (by kernel_rfl) ?_ _
              clear hHeld
              refine ⟨rfl, ux, uy, u4, r4, ?_, HU4.out, HRV.out, HW0.out⟩
              first | rfl | kernel_rfl
            exact AllReadyH.nil
          exact AllReadyH.nil
        refine AllReadyH.cons (o := _) rfl (fun K hK => ?_) ?_
        · clear hHeld
          go_simp
          obtain ⟨W17, hWn⟩ : ∃ xw9, W16.alloc (.cells #[.nilIface] 31) = xw9 := ⟨_, rfl⟩
          have hB : Below W16.heap.size W16 W17 := by rw [← hWn]; exact below_new _ _
          have hNB : At1 W17 W16.heap.size .nilIface := by rw [← hWn]; exact At1.new _ _ _
          have hbk : W13.heap.size ≤ W16.heap.size := HW0.out.size
          rw [hWn]
          clear hWn
          obtain ⟨r4, hnm⟩ : ∃ x, W16.heap.size = x := ⟨_, rfl⟩
          rw [hnm] at hNB hbk ⊢
          replace HT := Lib.hid (fun j hj => keep_below hB _ _ (HT.out j hj))
          replace Hvp := Lib.hid (Hvp.out.keep (keep_below hB))
          replace Hvq := Lib.hid (Hvq.out.keep (keep_below hB))
          replace HP := Lib.hid (HP.out.below hB)
          replace HQ := Lib.hid (HQ.out.below hB)
          replace HW0 := Lib.hid (HW0.out.trans (hB.mono HW0.out.size))
          replace Hux := Lib.hid (Hux.out.grow hB)
          replace Huy := Lib.hid (Huy.out.grow hB)
          have HRV := Lib.hid hNB
          have HBK := Lib.hid hbk
          clear hNB hB hnm hbk
          refine hK.out _ _ ?_ (fun hHeld => ?_)
          · exact ⟨HP.out.2.1, HP.out.2.2.1, HQ.out.2.1, HQ.out.2.2.1⟩
          clear hK K
          refine wpAnyH_ready (rs := [4]) (by kernel_rfl) (by simp) ?_
          refine AllReadyH.cons (o := _) rfl (fun K hK => ?_) ?_
          · clear hHeld
            go_simp
            refine (loapply_calls 21 _ _ (.bits a) (.bits b) _ Hux.out Huy.out HLA.out HBM.out trivial trivial HT.out).mono ?_
            rintro e W18 ⟨u4, rfl, hu4, hB⟩
            replace HT := Lib.hid (fun j hj => keep_below hB _ _ (HT.out j hj))
            replace Hvp := Lib.hid (Hvp.out.keep (keep_below hB))
            replace Hvq := Lib.hid (Hvq.out.keep (keep_below hB))
            replace HP := Lib.hid (HP.out.below hB)
            replace HQ := Lib.hid (HQ.out.below hB)
            replace HW0 := Lib.hid (HW0.out.trans (hB.mono HW0.out.size))
            replace Hux := Lib.hid (Hux.out.grow hB)
            replace Huy := Lib.hid (Huy.out.grow hB)
            replace HRV := Lib.hid (HRV.out.below hB)
            rw [HZ1.out.1]
            rw [HZ1.out.2] at hu4
            have HU4 := Lib.hid (IsV.any hu4)
            have hsu4 := hu4.store
            clear hu4
            clear hB
            refine hK.out _ _ ?_ (fun hHeld => ?_)
            · exact ⟨HP.out.2.1, HP.out.2.2.1, HQ.out.2.1, HQ.out.2.2.1⟩
            clear hK K
            refine wpAnyH_take (i := 5) (v := ?_) rfl (by kernel_rfl) (by kernel_rfl) (by kernel_rfl) (fun _ _ _ h => absurd h.1 (by simp)) (Or.inl ⟨by rfl, ?_⟩) (by assumption) ?_
            rotate_left
            · (intro w hSw; (try dsimp only at hSw); go_simp; try with_reducible rfl)
            simp only [Act.put, List.getElem_toArray, List.getElem_cons_succ, List.getElem_cons_zero, List.setIfInBounds_toArray, List.set_cons_zero, List.set_cons_succ]
            refine wpAnyH_take (i := 6) (v := ?_) rfl (by kernel_rfl) (by kernel_rfl) (by kernel_rfl) (fun _ _ _ h => absurd h.1 (by simp)) (Or.inl ⟨by rfl, ?_⟩) (by assumption) ?_
            rotate_left
            · (intro w hSw; (try dsimp only at hSw); go_simp; try with_reducible rfl)
            simp only [Act.put, List.getElem_toArray, List.getElem_cons_succ, List.getElem_cons_zero, List.setIfInBounds_toArray, List.set_cons_zero, List.set_cons_succ]
            refine wpAnyH_take (i := 7) (v := ?_) rfl (by kernel_rfl) (by kernel_rfl) (by kernel_rfl) (fun _ _ _ h => absurd h.1 (by simp)) (Or.inl ⟨by rfl, ?_⟩) (by assumption) ?_
            rotate_left
            · (intro w hSw; (try dsimp only at hSw); go_simp; try with_reducible rfl)
            simp only [Act.put, List.getElem_toArray, List.getElem_cons_succ, List.getElem_cons_zero, List.setIfInBounds_toArray, List.set_cons_zero, List.set_cons_succ]
            refine wpAnyH_ready (rs := [9]) (by kernel_rfl) (by simp) ?_
            refine AllReadyH.cons (o := _) rfl (fun K hK => ?_) ?_
            · clear hHeld
              have s0 := HRV.out.2.1
              have t0 := HRV.out.2.2 0
              go_simp
              clear s0 t0
              obtain ⟨W19, hWn⟩ : ∃ xw9, W18.setCell ⟨r4, 0, none⟩ u4 = xw9 := ⟨_, rfl⟩
              rw [hWn]
              replace HU4 := Lib.hid (show IsV W19 (fun _ => True) u4 (.bits X) by rw [← hWn]; exact HU4.out.bits_set HRV.out.2.1 (.inl rfl) _)
              replace HW0 := Lib.hid (show Below W13.heap.size W13 W19 by rw [← hWn]; exact HW0.out.setCell HBK.out _)
              replace HP := Lib.hid (show At2 W19 pb _ _ by rw [← hWn]; exact HP.out.grown (grown_setCell _ ⟨r4, 0, none⟩ _) (by have := HBK.out; have := HPQ.out.1; simp; omega))
              replace HQ := Lib.hid (show At2 W19 qb _ _ by rw [← hWn]; exact HQ.out.grown (grown_setCell _ ⟨r4, 0, none⟩ _) (by have := HBK.out; have := HPQ.out.2; simp; omega))
              replace HRV := Lib.hid (show At1 W19 r4 u4 by rw [← hWn]; exact At1.put1L HRV.out _)
              clear hWn
              refine hK.out _ _ ?_ (fun hHeld => ?_)
              · exact ⟨HP.out.2.1, HP.out.2.2.1, HQ.out.2.1, HQ.out.2.2.1⟩
              clear hK K
              refine wpAnyH_take (i := 10) (v := ?_) rfl (by kernel_rfl) (by kernel_rfl) (by kernel_rfl) (fun _ _ _ h => absurd h.1 (by simp)) (Or.inl ⟨by rfl, ?_⟩) (by assumption) ?_
              rotate_left
              · (intro w hSw; (try dsimp only at hSw); go_simp; try with_reducible rfl)
              simp only [Act.put, List.getElem_toArray, List.getElem_cons_succ, List.getElem_cons_zero, List.setIfInBounds_toArray, List.set_cons_zero, List.set_cons_succ]
              refine wpAnyH_done (by kernel_rfl) ?_ _
              clear hHeld
              refine ⟨rfl, ux, uy, u4, r4, ?_, HU4.out, HRV.out, HW0.out⟩
              first | rfl | kernel_rfl
            exact AllReadyH.nil
          exact AllReadyH.nil
        exact AllReadyH.nil
      refine AllReadyH.cons (o := _) rfl (fun K hK => ?_) ?_
      · clear hHeld
        go_simp
        obtain ⟨W16, hWn⟩ : ∃ xw9, W15.alloc (.cells #[.nilIface] 31) = xw9 := ⟨_, rfl⟩
        have hB : Below W15.heap.size W15 W16 := by rw [← hWn]; exact below_new _ _
        have hNB : At1 W16 W15.heap.size .nilIface := by rw [← hWn]; exact At1.new _ _ _
        have hbk : W13.heap.size ≤ W15.heap.size := HW0.out.size
        rw [hWn]
        clear hWn
        obtain ⟨r4, hnm⟩ : ∃ x, W15.heap.size = x := ⟨_, rfl⟩
        rw [hnm] at hNB hbk ⊢
        replace HT := Lib.hid (fun j hj => keep_below hB _ _ (HT.out j hj))
        replace Hvp := Lib.hid (Hvp.out.keep (keep_below hB))
        replace Hvq := Lib.hid (Hvq.out.keep (keep_below hB))
        replace HP := Lib.hid (HP.out.below hB)
        replace HQ := Lib.hid (HQ.out.below hB)
        replace HW0 := Lib.hid (HW0.out.trans (hB.mono HW0.out.size))
        replace Hux := Lib.hid (Hux.out.grow hB)
        have HRV := Lib.hid hNB
        have HBK := Lib.hid hbk
        clear hNB hB hnm hbk
        refine hK.out _ _ ?_ (fun hHeld => ?_)
        · exact ⟨HP.out.2.1, HP.out.2.2.1, HQ.out.2.1, HQ.out.2.2.1⟩
        clear hK K
        refine wpAnyH_ready (rs := [3]) (by kernel_rfl) (by simp) ?_
        refine AllReadyH.cons (o := _) rfl (fun K hK => ?_) ?_
        · clear hHeld
          go_simp
          refine (vbits_calls _ b _ Hvq.out HBM.out).mono ?_
          rintro e W17 ⟨uy, rfl, huy, hB⟩
          replace HT := Lib.hid (fun j hj => keep_below hB _ _ (HT.out j hj))
          replace Hvp := Lib.hid (Hvp.out.keep (keep_below hB))
          replace Hvq := Lib.hid (Hvq.out.keep (keep_below hB))
          replace HP := Lib.hid (HP.out.below hB)
          replace HQ := Lib.hid (HQ.out.below hB)
          replace HW0 := Lib.hid (HW0.out.trans (hB.mono HW0.out.size))
          replace Hux := Lib.hid (Hux.out.grow hB)
          replace HRV := Lib.hid (HRV.out.below hB)
          have Huy := Lib.hid (IsV.any huy)
          have hsuy := huy.store
          clear huy
          clear hB
          refine hK.out _ _ ?_ (fun hHeld => ?_)
          · exact ⟨HP.out.2.1, HP.out.2.2.1, HQ.out.2.1, HQ.out.2.2.1⟩
          clear hK K
          refine wpAnyH_ready (rs := [4]) (by kernel_rfl) (by simp) ?_
          refine AllReadyH.cons (o := _) rfl (fun K hK => ?_) ?_
          · clear hHeld
            go_simp
            refine (loapply_calls 21 _ _ (.bits a) (.bits b) _ Hux.out Huy.out HLA.out HBM.out trivial trivial HT.out).mono ?_
            rintro e W18 ⟨u4, rfl, hu4, hB⟩
            replace HT := Lib.hid (fun j hj => keep_below hB _ _ (HT.out j hj))
            replace Hvp := Lib.hid (Hvp.out.keep (keep_below hB))
            replace Hvq := Lib.hid (Hvq.out.keep (keep_below hB))
            replace HP := Lib.hid (HP.out.below hB)
            replace HQ := Lib.hid (HQ.out.below hB)
            replace HW0 := Lib.hid (HW0.out.trans (hB.mono HW0.out.size))
            replace Hux := Lib.hid (Hux.out.grow hB)
            replace HRV := Lib.hid (HRV.out.below hB)
            replace Huy := Lib.hid (Huy.out.grow hB)
            rw [HZ1.out.1]
            rw [HZ1.out.2] at hu4
            have HU4 := Lib.hid (IsV.any hu4)
            have hsu4 := hu4.store
            clear hu4
            clear hB
            refine hK.out _ _ ?_ (fun hHeld => ?_)
            · exact ⟨HP.out.2.1, HP.out.2.2.1, HQ.out.2.1, HQ.out.2.2.1⟩
            clear hK K
            refine wpAnyH_take (i := 5) (v := ?_) rfl (by kernel_rfl) (by kernel_rfl) (by kernel_rfl) (fun _ _ _ h => absurd h.1 (by simp)) (Or.inl ⟨by rfl, ?_⟩) (by assumption) ?_
            rotate_left
            · (intro w hSw; (try dsimp only at hSw); go_simp; try with_reducible rfl)
            simp only [Act.put, List.getElem_toArray, List.getElem_cons_succ, List.getElem_cons_zero, List.setIfInBounds_toArray, List.set_cons_zero, List.set_cons_succ]
            refine wpAnyH_take (i := 6) (v := ?_) rfl (by kernel_rfl) (by kernel_rfl) (by kernel_rfl) (fun _ _ _ h => absurd h.1 (by simp)) (Or.inl ⟨by rfl, ?_⟩) (by assumption) ?_
            rotate_left
            · (intro w hSw; (try dsimp only at hSw); go_simp; try with_reducible rfl)
            simp only [Act.put, List.getElem_toArray, List.getElem_cons_succ, List.getElem_cons_zero, List.setIfInBounds_toArray, List.set_cons_zero, List.set_cons_succ]
            refine wpAnyH_take (i := 7) (v := ?_) rfl (by kernel_rfl) (by kernel_rfl) (by kernel_rfl) (fun _ _ _ h => absurd h.1 (by simp)) (Or.inl ⟨by rfl, ?_⟩) (by assumption) ?_
            rotate_left
            · (intro w hSw; (try dsimp only at hSw); go_simp; try with_reducible rfl)
            simp only [Act.put, List.getElem_toArray, List.getElem_cons_succ, List.getElem_cons_zero, List.setIfInBounds_toArray, List.set_cons_zero, List.set_cons_succ]
            refine wpAnyH_ready (rs := [9]) (by kernel_rfl) (by simp) ?_
            refine AllReadyH.cons (o := _) rfl (fun K hK => ?_) ?_
            · clear hHeld
              have s0 := HRV.out.2.1
              have t0 := HRV.out.2.2 0
              go_simp
              clear s0 t0
              obtain ⟨W19, hWn⟩ : ∃ xw9, W18.setCell ⟨r4, 0, none⟩ u4 = xw9 := ⟨_, rfl⟩
              rw [hWn]
              replace HU4 := Lib.hid (show IsV W19 (fun _ => True) u4 (.bits X) by rw [← hWn]; exact HU4.out.bits_set HRV.out.2.1 (.inl rfl) _)
              replace HW0 := Lib.hid (show Below W13.heap.size W13 W19 by rw [← hWn]; exact HW0.out.setCell HBK.out _)
              replace HP := Lib.hid (show At2 W19 pb _ _ by rw [← hWn]; exact HP.out.grown (grown_setCell _ ⟨r4, 0, none⟩ _) (by have := HBK.out; have := HPQ.out.1; simp; omega))
              replace HQ := Lib.hid (show At2 W19 qb _ _ by rw [← hWn]; exact HQ.out.grown (grown_setCell _ ⟨r4, 0, none⟩ _) (by have := HBK.out; have := HPQ.out.2; simp; omega))
              replace HRV := Lib.hid (show At1 W19 r4 u4 by rw [← hWn]; exact At1.put1L HRV.out _)
              clear hWn
              refine hK.out _ _ ?_ (fun hHeld => ?_)
              · exact ⟨HP.out.2.1, HP.out.2.2.1, HQ.out.2.1, HQ.out.2.2.1⟩
              clear hK K
              refine wpAnyH_take (i := 10) (v := ?_) rfl (by kernel_rfl) (by kernel_rfl) (by kernel_rfl) (fun _ _ _ h => absurd h.1 (by simp)) (Or.inl ⟨by rfl, ?_⟩) (by assumption) ?_
              rotate_left
              · (intro w hSw; (try dsimp only at hSw); go_simp; try with_reducible rfl)
              simp only [Act.put, List.getElem_toArray, List.getElem_cons_succ, List.getElem_cons_zero, List.setIfInBounds_toArray, List.set_cons_zero, List.set_cons_succ]
              refine wpAnyH_done (by kernel_rfl) ?_ _
              clear hHeld
              refine ⟨rfl, ux, uy, u4, r4, ?_, HU4.out, HRV.out, HW0.out⟩
              first | rfl | kernel_rfl
            exact AllReadyH.nil
          exact AllReadyH.nil
        exact AllReadyH.nil
      exact AllReadyH.nil
    refine AllReadyH.cons (o := _) rfl (fun K hK => ?_) ?_
    · clear hHeld
      go_simp
      obtain ⟨W15, hWn⟩ : ∃ xw9, W14.alloc (.cells #[.nilIface] 31) = xw9 := ⟨_, rfl⟩
      have hB : Below W14.heap.size W14 W15 := by rw [← hWn]; exact below_new _ _
      have hNB : At1 W15 W14.heap.size .nilIface := by rw [← hWn]; exact At1.new _ _ _
      have hbk : W13.heap.size ≤ W14.heap.size := HW0.out.size
      rw [hWn]
      clear hWn
      obtain ⟨r4, hnm⟩ : ∃ x, W14.heap.size = x := ⟨_, rfl⟩
      rw [hnm] at hNB hbk ⊢
      replace HT := Lib.hid (fun j hj => keep_below hB _ _ (HT.out j hj))
      replace Hvp := Lib.hid (Hvp.out.keep (keep_below hB))
      replace Hvq := Lib.hid (Hvq.out.keep (keep_below hB))
      replace HP := Lib.hid (HP.out.below hB)
      replace HQ := Lib.hid (HQ.out.below hB)
      replace HW0 := Lib.hid (HW0.out.trans (hB.mono HW0.out.size))
      have HRV := Lib.hid hNB
      have HBK := Lib.hid hbk
      clear hNB hB hnm hbk
      refine hK.out _ _ ?_ (fun hHeld => ?_)
      · exact ⟨HP.out.2.1, HP.out.2.2.1, HQ.out.2.1, HQ.out.2.2.1⟩
      clear hK K
      refine wpAnyH_ready (rs := [1]) (by kernel_rfl) (by simp) ?_
      refine AllReadyH.cons (o := _) rfl (fun K hK => ?_) ?_
      · clear hHeld
        go_simp
        refine (vbits_calls _ a _ Hvp.out HLA.out).mono ?_
        rintro e W16 ⟨ux, rfl, hux, hB⟩
        replace HT := Lib.hid (fun j hj => keep_below hB _ _ (HT.out j hj))
        replace Hvp := Lib.hid (Hvp.out.keep (keep_below hB))
        replace Hvq := Lib.hid (Hvq.out.keep (keep_below hB))
        replace HP := Lib.hid (HP.out.below hB)
        replace HQ := Lib.hid (HQ.out.below hB)
        replace HW0 := Lib.hid (HW0.out.trans (hB.mono HW0.out.size))
        replace HRV := Lib.hid (HRV.out.below hB)
        have Hux := Lib.hid (IsV.any hux)
        have hsux := hux.store
        clear hux
        clear hB
        refine hK.out _ _ ?_ (fun hHeld => ?_)
        · exact ⟨HP.out.2.1, HP.out.2.2.1, HQ.out.2.1, HQ.out.2.2.1⟩
        clear hK K
        refine wpAnyH_ready (rs := [3]) (by kernel_rfl) (by simp) ?_
        refine AllReadyH.cons (o := _) rfl (fun K hK => ?_) ?_
        · clear hHeld
          go_simp
          refine (vbits_calls _ b _ Hvq.out HBM.out).mono ?_
          rintro e W17 ⟨uy, rfl, huy, hB⟩
          replace HT := Lib.hid (fun j hj => keep_below hB _ _ (HT.out j hj))
          replace Hvp := Lib.hid (Hvp.out.keep (keep_below hB))
          replace Hvq := Lib.hid (Hvq.out.keep (keep_below hB))
          replace HP := Lib.hid (HP.out.below hB)
          replace HQ := Lib.hid (HQ.out.below hB)
          replace HW0 := Lib.hid (HW0.out.trans (hB.mono HW0.out.size))
          replace HRV := Lib.hid (HRV.out.below hB)
          replace Hux := Lib.hid (Hux.out.grow hB)
          have Huy := Lib.hid (IsV.any huy)
          have hsuy := huy.store
          clear huy
          clear hB
          refine hK.out _ _ ?_ (fun hHeld => ?_)
          · exact ⟨HP.out.2.1, HP.out.2.2.1, HQ.out.2.1, HQ.out.2.2.1⟩
          clear hK K
          refine wpAnyH_ready (rs := [4]) (by kernel_rfl) (by simp) ?_
          refine AllReadyH.cons (o := _) rfl (fun K hK => ?_) ?_
          · clear hHeld
            go_simp
            refine (loapply_calls 21 _ _ (.bits a) (.bits b) _ Hux.out Huy.out HLA.out HBM.out trivial trivial HT.out).mono ?_
            rintro e W18 ⟨u4, rfl, hu4, hB⟩
            replace HT := Lib.hid (fun j hj => keep_below hB _ _ (HT.out j hj))
            replace Hvp := Lib.hid (Hvp.out.keep (keep_below hB))
            replace Hvq := Lib.hid (Hvq.out.keep (keep_below hB))
            replace HP := Lib.hid (HP.out.below hB)
            replace HQ := Lib.hid (HQ.out.below hB)
            replace HW0 := Lib.hid (HW0.out.trans (hB.mono HW0.out.size))
            replace HRV := Lib.hid (HRV.out.below hB)
            replace Hux := Lib.hid (Hux.out.grow hB)
            replace Huy := Lib.hid (Huy.out.grow hB)
            rw [HZ1.out.1]
            rw [HZ1.out.2] at hu4
            have HU4 := Lib.hid (IsV.any hu4)
            have hsu4 := hu4.store
            clear hu4
            clear hB
            refine hK.out _ _ ?_ (fun hHeld => ?_)
            · exact ⟨HP.out.2.1, HP.out.2.2.1, HQ.out.2.1, HQ.out.2.2.1⟩
            clear hK K
            refine wpAnyH_take (i := 5) (v := ?_) rfl (by kernel_rfl) (by kernel_rfl) (by kernel_rfl) (fun _ _ _ h => absurd h.1 (by simp)) (Or.inl ⟨by rfl, ?_⟩) (by assumption) ?_
            rotate_left
            · (intro w hSw; (try dsimp only at hSw); go_simp; try with_reducible rfl)
            simp only [Act.put, List.getElem_toArray, List.getElem_cons_succ, List.getElem_cons_zero, List.setIfInBounds_toArray, List.set_cons_zero, List.set_cons_succ]
            refine wpAnyH_take (i := 6) (v := ?_) rfl (by kernel_rfl) (by kernel_rfl) (by kernel_rfl) (fun _ _ _ h => absurd h.1 (by simp)) (Or.inl ⟨by rfl, ?_⟩) (by assumption) ?_
            rotate_left
            · (intro w hSw; (try dsimp only at hSw); go_simp; try with_reducible rfl)
            simp only [Act.put, List.getElem_toArray, List.getElem_cons_succ, List.getElem_cons_zero, List.setIfInBounds_toArray, List.set_cons_zero, List.set_cons_succ]
            refine wpAnyH_take (i := 7) (v := ?_) rfl (by kernel_rfl) (by kernel_rfl) (by kernel_rfl) (fun _ _ _ h => absurd h.1 (by simp)) (Or.inl ⟨by rfl, ?_⟩) (by assumption) ?_
            rotate_left
            · (intro w hSw; (try dsimp only at hSw); go_simp; try with_reducible rfl)
            simp only [Act.put, List.getElem_toArray, List.getElem_cons_succ, List.getElem_cons_zero, List.setIfInBounds_toArray, List.set_cons_zero, List.set_cons_succ]
            refine wpAnyH_ready (rs := [9]) (by kernel_rfl) (by simp) ?_
            refine AllReadyH.cons (o := _) rfl (fun K hK => ?_) ?_
            · clear hHeld
              have s0 := HRV.out.2.1
              have t0 := HRV.out.2.2 0
              go_simp
              clear s0 t0
              obtain ⟨W19, hWn⟩ : ∃ xw9, W18.setCell ⟨r4, 0, none⟩ u4 = xw9 := ⟨_, rfl⟩
              rw [hWn]
              replace HU4 := Lib.hid (show IsV W19 (fun _ => True) u4 (.bits X) by rw [← hWn]; exact HU4.out.bits_set HRV.out.2.1 (.inl rfl) _)
              replace HW0 := Lib.hid (show Below W13.heap.size W13 W19 by rw [← hWn]; exact HW0.out.setCell HBK.out _)
              replace HP := Lib.hid (show At2 W19 pb _ _ by rw [← hWn]; exact HP.out.grown (grown_setCell _ ⟨r4, 0, none⟩ _) (by have := HBK.out; have := HPQ.out.1; simp; omega))
              replace HQ := Lib.hid (show At2 W19 qb _ _ by rw [← hWn]; exact HQ.out.grown (grown_setCell _ ⟨r4, 0, none⟩ _) (by have := HBK.out; have := HPQ.out.2; simp; omega))
              replace HRV := Lib.hid (show At1 W19 r4 u4 by rw [← hWn]; exact At1.put1L HRV.out _)
              clear hWn
              refine hK.out _ _ ?_ (fun hHeld => ?_)
              · exact ⟨HP.out.2.1, HP.out.2.2.1, HQ.out.2.1, HQ.out.2.2.1⟩
              clear hK K
              refine wpAnyH_take (i := 10) (v := ?_) rfl (by kernel_rfl) (by kernel_rfl) (by kernel_rfl) (fun _ _ _ h => absurd h.1 (by simp)) (Or.inl ⟨by rfl, ?_⟩) (by assumption) ?_
              rotate_left
              · (intro w hSw; (try dsimp only at hSw); go_simp; try with_reducible rfl)
              simp only [Act.put, List.getElem_toArray, List.getElem_cons_succ, List.getElem_cons_zero, List.setIfInBounds_toArray, List.set_cons_zero, List.set_cons_succ]
              refine wpAnyH_done (by kernel_rfl) ?_ _
              clear hHeld
              refine ⟨rfl, ux, uy, u4, r4, ?_, HU4.out, HRV.out, HW0.out⟩
              first | rfl | kernel_rfl
            exact AllReadyH.nil
          exact AllReadyH.nil
        exact AllReadyH.nil
      exact AllReadyH.nil
    exact AllReadyH.nil
  rintro _ w4 ⟨ux, uy, u4, r4, rfl, hU4, hA4, hB⟩
  have HU4 := Lib.hid hU4
  have HA4 := Lib.hid hA4
  have hsu4 := hU4.store
  clear hU4 hA4
  replace HB := Lib.hid (HB.out.trans (hB.mono HB.out.size))
  replace HT := Lib.hid (fun j hj => keep_below hB _ _ (HT.out j hj))
  replace Hvp := Lib.hid (Hvp.out.keep (keep_below hB))
  replace Hvq := Lib.hid (Hvq.out.keep (keep_below hB))
  replace HP := Lib.hid (HP.out.below hB)
  replace HQ := Lib.hid (HQ.out.below hB)
  clear hB
  simp only [Act.put, List.setIfInBounds_toArray, List.set_cons_zero, List.set_cons_succ]
  have cHP0 := HP.out.2.1
  have cHP1 := HP.out.2.2.1
  have cHQ0 := HQ.out.2.1
  have cHQ1 := HQ.out.2.2.1
  have cHA40 := HA4.out.2.1
  go_wp2_with fail
  clear cHP0 cHP1 cHQ0 cHQ1 cHA40
  refine wp_mid (fun s0 s1 w' => ∃ (ux uy u5 : Value) (r5 : Nat), s1 = ((((((((((s0.put (some 47) (.agg #[.int .i64 a.length, .slice ap ((a.length + 63) / 64) cp])).put (some 48) (.agg #[ux])).put (some 49) (.agg #[.int .i64 b.length, .slice aq ((b.length + 63) / 64) cq])).put (some 50) (.agg #[uy])).put (some 51) (.tuple #[.agg #[u5], .int .i64 0])).put (some 46) (.tuple #[.agg #[u5], .int .i64 0])).put (some 52) (.agg #[u5])).put (some 53) (.int .i64 0)).put (some 9) (.pointer (some ⟨r5, 0, none⟩))).put (some 10) (.int .i64 0)) ∧ IsV w' (fun _ => True) u5 (.bits Y) ∧ At1 w' r5 u5 ∧ Below w4.heap.size w4 w') ?_ ?_
  · have HW0 := Lib.hid (Below.refl w4.heap.size w4)
    have HPQ := Lib.hid (show pb < w4.heap.size ∧ qb < w4.heap.size from ⟨HP.out.1, HQ.out.1⟩)
    obtain ⟨W14, hWD⟩ : ∃ xw9, w4.drew = xw9 := ⟨_, rfl⟩
    have hB : Below w4.heap.size w4 W14 := by rw [← hWD]; exact Below.drewN' (Below.refl _ _) 1
    replace HT := Lib.hid (fun j hj => keep_below hB _ _ (HT.out j hj))
    replace Hvp := Lib.hid (Hvp.out.keep (keep_below hB))
    replace Hvq := Lib.hid (Hvq.out.keep (keep_below hB))
    replace HP := Lib.hid (HP.out.below hB)
    replace HQ := Lib.hid (HQ.out.below hB)
    replace HW0 := Lib.hid (HW0.out.trans (hB.mono HW0.out.size))
    clear hB
    refine wp_region_held_drew (S := fun w' => w'.cell? ⟨pb, 0, none⟩ = some (.int .i64 a.length) ∧ w'.cell? ⟨pb, 1, none⟩ = some (.slice ap ((a.length + 63) / 64) cp) ∧ w'.cell? ⟨qb, 0, none⟩ = some (.int .i64 b.length) ∧ w'.cell? ⟨qb, 1, none⟩ = some (.slice aq ((b.length + 63) / 64) cq)) (by kernel_rfl) (by rw [hWD]; exact ⟨HP.out.2.1, HP.out.2.2.1, HQ.out.2.1, HQ.out.2.2.1⟩) (fun hHeld => ?_)
    rw [hWD] at hHeld ⊢
    clear hWD
    refine wpAnyH_take (i := 0) (v := ?_) rfl (by kernel_rfl) (by kernel_rfl) (by kernel_rfl) (fun _ _ _ h => absurd h.1 (by simp)) (Or.inl ⟨by rfl, ?_⟩) (by assumption) ?_
    rotate_left
    · (intro w hSw; (try dsimp only at hSw); go_simp; try with_reducible rfl)
    simp only [Act.put, List.getElem_toArray, List.getElem_cons_zero, List.setIfInBounds_toArray, List.set_cons_zero, List.set_cons_succ]
    refine wpAnyH_take (i := 2) (v := ?_) rfl (by kernel_rfl) (by kernel_rfl) (by kernel_rfl) (fun _ _ _ h => absurd h.1 (by simp)) (Or.inl ⟨by rfl, ?_⟩) (by assumption) ?_
    rotate_left
    · (intro w hSw; (try dsimp only at hSw); go_simp; try with_reducible rfl)
    simp only [Act.put, List.getElem_toArray, List.getElem_cons_succ, List.getElem_cons_zero, List.setIfInBounds_toArray, List.set_cons_zero, List.set_cons_succ]
    refine wpAnyH_ready (rs := [1, 8]) (by kernel_rfl) (by simp) ?_
    refine AllReadyH.cons (o := _) rfl (fun K hK => ?_) ?_
    · clear hHeld
      go_simp
      refine (vbits_calls _ a _ Hvp.out HLA.out).mono ?_
      rintro e W15 ⟨ux, rfl, hux, hB⟩
      replace HT := Lib.hid (fun j hj => keep_below hB _ _ (HT.out j hj))
      replace Hvp := Lib.hid (Hvp.out.keep (keep_below hB))
      replace Hvq := Lib.hid (Hvq.out.keep (keep_below hB))
      replace HP := Lib.hid (HP.out.below hB)
      replace HQ := Lib.hid (HQ.out.below hB)
      replace HW0 := Lib.hid (HW0.out.trans (hB.mono HW0.out.size))
      have Hux := Lib.hid (IsV.any hux)
      have hsux := hux.store
      clear hux
      clear hB
      refine hK.out _ _ ?_ (fun hHeld => ?_)
      · exact ⟨HP.out.2.1, HP.out.2.2.1, HQ.out.2.1, HQ.out.2.2.1⟩
      clear hK K
      refine wpAnyH_ready (rs := [3, 8]) (by kernel_rfl) (by simp) ?_
      refine AllReadyH.cons (o := _) rfl (fun K hK => ?_) ?_
      · clear hHeld
        go_simp
        refine (vbits_calls _ b _ Hvq.out HBM.out).mono ?_
        rintro e W16 ⟨uy, rfl, huy, hB⟩
        replace HT := Lib.hid (fun j hj => keep_below hB _ _ (HT.out j hj))
        replace Hvp := Lib.hid (Hvp.out.keep (keep_below hB))
        replace Hvq := Lib.hid (Hvq.out.keep (keep_below hB))
        replace HP := Lib.hid (HP.out.below hB)
        replace HQ := Lib.hid (HQ.out.below hB)
        replace HW0 := Lib.hid (HW0.out.trans (hB.mono HW0.out.size))
        replace Hux := Lib.hid (Hux.out.grow hB)
        have Huy := Lib.hid (IsV.any huy)
        have hsuy := huy.store
        clear huy
        clear hB
        refine hK.out _ _ ?_ (fun hHeld => ?_)
        · exact ⟨HP.out.2.1, HP.out.2.2.1, HQ.out.2.1, HQ.out.2.2.1⟩
        clear hK K
        refine wpAnyH_ready (rs := [4, 8]) (by kernel_rfl) (by simp) ?_
        refine AllReadyH.cons (o := _) rfl (fun K hK => ?_) ?_
        · clear hHeld
          go_simp
          refine (loapply_calls 23 _ _ (.bits a) (.bits b) _ Hux.out Huy.out HLA.out HBM.out trivial trivial HT.out).mono ?_
          rintro e W17 ⟨u5, rfl, hu5, hB⟩
          replace HT := Lib.hid (fun j hj => keep_below hB _ _ (HT.out j hj))
          replace Hvp := Lib.hid (Hvp.out.keep (keep_below hB))
          replace Hvq := Lib.hid (Hvq.out.keep (keep_below hB))
          replace HP := Lib.hid (HP.out.below hB)
          replace HQ := Lib.hid (HQ.out.below hB)
          replace HW0 := Lib.hid (HW0.out.trans (hB.mono HW0.out.size))
          replace Hux := Lib.hid (Hux.out.grow hB)
          replace Huy := Lib.hid (Huy.out.grow hB)
          rw [HZ2.out.1]
          rw [HZ2.out.2] at hu5
          have HU5 := Lib.hid (IsV.any hu5)
          have hsu5 := hu5.store
          clear hu5
          clear hB
          refine hK.out _ _ ?_ (fun hHeld => ?_)
          · exact ⟨HP.out.2.1, HP.out.2.2.1, HQ.out.2.1, HQ.out.2.2.1⟩
          clear hK K
          refine wpAnyH_take (i := 5) (v := ?_) rfl (by kernel_rfl) (by kernel_rfl) (by kernel_rfl) (fun _ _ _ h => absurd h.1 (by simp)) (Or.inl ⟨by rfl, ?_⟩) (by assumption) ?_
          rotate_left
          · (intro w hSw; (try dsimp only at hSw); go_simp; try with_reducible rfl)
          simp only [Act.put, List.getElem_toArray, List.getElem_cons_succ, List.getElem_cons_zero, List.setIfInBounds_toArray, List.set_cons_zero, List.set_cons_succ]
          refine wpAnyH_take (i := 6) (v := ?_) rfl (by kernel_rfl) (by kernel_rfl) (by kernel_rfl) (fun _ _ _ h => absurd h.1 (by simp)) (Or.inl ⟨by rfl, ?_⟩) (by assumption) ?_
          rotate_left
          · (intro w hSw; (try dsimp only at hSw); go_simp; try with_reducible rfl)
          simp only [Act.put, List.getElem_toArray, List.getElem_cons_succ, List.getElem_cons_zero, List.setIfInBounds_toArray, List.set_cons_zero, List.set_cons_succ]
          refine wpAnyH_take (i := 7) (v := ?_) rfl (by kernel_rfl) (by kernel_rfl) (by kernel_rfl) (fun _ _ _ h => absurd h.1 (by simp)) (Or.inl ⟨by rfl, ?_⟩) (by assumption) ?_
          rotate_left
          · (intro w hSw; (try dsimp only at hSw); go_simp; try with_reducible rfl)
          simp only [Act.put, List.getElem_toArray, List.getElem_cons_succ, List.getElem_cons_zero, List.setIfInBounds_toArray, List.set_cons_zero, List.set_cons_succ]
          refine wpAnyH_ready (rs := [8]) (by kernel_rfl) (by simp) ?_
          refine AllReadyH.cons (o := _) rfl (fun K hK => ?_) ?_
          · clear hHeld
            go_simp
            obtain ⟨W18, hWn⟩ : ∃ xw9, W17.alloc (.cells #[.nilIface] 31) = xw9 := ⟨_, rfl⟩
            have hB : Below W17.heap.size W17 W18 := by rw [← hWn]; exact below_new _ _
            have hNB : At1 W18 W17.heap.size .nilIface := by rw [← hWn]; exact At1.new _ _ _
            have hbk : w4.heap.size ≤ W17.heap.size := HW0.out.size
            rw [hWn]
            clear hWn
            obtain ⟨r5, hnm⟩ : ∃ x, W17.heap.size = x := ⟨_, rfl⟩
            rw [hnm] at hNB hbk ⊢
            replace HT := Lib.hid (fun j hj => keep_below hB _ _ (HT.out j hj))
            replace Hvp := Lib.hid (Hvp.out.keep (keep_below hB))
            replace Hvq := Lib.hid (Hvq.out.keep (keep_below hB))
            replace HP := Lib.hid (HP.out.below hB)
            replace HQ := Lib.hid (HQ.out.below hB)
            replace HW0 := Lib.hid (HW0.out.trans (hB.mono HW0.out.size))
            replace Hux := Lib.hid (Hux.out.grow hB)
            replace Huy := Lib.hid (Huy.out.grow hB)
            replace HU5 := Lib.hid (HU5.out.grow hB)
            have HRV := Lib.hid hNB
            have HBK := Lib.hid hbk
            clear hNB hB hnm hbk
            refine hK.out _ _ ?_ (fun hHeld => ?_)
            · exact ⟨HP.out.2.1, HP.out.2.2.1, HQ.out.2.1, HQ.out.2.2.1⟩
            clear hK K
            refine wpAnyH_ready (rs := [9]) (by kernel_rfl) (by simp) ?_
            refine AllReadyH.cons (o := _) rfl (fun K hK => ?_) ?_
            · clear hHeld
              have s0 := HRV.out.2.1
              have t0 := HRV.out.2.2 0
              go_simp
              clear s0 t0
              obtain ⟨W19, hWn⟩ : ∃ xw9, W18.setCell ⟨r5, 0, none⟩ u5 = xw9 := ⟨_, rfl⟩
              rw [hWn]
              replace HU5 := Lib.hid (show IsV W19 (fun _ => True) u5 (.bits Y) by rw [← hWn]; exact HU5.out.bits_set HRV.out.2.1 (.inl rfl) _)
              replace HW0 := Lib.hid (show Below w4.heap.size w4 W19 by rw [← hWn]; exact HW0.out.setCell HBK.out _)
              replace HP := Lib.hid (show At2 W19 pb _ _ by rw [← hWn]; exact HP.out.grown (grown_setCell _ ⟨r5, 0, none⟩ _) (by have := HBK.out; have := HPQ.out.1; simp; omega))
              replace HQ := Lib.hid (show At2 W19 qb _ _ by rw [← hWn]; exact HQ.out.grown (grown_setCell _ ⟨r5, 0, none⟩ _) (by have := HBK.out; have := HPQ.out.2; simp; omega))
              replace HRV := Lib.hid (show At1 W19 r5 u5 by rw [← hWn]; exact At1.put1L HRV.out _)
              clear hWn
              refine hK.out _ _ ?_ (fun hHeld => ?_)
              · exact ⟨HP.out.2.1, HP.out.2.2.1, HQ.out.2.1, HQ.out.2.2.1⟩
              clear hK K
              refine wpAnyH_take (i := 10) (v := ?_) rfl (by kernel_rfl) (by kernel_rfl) (by kernel_rfl) (fun _ _ _ h => absurd h.1 (by simp)) (Or.inl ⟨by rfl, ?_⟩) (by assumption) ?_
              rotate_left
              · (intro w hSw; (try dsimp only at hSw); go_simp; try with_reducible rfl)
              simp only [Act.put, List.getElem_toArray, List.getElem_cons_succ, List.getElem_cons_zero, List.setIfInBounds_toArray, List.set_cons_zero, List.set_cons_succ]
              refine wpAnyH_done (by kernel_rfl) ?_ _
              clear hHeld
              refine ⟨rfl, ux, uy, u5, r5, ?_, HU5.out, HRV.out, HW0.out⟩
              first | rfl | kernel_rfl
            exact AllReadyH.nil
          exact AllReadyH.nil
        refine AllReadyH.cons (o := _) rfl (fun K hK => ?_) ?_
        · clear hHeld
          go_simp
          obtain ⟨W17, hWn⟩ : ∃ xw9, W16.alloc (.cells #[.nilIface] 31) = xw9 := ⟨_, rfl⟩
          have hB : Below W16.heap.size W16 W17 := by rw [← hWn]; exact below_new _ _
          have hNB : At1 W17 W16.heap.size .nilIface := by rw [← hWn]; exact At1.new _ _ _
          have hbk : w4.heap.size ≤ W16.heap.size := HW0.out.size
          rw [hWn]
          clear hWn
          obtain ⟨r5, hnm⟩ : ∃ x, W16.heap.size = x := ⟨_, rfl⟩
          rw [hnm] at hNB hbk ⊢
          replace HT := Lib.hid (fun j hj => keep_below hB _ _ (HT.out j hj))
          replace Hvp := Lib.hid (Hvp.out.keep (keep_below hB))
          replace Hvq := Lib.hid (Hvq.out.keep (keep_below hB))
          replace HP := Lib.hid (HP.out.below hB)
          replace HQ := Lib.hid (HQ.out.below hB)
          replace HW0 := Lib.hid (HW0.out.trans (hB.mono HW0.out.size))
          replace Hux := Lib.hid (Hux.out.grow hB)
          replace Huy := Lib.hid (Huy.out.grow hB)
          have HRV := Lib.hid hNB
          have HBK := Lib.hid hbk
          clear hNB hB hnm hbk
          refine hK.out _ _ ?_ (fun hHeld => ?_)
          · exact ⟨HP.out.2.1, HP.out.2.2.1, HQ.out.2.1, HQ.out.2.2.1⟩
          clear hK K
          refine wpAnyH_ready (rs := [4]) (by kernel_rfl) (by simp) ?_
          refine AllReadyH.cons (o := _) rfl (fun K hK => ?_) ?_
          · clear hHeld
            go_simp
            refine (loapply_calls 23 _ _ (.bits a) (.bits b) _ Hux.out Huy.out HLA.out HBM.out trivial trivial HT.out).mono ?_
            rintro e W18 ⟨u5, rfl, hu5, hB⟩
            replace HT := Lib.hid (fun j hj => keep_below hB _ _ (HT.out j hj))
            replace Hvp := Lib.hid (Hvp.out.keep (keep_below hB))
            replace Hvq := Lib.hid (Hvq.out.keep (keep_below hB))
            replace HP := Lib.hid (HP.out.below hB)
            replace HQ := Lib.hid (HQ.out.below hB)
            replace HW0 := Lib.hid (HW0.out.trans (hB.mono HW0.out.size))
            replace Hux := Lib.hid (Hux.out.grow hB)
            replace Huy := Lib.hid (Huy.out.grow hB)
            replace HRV := Lib.hid (HRV.out.below hB)
            rw [HZ2.out.1]
            rw [HZ2.out.2] at hu5
            have HU5 := Lib.hid (IsV.any hu5)
            have hsu5 := hu5.store
            clear hu5
            clear hB
            refine hK.out _ _ ?_ (fun hHeld => ?_)
            · exact ⟨HP.out.2.1, HP.out.2.2.1, HQ.out.2.1, HQ.out.2.2.1⟩
            clear hK K
            refine wpAnyH_take (i := 5) (v := ?_) rfl (by kernel_rfl) (by kernel_rfl) (by kernel_rfl) (fun _ _ _ h => absurd h.1 (by simp)) (Or.inl ⟨by rfl, ?_⟩) (by assumption) ?_
            rotate_left
            · (intro w hSw; (try dsimp only at hSw); go_simp; try with_reducible rfl)
            simp only [Act.put, List.getElem_toArray, List.getElem_cons_succ, List.getElem_cons_zero, List.setIfInBounds_toArray, List.set_cons_zero, List.set_cons_succ]
            refine wpAnyH_take (i := 6) (v := ?_) rfl (by kernel_rfl) (by kernel_rfl) (by kernel_rfl) (fun _ _ _ h => absurd h.1 (by simp)) (Or.inl ⟨by rfl, ?_⟩) (by assumption) ?_
            rotate_left
            · (intro w hSw; (try dsimp only at hSw); go_simp; try with_reducible rfl)
            simp only [Act.put, List.getElem_toArray, List.getElem_cons_succ, List.getElem_cons_zero, List.setIfInBounds_toArray, List.set_cons_zero, List.set_cons_succ]
            refine wpAnyH_take (i := 7) (v := ?_) rfl (by kernel_rfl) (by kernel_rfl) (by kernel_rfl) (fun _ _ _ h => absurd h.1 (by simp)) (Or.inl ⟨by rfl, ?_⟩) (by assumption) ?_
            rotate_left
            · (intro w hSw; (try dsimp only at hSw); go_simp; try with_reducible rfl)
            simp only [Act.put, List.getElem_toArray, List.getElem_cons_succ, List.getElem_cons_zero, List.setIfInBounds_toArray, List.set_cons_zero, List.set_cons_succ]
            refine wpAnyH_ready (rs := [9]) (by kernel_rfl) (by simp) ?_
            refine AllReadyH.cons (o := _) rfl (fun K hK => ?_) ?_
            · clear hHeld
              have s0 := HRV.out.2.1
              have t0 := HRV.out.2.2 0
              go_simp
              clear s0 t0
              obtain ⟨W19, hWn⟩ : ∃ xw9, W18.setCell ⟨r5, 0, none⟩ u5 = xw9 := ⟨_, rfl⟩
              rw [hWn]
              replace HU5 := Lib.hid (show IsV W19 (fun _ => True) u5 (.bits Y) by rw [← hWn]; exact HU5.out.bits_set HRV.out.2.1 (.inl rfl) _)
              replace HW0 := Lib.hid (show Below w4.heap.size w4 W19 by rw [← hWn]; exact HW0.out.setCell HBK.out _)
              replace HP := Lib.hid (show At2 W19 pb _ _ by rw [← hWn]; exact HP.out.grown (grown_setCell _ ⟨r5, 0, none⟩ _) (by have := HBK.out; have := HPQ.out.1; simp; omega))
              replace HQ := Lib.hid (show At2 W19 qb _ _ by rw [← hWn]; exact HQ.out.grown (grown_setCell _ ⟨r5, 0, none⟩ _) (by have := HBK.out; have := HPQ.out.2; simp; omega))
              replace HRV := Lib.hid (show At1 W19 r5 u5 by rw [← hWn]; exact At1.put1L HRV.out _)
              clear hWn
              refine hK.out _ _ ?_ (fun hHeld => ?_)
              · exact ⟨HP.out.2.1, HP.out.2.2.1, HQ.out.2.1, HQ.out.2.2.1⟩
              clear hK K
              refine wpAnyH_take (i := 10) (v := ?_) rfl (by kernel_rfl) (by kernel_rfl) (by kernel_rfl) (fun _ _ _ h => absurd h.1 (by simp)) (Or.inl ⟨by rfl, ?_⟩) (by assumption) ?_
              rotate_left
              · (intro w hSw; (try dsimp only at hSw); go_simp; try with_reducible rfl)
              simp only [Act.put, List.getElem_toArray, List.getElem_cons_succ, List.getElem_cons_zero, List.setIfInBounds_toArray, List.set_cons_zero, List.set_cons_succ]
              refine wpAnyH_done (by kernel_rfl) ?_ _
              clear hHeld
              refine ⟨rfl, ux, uy, u5, r5, ?_, HU5.out, HRV.out, HW0.out⟩
              first | rfl | kernel_rfl
            exact AllReadyH.nil
          exact AllReadyH.nil
        exact AllReadyH.nil
      refine AllReadyH.cons (o := _) rfl (fun K hK => ?_) ?_
      · clear hHeld
        go_simp
        obtain ⟨W16, hWn⟩ : ∃ xw9, W15.alloc (.cells #[.nilIface] 31) = xw9 := ⟨_, rfl⟩
        have hB : Below W15.heap.size W15 W16 := by rw [← hWn]; exact below_new _ _
        have hNB : At1 W16 W15.heap.size .nilIface := by rw [← hWn]; exact At1.new _ _ _
        have hbk : w4.heap.size ≤ W15.heap.size := HW0.out.size
        rw [hWn]
        clear hWn
        obtain ⟨r5, hnm⟩ : ∃ x, W15.heap.size = x := ⟨_, rfl⟩
        rw [hnm] at hNB hbk ⊢
        replace HT := Lib.hid (fun j hj => keep_below hB _ _ (HT.out j hj))
        replace Hvp := Lib.hid (Hvp.out.keep (keep_below hB))
        replace Hvq := Lib.hid (Hvq.out.keep (keep_below hB))
        replace HP := Lib.hid (HP.out.below hB)
        replace HQ := Lib.hid (HQ.out.below hB)
        replace HW0 := Lib.hid (HW0.out.trans (hB.mono HW0.out.size))
        replace Hux := Lib.hid (Hux.out.grow hB)
        have HRV := Lib.hid hNB
        have HBK := Lib.hid hbk
        clear hNB hB hnm hbk
        refine hK.out _ _ ?_ (fun hHeld => ?_)
        · exact ⟨HP.out.2.1, HP.out.2.2.1, HQ.out.2.1, HQ.out.2.2.1⟩
        clear hK K
        refine wpAnyH_ready (rs := [3]) (by kernel_rfl) (by simp) ?_
        refine AllReadyH.cons (o := _) rfl (fun K hK => ?_) ?_
        · clear hHeld
          go_simp
          refine (vbits_calls _ b _ Hvq.out HBM.out).mono ?_
          rintro e W17 ⟨uy, rfl, huy, hB⟩
          replace HT := Lib.hid (fun j hj => keep_below hB _ _ (HT.out j hj))
          replace Hvp := Lib.hid (Hvp.out.keep (keep_below hB))
          replace Hvq := Lib.hid (Hvq.out.keep (keep_below hB))
          replace HP := Lib.hid (HP.out.below hB)
          replace HQ := Lib.hid (HQ.out.below hB)
          replace HW0 := Lib.hid (HW0.out.trans (hB.mono HW0.out.size))
          replace Hux := Lib.hid (Hux.out.grow hB)
          replace HRV := Lib.hid (HRV.out.below hB)
          have Huy := Lib.hid (IsV.any huy)
          have hsuy := huy.store
          clear huy
          clear hB
          refine hK.out _ _ ?_ (fun hHeld => ?_)
          · exact ⟨HP.out.2.1, HP.out.2.2.1, HQ.out.2.1, HQ.out.2.2.1⟩
          clear hK K
          refine wpAnyH_ready (rs := [4]) (by kernel_rfl) (by simp) ?_
          refine AllReadyH.cons (o := _) rfl (fun K hK => ?_) ?_
          · clear hHeld
            go_simp
            refine (loapply_calls 23 _ _ (.bits a) (.bits b) _ Hux.out Huy.out HLA.out HBM.out trivial trivial HT.out).mono ?_
            rintro e W18 ⟨u5, rfl, hu5, hB⟩
            replace HT := Lib.hid (fun j hj => keep_below hB _ _ (HT.out j hj))
            replace Hvp := Lib.hid (Hvp.out.keep (keep_below hB))
            replace Hvq := Lib.hid (Hvq.out.keep (keep_below hB))
            replace HP := Lib.hid (HP.out.below hB)
            replace HQ := Lib.hid (HQ.out.below hB)
            replace HW0 := Lib.hid (HW0.out.trans (hB.mono HW0.out.size))
            replace Hux := Lib.hid (Hux.out.grow hB)
            replace HRV := Lib.hid (HRV.out.below hB)
            replace Huy := Lib.hid (Huy.out.grow hB)
            rw [HZ2.out.1]
            rw [HZ2.out.2] at hu5
            have HU5 := Lib.hid (IsV.any hu5)
            have hsu5 := hu5.store
            clear hu5
            clear hB
            refine hK.out _ _ ?_ (fun hHeld => ?_)
            · exact ⟨HP.out.2.1, HP.out.2.2.1, HQ.out.2.1, HQ.out.2.2.1⟩
            clear hK K
            refine wpAnyH_take (i := 5) (v := ?_) rfl (by kernel_rfl) (by kernel_rfl) (by kernel_rfl) (fun _ _ _ h => absurd h.1 (by simp)) (Or.inl ⟨by rfl, ?_⟩) (by assumption) ?_
            rotate_left
            · (intro w hSw; (try dsimp only at hSw); go_simp; try with_reducible rfl)
            simp only [Act.put, List.getElem_toArray, List.getElem_cons_succ, List.getElem_cons_zero, List.setIfInBounds_toArray, List.set_cons_zero, List.set_cons_succ]
            refine wpAnyH_take (i := 6) (v := ?_) rfl (by kernel_rfl) (by kernel_rfl) (by kernel_rfl) (fun _ _ _ h => absurd h.1 (by simp)) (Or.inl ⟨by rfl, ?_⟩) (by assumption) ?_
            rotate_left
            · (intro w hSw; (try dsimp only at hSw); go_simp; try with_reducible rfl)
            simp only [Act.put, List.getElem_toArray, List.getElem_cons_succ, List.getElem_cons_zero, List.setIfInBounds_toArray, List.set_cons_zero, List.set_cons_succ]
            refine wpAnyH_take (i := 7) (v := ?_) rfl (by kernel_rfl) (by kernel_rfl) (by kernel_rfl) (fun _ _ _ h => absurd h.1 (by simp)) (Or.inl ⟨by rfl, ?_⟩) (by assumption) ?_
            rotate_left
            · (intro w hSw; (try dsimp only at hSw); go_simp; try with_reducible rfl)
            simp only [Act.put, List.getElem_toArray, List.getElem_cons_succ, List.getElem_cons_zero, List.setIfInBounds_toArray, List.set_cons_zero, List.set_cons_succ]
            refine wpAnyH_ready (rs := [9]) (by kernel_rfl) (by simp) ?_
            refine AllReadyH.cons (o := _) rfl (fun K hK => ?_) ?_
            · clear hHeld
              have s0 := HRV.out.2.1
              have t0 := HRV.out.2.2 0
              go_simp
              clear s0 t0
              obtain ⟨W19, hWn⟩ : ∃ xw9, W18.setCell ⟨r5, 0, none⟩ u5 = xw9 := ⟨_, rfl⟩
              rw [hWn]
              replace HU5 := Lib.hid (show IsV W19 (fun _ => True) u5 (.bits Y) by rw [← hWn]; exact HU5.out.bits_set HRV.out.2.1 (.inl rfl) _)
              replace HW0 := Lib.hid (show Below w4.heap.size w4 W19 by rw [← hWn]; exact HW0.out.setCell HBK.out _)
              replace HP := Lib.hid (show At2 W19 pb _ _ by rw [← hWn]; exact HP.out.grown (grown_setCell _ ⟨r5, 0, none⟩ _) (by have := HBK.out; have := HPQ.out.1; simp; omega))
              replace HQ := Lib.hid (show At2 W19 qb _ _ by rw [← hWn]; exact HQ.out.grown (grown_setCell _ ⟨r5, 0, none⟩ _) (by have := HBK.out; have := HPQ.out.2; simp; omega))
              replace HRV := Lib.hid (show At1 W19 r5 u5 by rw [← hWn]; exact At1.put1L HRV.out _)
              clear hWn
              refine hK.out _ _ ?_ (fun hHeld => ?_)
              · exact ⟨HP.out.2.1, HP.out.2.2.1, HQ.out.2.1, HQ.out.2.2.1⟩
              clear hK K
              refine wpAnyH_take (i := 10) (v := ?_) rfl (by kernel_rfl) (by kernel_rfl) (by kernel_rfl) (fun _ _ _ h => absurd h.1 (by simp)) (Or.inl ⟨by rfl, ?_⟩) (by assumption) ?_
              rotate_left
              · (intro w hSw; (try dsimp only at hSw); go_simp; try with_reducible rfl)
              simp only [Act.put, List.getElem_toArray, List.getElem_cons_succ, List.getElem_cons_zero, List.setIfInBounds_toArray, List.set_cons_zero, List.set_cons_succ]
              refine wpAnyH_done (by kernel_rfl) ?_ _
              clear hHeld
              refine ⟨rfl, ux, uy, u5, r5, ?_, HU5.out, HRV.out, HW0.out⟩
              first | rfl | kernel_rfl
            exact AllReadyH.nil
          exact AllReadyH.nil
        exact AllReadyH.nil
      exact AllReadyH.nil
    refine AllReadyH.cons (o := _) rfl (fun K hK => ?_) ?_
    · clear hHeld
      go_simp
      obtain ⟨W15, hWn⟩ : ∃ xw9, W14.alloc (.cells #[.nilIface] 31) = xw9 := ⟨_, rfl⟩
      have hB : Below W14.heap.size W14 W15 := by rw [← hWn]; exact below_new _ _
      have hNB : At1 W15 W14.heap.size .nilIface := by rw [← hWn]; exact At1.new _ _ _
      have hbk : w4.heap.size ≤ W14.heap.size := HW0.out.size
      rw [hWn]
      clear hWn
      obtain ⟨r5, hnm⟩ : ∃ x, W14.heap.size = x := ⟨_, rfl⟩
      rw [hnm] at hNB hbk ⊢
      replace HT := Lib.hid (fun j hj => keep_below hB _ _ (HT.out j hj))
      replace Hvp := Lib.hid (Hvp.out.keep (keep_below hB))
      replace Hvq := Lib.hid (Hvq.out.keep (keep_below hB))
      replace HP := Lib.hid (HP.out.below hB)
      replace HQ := Lib.hid (HQ.out.below hB)
      replace HW0 := Lib.hid (HW0.out.trans (hB.mono HW0.out.size))
      have HRV := Lib.hid hNB
      have HBK := Lib.hid hbk
      clear hNB hB hnm hbk
      refine hK.out _ _ ?_ (fun hHeld => ?_)
      · exact ⟨HP.out.2.1, HP.out.2.2.1, HQ.out.2.1, HQ.out.2.2.1⟩
      clear hK K
      refine wpAnyH_ready (rs := [1]) (by kernel_rfl) (by simp) ?_
      refine AllReadyH.cons (o := _) rfl (fun K hK => ?_) ?_
      · clear hHeld
        go_simp
        refine (vbits_calls _ a _ Hvp.out HLA.out).mono ?_
        rintro e W16 ⟨ux, rfl, hux, hB⟩
        replace HT := Lib.hid (fun j hj => keep_below hB _ _ (HT.out j hj))
        replace Hvp := Lib.hid (Hvp.out.keep (keep_below hB))
        replace Hvq := Lib.hid (Hvq.out.keep (keep_below hB))
        replace HP := Lib.hid (HP.out.below hB)
        replace HQ := Lib.hid (HQ.out.below hB)
        replace HW0 := Lib.hid (HW0.out.trans (hB.mono HW0.out.size))
        replace HRV := Lib.hid (HRV.out.below hB)
        have Hux := Lib.hid (IsV.any hux)
        have hsux := hux.store
        clear hux
        clear hB
        refine hK.out _ _ ?_ (fun hHeld => ?_)
        · exact ⟨HP.out.2.1, HP.out.2.2.1, HQ.out.2.1, HQ.out.2.2.1⟩
        clear hK K
        refine wpAnyH_ready (rs := [3]) (by kernel_rfl) (by simp) ?_
        refine AllReadyH.cons (o := _) rfl (fun K hK => ?_) ?_
        · clear hHeld
          go_simp
          refine (vbits_calls _ b _ Hvq.out HBM.out).mono ?_
          rintro e W17 ⟨uy, rfl, huy, hB⟩
          replace HT := Lib.hid (fun j hj => keep_below hB _ _ (HT.out j hj))
          replace Hvp := Lib.hid (Hvp.out.keep (keep_below hB))
          replace Hvq := Lib.hid (Hvq.out.keep (keep_below hB))
          replace HP := Lib.hid (HP.out.below hB)
          replace HQ := Lib.hid (HQ.out.below hB)
          replace HW0 := Lib.hid (HW0.out.trans (hB.mono HW0.out.size))
          replace HRV := Lib.hid (HRV.out.below hB)
          replace Hux := Lib.hid (Hux.out.grow hB)
          have Huy := Lib.hid (IsV.any huy)
          have hsuy := huy.store
          clear huy
          clear hB
          refine hK.out _ _ ?_ (fun hHeld => ?_)
          · exact ⟨HP.out.2.1, HP.out.2.2.1, HQ.out.2.1, HQ.out.2.2.1⟩
          clear hK K
          refine wpAnyH_ready (rs := [4]) (by kernel_rfl) (by simp) ?_
          refine AllReadyH.cons (o := _) rfl (fun K hK => ?_) ?_
          · clear hHeld
            go_simp
            refine (loapply_calls 23 _ _ (.bits a) (.bits b) _ Hux.out Huy.out HLA.out HBM.out trivial trivial HT.out).mono ?_
            rintro e W18 ⟨u5, rfl, hu5, hB⟩
            replace HT := Lib.hid (fun j hj => keep_below hB _ _ (HT.out j hj))
            replace Hvp := Lib.hid (Hvp.out.keep (keep_below hB))
            replace Hvq := Lib.hid (Hvq.out.keep (keep_below hB))
            replace HP := Lib.hid (HP.out.below hB)
            replace HQ := Lib.hid (HQ.out.below hB)
            replace HW0 := Lib.hid (HW0.out.trans (hB.mono HW0.out.size))
            replace HRV := Lib.hid (HRV.out.below hB)
            replace Hux := Lib.hid (Hux.out.grow hB)
            replace Huy := Lib.hid (Huy.out.grow hB)
            rw [HZ2.out.1]
            rw [HZ2.out.2] at hu5
            have HU5 := Lib.hid (IsV.any hu5)
            have hsu5 := hu5.store
            clear hu5
            clear hB
            refine hK.out _ _ ?_ (fun hHeld => ?_)
            · exact ⟨HP.out.2.1, HP.out.2.2.1, HQ.out.2.1, HQ.out.2.2.1⟩
            clear hK K
            refine wpAnyH_take (i := 5) (v := ?_) rfl (by kernel_rfl) (by kernel_rfl) (by kernel_rfl) (fun _ _ _ h => absurd h.1 (by simp)) (Or.inl ⟨by rfl, ?_⟩) (by assumption) ?_
            rotate_left
            · (intro w hSw; (try dsimp only at hSw); go_simp; try with_reducible rfl)
            simp only [Act.put, List.getElem_toArray, List.getElem_cons_succ, List.getElem_cons_zero, List.setIfInBounds_toArray, List.set_cons_zero, List.set_cons_succ]
            refine wpAnyH_take (i := 6) (v := ?_) rfl (by kernel_rfl) (by kernel_rfl) (by kernel_rfl) (fun _ _ _ h => absurd h.1 (by simp)) (Or.inl ⟨by rfl, ?_⟩) (by assumption) ?_
            rotate_left
            · (intro w hSw; (try dsimp only at hSw); go_simp; try with_reducible rfl)
            simp only [Act.put, List.getElem_toArray, List.getElem_cons_succ, List.getElem_cons_zero, List.setIfInBounds_toArray, List.set_cons_zero, List.set_cons_succ]
            refine wpAnyH_take (i := 7) (v := ?_) rfl (by kernel_rfl) (by kernel_rfl) (by kernel_rfl) (fun _ _ _ h => absurd h.1 (by simp)) (Or.inl ⟨by rfl, ?_⟩) (by assumption) ?_
            rotate_left
            · (intro w hSw; (try dsimp only at hSw); go_simp; try with_reducible rfl)
            simp only [Act.put, List.getElem_toArray, List.getElem_cons_succ, List.getElem_cons_zero, List.setIfInBounds_toArray, List.set_cons_zero, List.set_cons_succ]
            refine wpAnyH_ready (rs := [9]) (by kernel_rfl) (by simp) ?_
            refine AllReadyH.cons (o := _) rfl (fun K hK => ?_) ?_
            · clear hHeld
              have s0 := HRV.out.2.1
              have t0 := HRV.out.2.2 0
              go_simp
              clear s0 t0
              obtain ⟨W19, hWn⟩ : ∃ xw9, W18.setCell ⟨r5, 0, none⟩ u5 = xw9 := ⟨_, rfl⟩
              rw [hWn]
              replace HU5 := Lib.hid (show IsV W19 (fun _ => True) u5 (.bits Y) by rw [← hWn]; exact HU5.out.bits_set HRV.out.2.1 (.inl rfl) _)
              replace HW0 := Lib.hid (show Below w4.heap.size w4 W19 by rw [← hWn]; exact HW0.out.setCell HBK.out _)
              replace HP := Lib.hid (show At2 W19 pb _ _ by rw [← hWn]; exact HP.out.grown (grown_setCell _ ⟨r5, 0, none⟩ _) (by have := HBK.out; have := HPQ.out.1; simp; omega))
              replace HQ := Lib.hid (show At2 W19 qb _ _ by rw [← hWn]; exact HQ.out.grown (grown_setCell _ ⟨r5, 0, none⟩ _) (by have := HBK.out; have := HPQ.out.2; simp; omega))
              replace HRV := Lib.hid (show At1 W19 r5 u5 by rw [← hWn]; exact At1.put1L HRV.out _)
              clear hWn
              refine hK.out _ _ ?_ (fun hHeld => ?_)
              · exact ⟨HP.out.2.1, HP.out.2.2.1, HQ.out.2.1, HQ.out.2.2.1⟩
              clear hK K
              refine wpAnyH_take (i := 10) (v := ?_) rfl (by kernel_rfl) (by kernel_rfl) (by kernel_rfl) (fun _ _ _ h => absurd h.1 (by simp)) (Or.inl ⟨by rfl, ?_⟩) (by assumption) ?_
              rotate_left
              · (intro w hSw; (try dsimp only at hSw); go_simp; try with_reducible rfl)
              simp only [Act.put, List.getElem_toArray, List.getElem_cons_succ, List.getElem_cons_zero, List.setIfInBounds_toArray, List.set_cons_zero, List.set_cons_succ]
              refine wpAnyH_done (by kernel_rfl) ?_ _
              clear hHeld
              refine ⟨rfl, ux, uy, u5, r5, ?_, HU5.out, HRV.out, HW0.out⟩
              first | rfl | kernel_rfl
            exact AllReadyH.nil
          exact AllReadyH.nil
        exact AllReadyH.nil
      exact AllReadyH.nil
    exact AllReadyH.nil
  rintro _ w5 ⟨ux, uy, u5, r5, rfl, hU5, hA5, hB⟩
  have HU5 := Lib.hid hU5
  have HA5 := Lib.hid hA5
  have hsu5 := hU5.store
  clear hU5 hA5
  replace HB := Lib.hid (HB.out.trans (hB.mono HB.out.size))
  replace HT := Lib.hid (fun j hj => keep_below hB _ _ (HT.out j hj))
  replace Hvp := Lib.hid (Hvp.out.keep (keep_below hB))
  replace Hvq := Lib.hid (Hvq.out.keep (keep_below hB))
  replace HP := Lib.hid (HP.out.below hB)
  replace HQ := Lib.hid (HQ.out.below hB)
  replace HU4 := Lib.hid (HU4.out.grow hB)
  replace HA4 := Lib.hid (HA4.out.below hB)
  clear hB
  simp only [Act.put, List.setIfInBounds_toArray, List.set_cons_zero, List.set_cons_succ]
  have cHP0 := HP.out.2.1
  have cHP1 := HP.out.2.2.1
  have cHQ0 := HQ.out.2.1
  have cHQ1 := HQ.out.2.2.1
  have cHA40 := HA4.out.2.1
  have cHA50 := HA5.out.2.1
  go_wp2_with fail
  clear cHP0 cHP1 cHQ0 cHQ1 cHA40 cHA50
  refine wp_mid (fun s0 s1 w' => ∃ (ux uy np nq u6 : Value) (r6 : Nat), s1 = ((((((((((((s0.put (some 55) (.agg #[.int .i64 a.length, .slice ap ((a.length + 63) / 64) cp])).put (some 56) np).put (some 57) (.agg #[ux])).put (some 58) (.agg #[.int .i64 b.length, .slice aq ((b.length + 63) / 64) cq])).put (some 59) nq).put (some 60) (.agg #[uy])).put (some 61) (.tuple #[.agg #[u6], .int .i64 0])).put (some 54) (.tuple #[.agg #[u6], .int .i64 0])).put (some 62) (.agg #[u6])).put (some 63) (.int .i64 0)).put (some 11) (.pointer (some ⟨r6, 0, none⟩))).put (some 12) (.int .i64 0)) ∧ IsV w' (fun _ => True) u6 (.bits Y) ∧ At1 w' r6 u6 ∧ Below w5.heap.size w5 w') ?_ ?_
  · have HW0 := Lib.hid (Below.refl w5.heap.size w5)
    have HPQ := Lib.hid (show pb < w5.heap.size ∧ qb < w5.heap.size from ⟨HP.out.1, HQ.out.1⟩)
    obtain ⟨W14, hWD⟩ : ∃ xw9, w5.drew = xw9 := ⟨_, rfl⟩
    have hB : Below w5.heap.size w5 W14 := by rw [← hWD]; exact Below.drewN' (Below.refl _ _) 1
    replace HT := Lib.hid (fun j hj => keep_below hB _ _ (HT.out j hj))
    replace Hvp := Lib.hid (Hvp.out.keep (keep_below hB))
    replace Hvq := Lib.hid (Hvq.out.keep (keep_below hB))
    replace HP := Lib.hid (HP.out.below hB)
    replace HQ := Lib.hid (HQ.out.below hB)
    replace HW0 := Lib.hid (HW0.out.trans (hB.mono HW0.out.size))
    clear hB
    refine wp_region_held_drew (S := fun w' => w'.cell? ⟨pb, 0, none⟩ = some (.int .i64 a.length) ∧ w'.cell? ⟨pb, 1, none⟩ = some (.slice ap ((a.length + 63) / 64) cp) ∧ w'.cell? ⟨qb, 0, none⟩ = some (.int .i64 b.length) ∧ w'.cell? ⟨qb, 1, none⟩ = some (.slice aq ((b.length + 63) / 64) cq)) (by kernel_rfl) (by rw [hWD]; exact ⟨HP.out.2.1, HP.out.2.2.1, HQ.out.2.1, HQ.out.2.2.1⟩) (fun hHeld => ?_)
    rw [hWD] at hHeld ⊢
    clear hWD
    refine wpAnyH_take (i := 0) (v := ?_) rfl (by kernel_rfl) (by kernel_rfl) (by kernel_rfl) (fun _ _ _ h => absurd h.1 (by simp)) (Or.inl ⟨by rfl, ?_⟩) (by assumption) ?_
    rotate_left
    · (intro w hSw; (try dsimp only at hSw); go_simp; try with_reducible rfl)
    simp only [Act.put, List.getElem_toArray, List.getElem_cons_zero, List.setIfInBounds_toArray, List.set_cons_zero, List.set_cons_succ]
    refine wpAnyH_take (i := 3) (v := ?_) rfl (by kernel_rfl) (by kernel_rfl) (by kernel_rfl) (fun _ _ _ h => absurd h.1 (by simp)) (Or.inl ⟨by rfl, ?_⟩) (by assumption) ?_
    rotate_left
    · (intro w hSw; (try dsimp only at hSw); go_simp; try with_reducible rfl)
    simp only [Act.put, List.getElem_toArray, List.getElem_cons_succ, List.getElem_cons_zero, List.setIfInBounds_toArray, List.set_cons_zero, List.set_cons_succ]
    refine wpAnyH_ready (rs := [1, 10]) (by kernel_rfl) (by simp) ?_
    refine AllReadyH.cons (o := _) rfl (fun K hK => ?_) ?_
    · clear hHeld
      go_simp
      refine (not_calls _ a _ Hvp.out HLA.out).mono ?_
      rintro e W15 ⟨np, rfl, hnp, hB⟩
      replace HT := Lib.hid (fun j hj => keep_below hB _ _ (HT.out j hj))
      replace Hvp := Lib.hid (Hvp.out.keep (keep_below hB))
      replace Hvq := Lib.hid (Hvq.out.keep (keep_below hB))
      replace HP := Lib.hid (HP.out.below hB)
      replace HQ := Lib.hid (HQ.out.below hB)
      replace HW0 := Lib.hid (HW0.out.trans (hB.mono HW0.out.size))
      rw [HNA.out] at hnp
      have Hnp := Lib.hid hnp
      clear hnp
      clear hB
      refine hK.out _ _ ?_ (fun hHeld => ?_)
      · exact ⟨HP.out.2.1, HP.out.2.2.1, HQ.out.2.1, HQ.out.2.2.1⟩
      clear hK K
      refine wpAnyH_ready (rs := [2, 10]) (by kernel_rfl) (by simp) ?_
      refine AllReadyH.cons (o := _) rfl (fun K hK => ?_) ?_
      · clear hHeld
        go_simp
        refine (vbits_calls _ na _ Hnp.out HNAM.out).mono ?_
        rintro e W16 ⟨ux, rfl, hux, hB⟩
        replace HT := Lib.hid (fun j hj => keep_below hB _ _ (HT.out j hj))
        replace Hvp := Lib.hid (Hvp.out.keep (keep_below hB))
        replace Hvq := Lib.hid (Hvq.out.keep (keep_below hB))
        replace HP := Lib.hid (HP.out.below hB)
        replace HQ := Lib.hid (HQ.out.below hB)
        replace HW0 := Lib.hid (HW0.out.trans (hB.mono HW0.out.size))
        replace Hnp := Lib.hid (Hnp.out.keep (keep_below hB))
        have Hux := Lib.hid (IsV.any hux)
        have hsux := hux.store
        clear hux
        clear hB
        refine hK.out _ _ ?_ (fun hHeld => ?_)
        · exact ⟨HP.out.2.1, HP.out.2.2.1, HQ.out.2.1, HQ.out.2.2.1⟩
        clear hK K
        refine wpAnyH_ready (rs := [4, 10]) (by kernel_rfl) (by simp) ?_
        refine AllReadyH.cons (o := _) rfl (fun K hK => ?_) ?_
        · clear hHeld
          go_simp
          refine (not_calls _ b _ Hvq.out HBM.out).mono ?_
          rintro e W17 ⟨nq, rfl, hnq, hB⟩
          replace HT := Lib.hid (fun j hj => keep_below hB _ _ (HT.out j hj))
          replace Hvp := Lib.hid (Hvp.out.keep (keep_below hB))
          replace Hvq := Lib.hid (Hvq.out.keep (keep_below hB))
          replace HP := Lib.hid (HP.out.below hB)
          replace HQ := Lib.hid (HQ.out.below hB)
          replace HW0 := Lib.hid (HW0.out.trans (hB.mono HW0.out.size))
          replace Hnp := Lib.hid (Hnp.out.keep (keep_below hB))
          replace Hux := Lib.hid (Hux.out.grow hB)
          rw [HNB.out] at hnq
          have Hnq := Lib.hid hnq
          clear hnq
          clear hB
          refine hK.out _ _ ?_ (fun hHeld => ?_)
          · exact ⟨HP.out.2.1, HP.out.2.2.1, HQ.out.2.1, HQ.out.2.2.1⟩
          clear hK K
          refine wpAnyH_ready (rs := [5, 10]) (by kernel_rfl) (by simp) ?_
          refine AllReadyH.cons (o := _) rfl (fun K hK => ?_) ?_
          · clear hHeld
            go_simp
            refine (vbits_calls _ nb _ Hnq.out HNBM.out).mono ?_
            rintro e W18 ⟨uy, rfl, huy, hB⟩
            replace HT := Lib.hid (fun j hj => keep_below hB _ _ (HT.out j hj))
            replace Hvp := Lib.hid (Hvp.out.keep (keep_below hB))
            replace Hvq := Lib.hid (Hvq.out.keep (keep_below hB))
            replace HP := Lib.hid (HP.out.below hB)
            replace HQ := Lib.hid (HQ.out.below hB)
            replace HW0 := Lib.hid (HW0.out.trans (hB.mono HW0.out.size))
            replace Hnp := Lib.hid (Hnp.out.keep (keep_below hB))
            replace Hux := Lib.hid (Hux.out.grow hB)
            replace Hnq := Lib.hid (Hnq.out.keep (keep_below hB))
            have Huy := Lib.hid (IsV.any huy)
            have hsuy := huy.store
            clear huy
            clear hB
            refine hK.out _ _ ?_ (fun hHeld => ?_)
            · exact ⟨HP.out.2.1, HP.out.2.2.1, HQ.out.2.1, HQ.out.2.2.1⟩
            clear hK K
            refine wpAnyH_ready (rs := [6, 10]) (by kernel_rfl) (by simp) ?_
            refine AllReadyH.cons (o := _) rfl (fun K hK => ?_) ?_
            · clear hHeld
              go_simp
              refine (loapply_calls 22 _ _ (.bits na) (.bits nb) _ Hux.out Huy.out HNAM.out HNBM.out trivial trivial HT.out).mono ?_
              rintro e W19 ⟨u6, rfl, hu6, hB⟩
              replace HT := Lib.hid (fun j hj => keep_below hB _ _ (HT.out j hj))
              replace Hvp := Lib.hid (Hvp.out.keep (keep_below hB))
              replace Hvq := Lib.hid (Hvq.out.keep (keep_below hB))
              replace HP := Lib.hid (HP.out.below hB)
              replace HQ := Lib.hid (HQ.out.below hB)
              replace HW0 := Lib.hid (HW0.out.trans (hB.mono HW0.out.size))
              replace Hnp := Lib.hid (Hnp.out.keep (keep_below hB))
              replace Hux := Lib.hid (Hux.out.grow hB)
              replace Hnq := Lib.hid (Hnq.out.keep (keep_below hB))
              replace Huy := Lib.hid (Huy.out.grow hB)
              rw [HZ3.out.1]
              rw [HZ3.out.2] at hu6
              have HU6 := Lib.hid (IsV.any hu6)
              have hsu6 := hu6.store
              clear hu6
              clear hB
              refine hK.out _ _ ?_ (fun hHeld => ?_)
              · exact ⟨HP.out.2.1, HP.out.2.2.1, HQ.out.2.1, HQ.out.2.2.1⟩
              clear hK K
              refine wpAnyH_take (i := 7) (v := ?_) rfl (by kernel_rfl) (by kernel_rfl) (by kernel_rfl) (fun _ _ _ h => absurd h.1 (by simp)) (Or.inl ⟨by rfl, ?_⟩) (by assumption) ?_
              rotate_left
              · (intro w hSw; (try dsimp only at hSw); go_simp; try with_reducible rfl)
              simp only [Act.put, List.getElem_toArray, List.getElem_cons_succ, List.getElem_cons_zero, List.setIfInBounds_toArray, List.set_cons_zero, List.set_cons_succ]
              refine wpAnyH_take (i := 8) (v := ?_) rfl (by kernel_rfl) (by kernel_rfl) (by kernel_rfl) (fun _ _ _ h => absurd h.1 (by simp)) (Or.inl ⟨by rfl, ?_⟩) (by assumption) ?_
              rotate_left
              · (intro w hSw; (try dsimp only at hSw); go_simp; try with_reducible rfl)
              simp only [Act.put, List.getElem_toArray, List.getElem_cons_succ, List.getElem_cons_zero, List.setIfInBounds_toArray, List.set_cons_zero, List.set_cons_succ]
              refine wpAnyH_take (i := 9) (v := ?_) rfl (by kernel_rfl) (by kernel_rfl) (by kernel_rfl) (fun _ _ _ h => absurd h.1 (by simp)) (Or.inl ⟨by rfl, ?_⟩) (by assumption) ?_
              rotate_left
              · (intro w hSw; (try dsimp only at hSw); go_simp; try with_reducible rfl)
              simp only [Act.put, List.getElem_toArray, List.getElem_cons_succ, List.getElem_cons_zero, List.setIfInBounds_toArray, List.set_cons_zero, List.set_cons_succ]
              refine wpAnyH_ready (rs := [10]) (by kernel_rfl) (by simp) ?_
              refine AllReadyH.cons (o := _) rfl (fun K hK => ?_) ?_
              · clear hHeld
                go_simp
                obtain ⟨W20, hWn⟩ : ∃ xw9, W19.alloc (.cells #[.nilIface] 31) = xw9 := ⟨_, rfl⟩
                have hB : Below W19.heap.size W19 W20 := by rw [← hWn]; exact below_new _ _
                have hNB : At1 W20 W19.heap.size .nilIface := by rw [← hWn]; exact At1.new _ _ _
                have hbk : w5.heap.size ≤ W19.heap.size := HW0.out.size
                rw [hWn]
                clear hWn
                obtain ⟨r6, hnm⟩ : ∃ x, W19.heap.size = x := ⟨_, rfl⟩
                rw [hnm] at hNB hbk ⊢
                replace HT := Lib.hid (fun j hj => keep_below hB _ _ (HT.out j hj))
                replace Hvp := Lib.hid (Hvp.out.keep (keep_below hB))
                replace Hvq := Lib.hid (Hvq.out.keep (keep_below hB))
                replace HP := Lib.hid (HP.out.below hB)
                replace HQ := Lib.hid (HQ.out.below hB)
                replace HW0 := Lib.hid (HW0.out.trans (hB.mono HW0.out.size))
                replace Hnp := Lib.hid (Hnp.out.keep (keep_below hB))
                replace Hux := Lib.hid (Hux.out.grow hB)
                replace Hnq := Lib.hid (Hnq.out.keep (keep_below hB))
                replace Huy := Lib.hid (Huy.out.grow hB)
                replace HU6 := Lib.hid (HU6.out.grow hB)
                have HRV := Lib.hid hNB
                have HBK := Lib.hid hbk
                clear hNB hB hnm hbk
                refine hK.out _ _ ?_ (fun hHeld => ?_)
                · exact ⟨HP.out.2.1, HP.out.2.2.1, HQ.out.2.1, HQ.out.2.2.1⟩
                clear hK K
                refine wpAnyH_ready (rs := [11]) (by kernel_rfl) (by simp) ?_
                refine AllReadyH.cons (o := _) rfl (fun K hK => ?_) ?_
                · clear hHeld
                  have s0 := HRV.out.2.1
                  have t0 := HRV.out.2.2 0
                  go_simp
                  clear s0 t0
                  obtain ⟨W21, hWn⟩ : ∃ xw9, W20.setCell ⟨r6, 0, none⟩ u6 = xw9 := ⟨_, rfl⟩
                  rw [hWn]
                  replace HU6 := Lib.hid (show IsV W21 (fun _ => True) u6 (.bits Y) by rw [← hWn]; exact HU6.out.bits_set HRV.out.2.1 (.inl rfl) _)
                  replace HW0 := Lib.hid (show Below w5.heap.size w5 W21 by rw [← hWn]; exact HW0.out.setCell HBK.out _)
                  replace HP := Lib.hid (show At2 W21 pb _ _ by rw [← hWn]; exact HP.out.grown (grown_setCell _ ⟨r6, 0, none⟩ _) (by have := HBK.out; have := HPQ.out.1; simp; omega))
                  replace HQ := Lib.hid (show At2 W21 qb _ _ by rw [← hWn]; exact HQ.out.grown (grown_setCell _ ⟨r6, 0, none⟩ _) (by have := HBK.out; have := HPQ.out.2; simp; omega))
                  replace HRV := Lib.hid (show At1 W21 r6 u6 by rw [← hWn]; exact At1.put1L HRV.out _)
                  clear hWn
                  refine hK.out _ _ ?_ (fun hHeld => ?_)
                  · exact ⟨HP.out.2.1, HP.out.2.2.1, HQ.out.2.1, HQ.out.2.2.1⟩
                  clear hK K
                  refine wpAnyH_take (i := 12) (v := ?_) rfl (by kernel_rfl) (by kernel_rfl) (by kernel_rfl) (fun _ _ _ h => absurd h.1 (by simp)) (Or.inl ⟨by rfl, ?_⟩) (by assumption) ?_
                  rotate_left
                  · (intro w hSw; (try dsimp only at hSw); go_simp; try with_reducible rfl)
                  simp only [Act.put, List.getElem_toArray, List.getElem_cons_succ, List.getElem_cons_zero, List.setIfInBounds_toArray, List.set_cons_zero, List.set_cons_succ]
                  refine wpAnyH_done (by kernel_rfl) ?_ _
                  clear hHeld
                  refine ⟨rfl, ux, uy, np, nq, u6, r6, ?_, HU6.out, HRV.out, HW0.out⟩
                  first | rfl | kernel_rfl
                exact AllReadyH.nil
              exact AllReadyH.nil
            refine AllReadyH.cons (o := _) rfl (fun K hK => ?_) ?_
            · clear hHeld
              go_simp
              obtain ⟨W19, hWn⟩ : ∃ xw9, W18.alloc (.cells #[.nilIface] 31) = xw9 := ⟨_, rfl⟩
              have hB : Below W18.heap.size W18 W19 := by rw [← hWn]; exact below_new _ _
              have hNB : At1 W19 W18.heap.size .nilIface := by rw [← hWn]; exact At1.new _ _ _
              have hbk : w5.heap.size ≤ W18.heap.size := HW0.out.size
              rw [hWn]
              clear hWn
              obtain ⟨r6, hnm⟩ : ∃ x, W18.heap.size = x := ⟨_, rfl⟩
              rw [hnm] at hNB hbk ⊢
              replace HT := Lib.hid (fun j hj => keep_below hB _ _ (HT.out j hj))
              replace Hvp := Lib.hid (Hvp.out.keep (keep_below hB))
              replace Hvq := Lib.hid (Hvq.out.keep (keep_below hB))
              replace HP := Lib.hid (HP.out.below hB)
              replace HQ := Lib.hid (HQ.out.below hB)
              replace HW0 := Lib.hid (HW0.out.trans (hB.mono HW0.out.size))
              replace Hnp := Lib.hid (Hnp.out.keep (keep_below hB))
              replace Hux := Lib.hid (Hux.out.grow hB)
              replace Hnq := Lib.hid (Hnq.out.keep (keep_below hB))
              replace Huy := Lib.hid (Huy.out.grow hB)
              have HRV := Lib.hid hNB
              have HBK := Lib.hid hbk
              clear hNB hB hnm hbk
              refine hK.out _ _ ?_ (fun hHeld => ?_)
              · exact ⟨HP.out.2.1, HP.out.2.2.1, HQ.out.2.1, HQ.out.2.2.1⟩
              clear hK K
              refine wpAnyH_ready (rs := [6]) (by kernel_rfl) (by simp) ?_
              refine AllReadyH.cons (o := _) rfl (fun K hK => ?_) ?_
              · clear hHeld
                go_simp
                refine (loapply_calls 22 _ _ (.bits na) (.bits nb) _ Hux.out Huy.out HNAM.out HNBM.out trivial trivial HT.out).mono ?_
                rintro e W20 ⟨u6, rfl, hu6, hB⟩
                replace HT := Lib.hid (fun j hj => keep_below hB _ _ (HT.out j hj))
                replace Hvp := Lib.hid (Hvp.out.keep (keep_below hB))
                replace Hvq := Lib.hid (Hvq.out.keep (keep_below hB))
                replace HP := Lib.hid (HP.out.below hB)
                replace HQ := Lib.hid (HQ.out.below hB)
                replace HW0 := Lib.hid (HW0.out.trans (hB.mono HW0.out.size))
                replace Hnp := Lib.hid (Hnp.out.keep (keep_below hB))
                replace Hux := Lib.hid (Hux.out.grow hB)
                replace Hnq := Lib.hid (Hnq.out.keep (keep_below hB))
                replace Huy := Lib.hid (Huy.out.grow hB)
                replace HRV := Lib.hid (HRV.out.below hB)
                rw [HZ3.out.1]
                rw [HZ3.out.2] at hu6
                have HU6 := Lib.hid (IsV.any hu6)
                have hsu6 := hu6.store
                clear hu6
                clear hB
                refine hK.out _ _ ?_ (fun hHeld => ?_)
                · exact ⟨HP.out.2.1, HP.out.2.2.1, HQ.out.2.1, HQ.out.2.2.1⟩
                clear hK K
                refine wpAnyH_take (i := 7) (v := ?_) rfl (by kernel_rfl) (by kernel_rfl) (by kernel_rfl) (fun _ _ _ h => absurd h.1 (by simp)) (Or.inl ⟨by rfl, ?_⟩) (by assumption) ?_
                rotate_left
                · (intro w hSw; (try dsimp only at hSw); go_simp; try with_reducible rfl)
                simp only [Act.put, List.getElem_toArray, List.getElem_cons_succ, List.getElem_cons_zero, List.setIfInBounds_toArray, List.set_cons_zero, List.set_cons_succ]
                refine wpAnyH_take (i := 8) (v := ?_) rfl (by kernel_rfl) (by kernel_rfl) (by kernel_rfl) (fun _ _ _ h => absurd h.1 (by simp)) (Or.inl ⟨by rfl, ?_⟩) (by assumption) ?_
                rotate_left
                · (intro w hSw; (try dsimp only at hSw); go_simp; try with_reducible rfl)
                simp only [Act.put, List.getElem_toArray, List.getElem_cons_succ, List.getElem_cons_zero, List.setIfInBounds_toArray, List.set_cons_zero, List.set_cons_succ]
                refine wpAnyH_take (i := 9) (v := ?_) rfl (by kernel_rfl) (by kernel_rfl) (by kernel_rfl) (fun _ _ _ h => absurd h.1 (by simp)) (Or.inl ⟨by rfl, ?_⟩) (by assumption) ?_
                rotate_left
                · (intro w hSw; (try dsimp only at hSw); go_simp; try with_reducible rfl)
                simp only [Act.put, List.getElem_toArray, List.getElem_cons_succ, List.getElem_cons_zero, List.setIfInBounds_toArray, List.set_cons_zero, List.set_cons_succ]
                refine wpAnyH_ready (rs := [11]) (by kernel_rfl) (by simp) ?_
                refine AllReadyH.cons (o := _) rfl (fun K hK => ?_) ?_
                · clear hHeld
                  have s0 := HRV.out.2.1
                  have t0 := HRV.out.2.2 0
                  go_simp
                  clear s0 t0
                  obtain ⟨W21, hWn⟩ : ∃ xw9, W20.setCell ⟨r6, 0, none⟩ u6 = xw9 := ⟨_, rfl⟩
                  rw [hWn]
                  replace HU6 := Lib.hid (show IsV W21 (fun _ => True) u6 (.bits Y) by rw [← hWn]; exact HU6.out.bits_set HRV.out.2.1 (.inl rfl) _)
                  replace HW0 := Lib.hid (show Below w5.heap.size w5 W21 by rw [← hWn]; exact HW0.out.setCell HBK.out _)
                  replace HP := Lib.hid (show At2 W21 pb _ _ by rw [← hWn]; exact HP.out.grown (grown_setCell _ ⟨r6, 0, none⟩ _) (by have := HBK.out; have := HPQ.out.1; simp; omega))
                  replace HQ := Lib.hid (show At2 W21 qb _ _ by rw [← hWn]; exact HQ.out.grown (grown_setCell _ ⟨r6, 0, none⟩ _) (by have := HBK.out; have := HPQ.out.2; simp; omega))
                  replace HRV := Lib.hid (show At1 W21 r6 u6 by rw [← hWn]; exact At1.put1L HRV.out _)
                  clear hWn
                  refine hK.out _ _ ?_ (fun hHeld => ?_)
                  · exact ⟨HP.out.2.1, HP.out.2.2.1, HQ.out.2.1, HQ.out.2.2.1⟩
                  clear hK K
                  refine wpAnyH_take (i := 12) (v := ?_) rfl (by kernel_rfl) (by kernel_rfl) (by kernel_rfl) (fun _ _ _ h => absurd h.1 (by simp)) (Or.inl ⟨by rfl, ?_⟩) (by assumption) ?_
                  rotate_left
                  · (intro w hSw; (try dsimp only at hSw); go_simp; try with_reducible rfl)
                  simp only [Act.put, List.getElem_toArray, List.getElem_cons_succ, List.getElem_cons_zero, List.setIfInBounds_toArray, List.set_cons_zero, List.set_cons_succ]
                  refine wpAnyH_done (by kernel_rfl) ?_ _
                  clear hHeld
                  refine ⟨rfl, ux, uy, np, nq, u6, r6, ?_, HU6.out, HRV.out, HW0.out⟩
                  first | rfl | kernel_rfl
                exact AllReadyH.nil
              exact AllReadyH.nil
            exact AllReadyH.nil
          refine AllReadyH.cons (o := _) rfl (fun K hK => ?_) ?_
          · clear hHeld
            go_simp
            obtain ⟨W18, hWn⟩ : ∃ xw9, W17.alloc (.cells #[.nilIface] 31) = xw9 := ⟨_, rfl⟩
            have hB : Below W17.heap.size W17 W18 := by rw [← hWn]; exact below_new _ _
            have hNB : At1 W18 W17.heap.size .nilIface := by rw [← hWn]; exact At1.new _ _ _
            have hbk : w5.heap.size ≤ W17.heap.size := HW0.out.size
            rw [hWn]
            clear hWn
            obtain ⟨r6, hnm⟩ : ∃ x, W17.heap.size = x := ⟨_, rfl⟩
            rw [hnm] at hNB hbk ⊢
            replace HT := Lib.hid (fun j hj => keep_below hB _ _ (HT.out j hj))
            replace Hvp := Lib.hid (Hvp.out.keep (keep_below hB))
            replace Hvq := Lib.hid (Hvq.out.keep (keep_below hB))
            replace HP := Lib.hid (HP.out.below hB)
            replace HQ := Lib.hid (HQ.out.below hB)
            replace HW0 := Lib.hid (HW0.out.trans (hB.mono HW0.out.size))
            replace Hnp := Lib.hid (Hnp.out.keep (keep_below hB))
            replace Hux := Lib.hid (Hux.out.grow hB)
            replace Hnq := Lib.hid (Hnq.out.keep (keep_below hB))
            have HRV := Lib.hid hNB
            have HBK := Lib.hid hbk
            clear hNB hB hnm hbk
            refine hK.out _ _ ?_ (fun hHeld => ?_)
            · exact ⟨HP.out.2.1, HP.out.2.2.1, HQ.out.2.1, HQ.out.2.2.1⟩
            clear hK K
            refine wpAnyH_ready (rs := [5]) (by kernel_rfl) (by simp) ?_
            refine AllReadyH.cons (o := _) rfl (fun K hK => ?_) ?_
            · clear hHeld
              go_simp
              refine (vbits_calls _ nb _ Hnq.out HNBM.out).mono ?_
              rintro e W19 ⟨uy, rfl, huy, hB⟩
              replace HT := Lib.hid (fun j hj => keep_below hB _ _ (HT.out j hj))
              replace Hvp := Lib.hid (Hvp.out.keep (keep_below hB))
              replace Hvq := Lib.hid (Hvq.out.keep (keep_below hB))
              replace HP := Lib.hid (HP.out.below hB)
              replace HQ := Lib.hid (HQ.out.below hB)
              replace HW0 := Lib.hid (HW0.out.trans (hB.mono HW0.out.size))
              replace Hnp := Lib.hid (Hnp.out.keep (keep_below hB))
              replace Hux := Lib.hid (Hux.out.grow hB)
              replace Hnq := Lib.hid (Hnq.out.keep (keep_below hB))
              replace HRV := Lib.hid (HRV.out.below hB)
              have Huy := Lib.hid (IsV.any huy)
              have hsuy := huy.store
              clear huy
              clear hB
              refine hK.out _ _ ?_ (fun hHeld => ?_)
              · exact ⟨HP.out.2.1, HP.out.2.2.1, HQ.out.2.1, HQ.out.2.2.1⟩
              clear hK K
              refine wpAnyH_ready (rs := [6]) (by kernel_rfl) (by simp) ?_
              refine AllReadyH.cons (o := _) rfl (fun K hK => ?_) ?_
              · clear hHeld
                go_simp
                refine (loapply_calls 22 _ _ (.bits na) (.bits nb) _ Hux.out Huy.out HNAM.out HNBM.out trivial trivial HT.out).mono ?_
                rintro e W20 ⟨u6, rfl, hu6, hB⟩
                replace HT := Lib.hid (fun j hj => keep_below hB _ _ (HT.out j hj))
                replace Hvp := Lib.hid (Hvp.out.keep (keep_below hB))
                replace Hvq := Lib.hid (Hvq.out.keep (keep_below hB))
                replace HP := Lib.hid (HP.out.below hB)
                replace HQ := Lib.hid (HQ.out.below hB)
                replace HW0 := Lib.hid (HW0.out.trans (hB.mono HW0.out.size))
                replace Hnp := Lib.hid (Hnp.out.keep (keep_below hB))
                replace Hux := Lib.hid (Hux.out.grow hB)
                replace Hnq := Lib.hid (Hnq.out.keep (keep_below hB))
                replace HRV := Lib.hid (HRV.out.below hB)
                replace Huy := Lib.hid (Huy.out.grow hB)
                rw [HZ3.out.1]
                rw [HZ3.out.2] at hu6
                have HU6 := Lib.hid (IsV.any hu6)
                have hsu6 := hu6.store
                clear hu6
                clear hB
                refine hK.out _ _ ?_ (fun hHeld => ?_)
                · exact ⟨HP.out.2.1, HP.out.2.2.1, HQ.out.2.1, HQ.out.2.2.1⟩
                clear hK K
                refine wpAnyH_take (i := 7) (v := ?_) rfl (by kernel_rfl) (by kernel_rfl) (by kernel_rfl) (fun _ _ _ h => absurd h.1 (by simp)) (Or.inl ⟨by rfl, ?_⟩) (by assumption) ?_
                rotate_left
                · (intro w hSw; (try dsimp only at hSw); go_simp; try with_reducible rfl)
                simp only [Act.put, List.getElem_toArray, List.getElem_cons_succ, List.getElem_cons_zero, List.setIfInBounds_toArray, List.set_cons_zero, List.set_cons_succ]
                refine wpAnyH_take (i := 8) (v := ?_) rfl (by kernel_rfl) (by kernel_rfl) (by kernel_rfl) (fun _ _ _ h => absurd h.1 (by simp)) (Or.inl ⟨by rfl, ?_⟩) (by assumption) ?_
                rotate_left
                · (intro w hSw; (try dsimp only at hSw); go_simp; try with_reducible rfl)
                simp only [Act.put, List.getElem_toArray, List.getElem_cons_succ, List.getElem_cons_zero, List.setIfInBounds_toArray, List.set_cons_zero, List.set_cons_succ]
                refine wpAnyH_take (i := 9) (v := ?_) rfl (by kernel_rfl) (by kernel_rfl) (by kernel_rfl) (fun _ _ _ h => absurd h.1 (by simp)) (Or.inl ⟨by rfl, ?_⟩) (by assumption) ?_
                rotate_left
                · (intro w hSw; (try dsimp only at hSw); go_simp; try with_reducible rfl)
                simp only [Act.put, List.getElem_toArray, List.getElem_cons_succ, List.getElem_cons_zero, List.setIfInBounds_toArray, List.set_cons_zero, List.set_cons_succ]
                refine wpAnyH_ready (rs := [11]) (by kernel_rfl) (by simp) ?_
                refine AllReadyH.cons (o := _) rfl (fun K hK => ?_) ?_
                · clear hHeld
                  have s0 := HRV.out.2.1
                  have t0 := HRV.out.2.2 0
                  go_simp
                  clear s0 t0
                  obtain ⟨W21, hWn⟩ : ∃ xw9, W20.setCell ⟨r6, 0, none⟩ u6 = xw9 := ⟨_, rfl⟩
                  rw [hWn]
                  replace HU6 := Lib.hid (show IsV W21 (fun _ => True) u6 (.bits Y) by rw [← hWn]; exact HU6.out.bits_set HRV.out.2.1 (.inl rfl) _)
                  replace HW0 := Lib.hid (show Below w5.heap.size w5 W21 by rw [← hWn]; exact HW0.out.setCell HBK.out _)
                  replace HP := Lib.hid (show At2 W21 pb _ _ by rw [← hWn]; exact HP.out.grown (grown_setCell _ ⟨r6, 0, none⟩ _) (by have := HBK.out; have := HPQ.out.1; simp; omega))
                  replace HQ := Lib.hid (show At2 W21 qb _ _ by rw [← hWn]; exact HQ.out.grown (grown_setCell _ ⟨r6, 0, none⟩ _) (by have := HBK.out; have := HPQ.out.2; simp; omega))
                  replace HRV := Lib.hid (show At1 W21 r6 u6 by rw [← hWn]; exact At1.put1L HRV.out _)
                  clear hWn
                  refine hK.out _ _ ?_ (fun hHeld => ?_)
                  · exact ⟨HP.out.2.1, HP.out.2.2.1, HQ.out.2.1, HQ.out.2.2.1⟩
                  clear hK K
                  refine wpAnyH_take (i := 12) (v := ?_) rfl (by kernel_rfl) (by kernel_rfl) (by kernel_rfl) (fun _ _ _ h => absurd h.1 (by simp)) (Or.inl ⟨by rfl, ?_⟩) (by assumption) ?_
                  rotate_left
                  · (intro w hSw; (try dsimp only at hSw); go_simp; try with_reducible rfl)
                  simp only [Act.put, List.getElem_toArray, List.getElem_cons_succ, List.getElem_cons_zero, List.setIfInBounds_toArray, List.set_cons_zero, List.set_cons_succ]
                  refine wpAnyH_done (by kernel_rfl) ?_ _
                  clear hHeld
                  refine ⟨rfl, ux, uy, np, nq, u6, r6, ?_, HU6.out, HRV.out, HW0.out⟩
                  first | rfl | kernel_rfl
                exact AllReadyH.nil
              exact AllReadyH.nil
            exact AllReadyH.nil
          exact AllReadyH.nil
        refine AllReadyH.cons (o := _) rfl (fun K hK => ?_) ?_
        · clear hHeld
          go_simp
          obtain ⟨W17, hWn⟩ : ∃ xw9, W16.alloc (.cells #[.nilIface] 31) = xw9 := ⟨_, rfl⟩
          have hB : Below W16.heap.size W16 W17 := by rw [← hWn]; exact below_new _ _
          have hNB : At1 W17 W16.heap.size .nilIface := by rw [← hWn]; exact At1.new _ _ _
          have hbk : w5.heap.size ≤ W16.heap.size := HW0.out.size
          rw [hWn]
          clear hWn
          obtain ⟨r6, hnm⟩ : ∃ x, W16.heap.size = x := ⟨_, rfl⟩
          rw [hnm] at hNB hbk ⊢
          replace HT := Lib.hid (fun j hj => keep_below hB _ _ (HT.out j hj))
          replace Hvp := Lib.hid (Hvp.out.keep (keep_below hB))
          replace Hvq := Lib.hid (Hvq.out.keep (keep_below hB))
          replace HP := Lib.hid (HP.out.below hB)
          replace HQ := Lib.hid (HQ.out.below hB)
          replace HW0 := Lib.hid (HW0.out.trans (hB.mono HW0.out.size))
          replace Hnp := Lib.hid (Hnp.out.keep (keep_below hB))
          replace Hux := Lib.hid (Hux.out.grow hB)
          have HRV := Lib.hid hNB
          have HBK := Lib.hid hbk
          clear hNB hB hnm hbk
          refine hK.out _ _ ?_ (fun hHeld => ?_)
          · exact ⟨HP.out.2.1, HP.out.2.2.1, HQ.out.2.1, HQ.out.2.2.1⟩
          clear hK K
          refine wpAnyH_ready (rs := [4]) (by kernel_rfl) (by simp) ?_
          refine AllReadyH.cons (o := _) rfl (fun K hK => ?_) ?_
          · clear hHeld
            go_simp
            refine (not_calls _ b _ Hvq.out HBM.out).mono ?_
            rintro e W18 ⟨nq, rfl, hnq, hB⟩
            replace HT := Lib.hid (fun j hj => keep_below hB _ _ (HT.out j hj))
            replace Hvp := Lib.hid (Hvp.out.keep (keep_below hB))
            replace Hvq := Lib.hid (Hvq.out.keep (keep_below hB))
            replace HP := Lib.hid (HP.out.below hB)
            replace HQ := Lib.hid (HQ.out.below hB)
            replace HW0 := Lib.hid (HW0.out.trans (hB.mono HW0.out.size))
            replace Hnp := Lib.hid (Hnp.out.keep (keep_below hB))
            replace Hux := Lib.hid (Hux.out.grow hB)
            replace HRV := Lib.hid (HRV.out.below hB)
            rw [HNB.out] at hnq
            have Hnq := Lib.hid hnq
            clear hnq
            clear hB
            refine hK.out _ _ ?_ (fun hHeld => ?_)
            · exact ⟨HP.out.2.1, HP.out.2.2.1, HQ.out.2.1, HQ.out.2.2.1⟩
            clear hK K
            refine wpAnyH_ready (rs := [5]) (by kernel_rfl) (by simp) ?_
            refine AllReadyH.cons (o := _) rfl (fun K hK => ?_) ?_
            · clear hHeld
              go_simp
              refine (vbits_calls _ nb _ Hnq.out HNBM.out).mono ?_
              rintro e W19 ⟨uy, rfl, huy, hB⟩
              replace HT := Lib.hid (fun j hj => keep_below hB _ _ (HT.out j hj))
              replace Hvp := Lib.hid (Hvp.out.keep (keep_below hB))
              replace Hvq := Lib.hid (Hvq.out.keep (keep_below hB))
              replace HP := Lib.hid (HP.out.below hB)
              replace HQ := Lib.hid (HQ.out.below hB)
              replace HW0 := Lib.hid (HW0.out.trans (hB.mono HW0.out.size))
              replace Hnp := Lib.hid (Hnp.out.keep (keep_below hB))
              replace Hux := Lib.hid (Hux.out.grow hB)
              replace HRV := Lib.hid (HRV.out.below hB)
              replace Hnq := Lib.hid (Hnq.out.keep (keep_below hB))
              have Huy := Lib.hid (IsV.any huy)
              have hsuy := huy.store
              clear huy
              clear hB
              refine hK.out _ _ ?_ (fun hHeld => ?_)
              · exact ⟨HP.out.2.1, HP.out.2.2.1, HQ.out.2.1, HQ.out.2.2.1⟩
              clear hK K
              refine wpAnyH_ready (rs := [6]) (by kernel_rfl) (by simp) ?_
              refine AllReadyH.cons (o := _) rfl (fun K hK => ?_) ?_
              · clear hHeld
                go_simp
                refine (loapply_calls 22 _ _ (.bits na) (.bits nb) _ Hux.out Huy.out HNAM.out HNBM.out trivial trivial HT.out).mono ?_
                rintro e W20 ⟨u6, rfl, hu6, hB⟩
                replace HT := Lib.hid (fun j hj => keep_below hB _ _ (HT.out j hj))
                replace Hvp := Lib.hid (Hvp.out.keep (keep_below hB))
                replace Hvq := Lib.hid (Hvq.out.keep (keep_below hB))
                replace HP := Lib.hid (HP.out.below hB)
                replace HQ := Lib.hid (HQ.out.below hB)
                replace HW0 := Lib.hid (HW0.out.trans (hB.mono HW0.out.size))
                replace Hnp := Lib.hid (Hnp.out.keep (keep_below hB))
                replace Hux := Lib.hid (Hux.out.grow hB)
                replace HRV := Lib.hid (HRV.out.below hB)
                replace Hnq := Lib.hid (Hnq.out.keep (keep_below hB))
                replace Huy := Lib.hid (Huy.out.grow hB)
                rw [HZ3.out.1]
                rw [HZ3.out.2] at hu6
                have HU6 := Lib.hid (IsV.any hu6)
                have hsu6 := hu6.store
                clear hu6
                clear hB
                refine hK.out _ _ ?_ (fun hHeld => ?_)
                · exact ⟨HP.out.2.1, HP.out.2.2.1, HQ.out.2.1, HQ.out.2.2.1⟩
                clear hK K
                refine wpAnyH_take (i := 7) (v := ?_) rfl (by kernel_rfl) (by kernel_rfl) (by kernel_rfl) (fun _ _ _ h => absurd h.1 (by simp)) (Or.inl ⟨by rfl, ?_⟩) (by assumption) ?_
                rotate_left
                · (intro w hSw; (try dsimp only at hSw); go_simp; try with_reducible rfl)
                simp only [Act.put, List.getElem_toArray, List.getElem_cons_succ, List.getElem_cons_zero, List.setIfInBounds_toArray, List.set_cons_zero, List.set_cons_succ]
                refine wpAnyH_take (i := 8) (v := ?_) rfl (by kernel_rfl) (by kernel_rfl) (by kernel_rfl) (fun _ _ _ h => absurd h.1 (by simp)) (Or.inl ⟨by rfl, ?_⟩) (by assumption) ?_
                rotate_left
                · (intro w hSw; (try dsimp only at hSw); go_simp; try with_reducible rfl)
                simp only [Act.put, List.getElem_toArray, List.getElem_cons_succ, List.getElem_cons_zero, List.setIfInBounds_toArray, List.set_cons_zero, List.set_cons_succ]
                refine wpAnyH_take (i := 9) (v := ?_) rfl (by kernel_rfl) (by kernel_rfl) (by kernel_rfl) (fun _ _ _ h => absurd h.1 (by simp)) (Or.inl ⟨by rfl, ?_⟩) (by assumption) ?_
                rotate_left
                · (intro w hSw; (try dsimp only at hSw); go_simp; try with_reducible rfl)
                simp only [Act.put, List.getElem_toArray, List.getElem_cons_succ, List.getElem_cons_zero, List.setIfInBounds_toArray, List.set_cons_zero, List.set_cons_succ]
                refine wpAnyH_ready (rs := [11]) (by kernel_rfl) (by simp) ?_
                refine AllReadyH.cons (o := _) rfl (fun K hK => ?_) ?_
                · clear hHeld
                  have s0 := HRV.out.2.1
                  have t0 := HRV.out.2.2 0
                  go_simp
                  clear s0 t0
                  obtain ⟨W21, hWn⟩ : ∃ xw9, W20.setCell ⟨r6, 0, none⟩ u6 = xw9 := ⟨_, rfl⟩
                  rw [hWn]
                  replace HU6 := Lib.hid (show IsV W21 (fun _ => True) u6 (.bits Y) by rw [← hWn]; exact HU6.out.bits_set HRV.out.2.1 (.inl rfl) _)
                  replace HW0 := Lib.hid (show Below w5.heap.size w5 W21 by rw [← hWn]; exact HW0.out.setCell HBK.out _)
                  replace HP := Lib.hid (show At2 W21 pb _ _ by rw [← hWn]; exact HP.out.grown (grown_setCell _ ⟨r6, 0, none⟩ _) (by have := HBK.out; have := HPQ.out.1; simp; omega))
                  replace HQ := Lib.hid (show At2 W21 qb _ _ by rw [← hWn]; exact HQ.out.grown (grown_setCell _ ⟨r6, 0, none⟩ _) (by have := HBK.out; have := HPQ.out.2; simp; omega))
                  replace HRV := Lib.hid (show At1 W21 r6 u6 by rw [← hWn]; exact At1.put1L HRV.out _)
                  clear hWn
                  refine hK.out _ _ ?_ (fun hHeld => ?_)
                  · exact ⟨HP.out.2.1, HP.out.2.2.1, HQ.out.2.1, HQ.out.2.2.1⟩
                  clear hK K
                  refine wpAnyH_take (i := 12) (v := ?_) rfl (by kernel_rfl) (by kernel_rfl) (by kernel_rfl) (fun _ _ _ h => absurd h.1 (by simp)) (Or.inl ⟨by rfl, ?_⟩) (by assumption) ?_
                  rotate_left
                  · (intro w hSw; (try dsimp only at hSw); go_simp; try with_reducible rfl)
                  simp only [Act.put, List.getElem_toArray, List.getElem_cons_succ, List.getElem_cons_zero, List.setIfInBounds_toArray, List.set_cons_zero, List.set_cons_succ]
                  refine wpAnyH_done (by kernel_rfl) ?_ _
                  clear hHeld
                  refine ⟨rfl, ux, uy, np, nq, u6, r6, ?_, HU6.out, HRV.out, HW0.out⟩
                  first | rfl | kernel_rfl
                exact AllReadyH.nil
              exact AllReadyH.nil
            exact AllReadyH.nil
          exact AllReadyH.nil
        exact AllReadyH.nil
      refine AllReadyH.cons (o := _) rfl (fun K hK => ?_) ?_
      · clear hHeld
        go_simp
        obtain ⟨W16, hWn⟩ : ∃ xw9, W15.alloc (.cells #[.nilIface] 31) = xw9 := ⟨_, rfl⟩
        have hB : Below W15.heap.size W15 W16 := by rw [← hWn]; exact below_new _ _
        have hNB : At1 W16 W15.heap.size .nilIface := by rw [← hWn]; exact At1.new _ _ _
        have hbk : w5.heap.size ≤ W15.heap.size := HW0.out.size
        rw [hWn]
        clear hWn
        obtain ⟨r6, hnm⟩ : ∃ x, W15.heap.size = x := ⟨_, rfl⟩
        rw [hnm] at hNB hbk ⊢
        replace HT := Lib.hid (fun j hj => keep_below hB _ _ (HT.out j hj))
        replace Hvp := Lib.hid (Hvp.out.keep (keep_below hB))
        replace Hvq := Lib.hid (Hvq.out.keep (keep_below hB))
        replace HP := Lib.hid (HP.out.below hB)
        replace HQ := Lib.hid (HQ.out.below hB)
        replace HW0 := Lib.hid (HW0.out.trans (hB.mono HW0.out.size))
        replace Hnp := Lib.hid (Hnp.out.keep (keep_below hB))
        have HRV := Lib.hid hNB
        have HBK := Lib.hid hbk
        clear hNB hB hnm hbk
        refine hK.out _ _ ?_ (fun hHeld => ?_)
        · exact ⟨HP.out.2.1, HP.out.2.2.1, HQ.out.2.1, HQ.out.2.2.1⟩
        clear hK K
        refine wpAnyH_ready (rs := [2]) (by kernel_rfl) (by simp) ?_
        refine AllReadyH.cons (o := _) rfl (fun K hK => ?_) ?_
        · clear hHeld
          go_simp
          refine (vbits_calls _ na _ Hnp.out HNAM.out).mono ?_
          rintro e W17 ⟨ux, rfl, hux, hB⟩
          replace HT := Lib.hid (fun j hj => keep_below hB _ _ (HT.out j hj))
          replace Hvp := Lib.hid (Hvp.out.keep (keep_below hB))
          replace Hvq := Lib.hid (Hvq.out.keep (keep_below hB))
          replace HP := Lib.hid (HP.out.below hB)
          replace HQ := Lib.hid (HQ.out.below hB)
          replace HW0 := Lib.hid (HW0.out.trans (hB.mono HW0.out.size))
          replace Hnp := Lib.hid (Hnp.out.keep (keep_below hB))
          replace HRV := Lib.hid (HRV.out.below hB)
          have Hux := Lib.hid (IsV.any hux)
          have hsux := hux.store
          clear hux
          clear hB
          refine hK.out _ _ ?_ (fun hHeld => ?_)
          · exact ⟨HP.out.2.1, HP.out.2.2.1, HQ.out.2.1, HQ.out.2.2.1⟩
          clear hK K
          refine wpAnyH_ready (rs := [4]) (by kernel_rfl) (by simp) ?_
          refine AllReadyH.cons (o := _) rfl (fun K hK => ?_) ?_
          · clear hHeld
            go_simp
            refine (not_calls _ b _ Hvq.out HBM.out).mono ?_
            rintro e W18 ⟨nq, rfl, hnq, hB⟩
            replace HT := Lib.hid (fun j hj => keep_below hB _ _ (HT.out j hj))
            replace Hvp := Lib.hid (Hvp.out.keep (keep_below hB))
            replace Hvq := Lib.hid (Hvq.out.keep (keep_below hB))
            replace HP := Lib.hid (HP.out.below hB)
            replace HQ := Lib.hid (HQ.out.below hB)
            replace HW0 := Lib.hid (HW0.out.trans (hB.mono HW0.out.size))
            replace Hnp := Lib.hid (Hnp.out.keep (keep_below hB))
            replace HRV := Lib.hid (HRV.out.below hB)
            replace Hux := Lib.hid (Hux.out.grow hB)
            rw [HNB.out] at hnq
            have Hnq := Lib.hid hnq
            clear hnq
            clear hB
            refine hK.out _ _ ?_ (fun hHeld => ?_)
            · exact ⟨HP.out.2.1, HP.out.2.2.1, HQ.out.2.1, HQ.out.2.2.1⟩
            clear hK K
            refine wpAnyH_ready (rs := [5]) (by kernel_rfl) (by simp) ?_
            refine AllReadyH.cons (o := _) rfl (fun K hK => ?_) ?_
            · clear hHeld
              go_simp
              refine (vbits_calls _ nb _ Hnq.out HNBM.out).mono ?_
              rintro e W19 ⟨uy, rfl, huy, hB⟩
              replace HT := Lib.hid (fun j hj => keep_below hB _ _ (HT.out j hj))
              replace Hvp := Lib.hid (Hvp.out.keep (keep_below hB))
              replace Hvq := Lib.hid (Hvq.out.keep (keep_below hB))
              replace HP := Lib.hid (HP.out.below hB)
              replace HQ := Lib.hid (HQ.out.below hB)
              replace HW0 := Lib.hid (HW0.out.trans (hB.mono HW0.out.size))
              replace Hnp := Lib.hid (Hnp.out.keep (keep_below hB))
              replace HRV := Lib.hid (HRV.out.below hB)
              replace Hux := Lib.hid (Hux.out.grow hB)
              replace Hnq := Lib.hid (Hnq.out.keep (keep_below hB))
              have Huy := Lib.hid (IsV.any huy)
              have hsuy := huy.store
              clear huy
              clear hB
              refine hK.out _ _ ?_ (fun hHeld => ?_)
              · exact ⟨HP.out.2.1, HP.out.2.2.1, HQ.out.2.1, HQ.out.2.2.1⟩
              clear hK K
              refine wpAnyH_ready (rs := [6]) (by kernel_rfl) (by simp) ?_
              refine AllReadyH.cons (o := _) rfl (fun K hK => ?_) ?_
              · clear hHeld
                go_simp
                refine (loapply_calls 22 _ _ (.bits na) (.bits nb) _ Hux.out Huy.out HNAM.out HNBM.out trivial trivial HT.out).mono ?_
                rintro e W20 ⟨u6, rfl, hu6, hB⟩
                replace HT := Lib.hid (fun j hj => keep_below hB _ _ (HT.out j hj))
                replace Hvp := Lib.hid (Hvp.out.keep (keep_below hB))
                replace Hvq := Lib.hid (Hvq.out.keep (keep_below hB))
                replace HP := Lib.hid (HP.out.below hB)
                replace HQ := Lib.hid (HQ.out.below hB)
                replace HW0 := Lib.hid (HW0.out.trans (hB.mono HW0.out.size))
                replace Hnp := Lib.hid (Hnp.out.keep (keep_below hB))
                replace HRV := Lib.hid (HRV.out.below hB)
                replace Hux := Lib.hid (Hux.out.grow hB)
                replace Hnq := Lib.hid (Hnq.out.keep (keep_below hB))
                replace Huy := Lib.hid (Huy.out.grow hB)
                rw [HZ3.out.1]
                rw [HZ3.out.2] at hu6
                have HU6 := Lib.hid (IsV.any hu6)
                have hsu6 := hu6.store
                clear hu6
                clear hB
                refine hK.out _ _ ?_ (fun hHeld => ?_)
                · exact ⟨HP.out.2.1, HP.out.2.2.1, HQ.out.2.1, HQ.out.2.2.1⟩
                clear hK K
                refine wpAnyH_take (i := 7) (v := ?_) rfl (by kernel_rfl) (by kernel_rfl) (by kernel_rfl) (fun _ _ _ h => absurd h.1 (by simp)) (Or.inl ⟨by rfl, ?_⟩) (by assumption) ?_
                rotate_left
                · (intro w hSw; (try dsimp only at hSw); go_simp; try with_reducible rfl)
                simp only [Act.put, List.getElem_toArray, List.getElem_cons_succ, List.getElem_cons_zero, List.setIfInBounds_toArray, List.set_cons_zero, List.set_cons_succ]
                refine wpAnyH_take (i := 8) (v := ?_) rfl (by kernel_rfl) (by kernel_rfl) (by kernel_rfl) (fun _ _ _ h => absurd h.1 (by simp)) (Or.inl ⟨by rfl, ?_⟩) (by assumption) ?_
                rotate_left
                · (intro w hSw; (try dsimp only at hSw); go_simp; try with_reducible rfl)
                simp only [Act.put, List.getElem_toArray, List.getElem_cons_succ, List.getElem_cons_zero, List.setIfInBounds_toArray, List.set_cons_zero, List.set_cons_succ]
                refine wpAnyH_take (i := 9) (v := ?_) rfl (by kernel_rfl) (by kernel_rfl) (by kernel_rfl) (fun _ _ _ h => absurd h.1 (by simp)) (Or.inl ⟨by rfl, ?_⟩) (by assumption) ?_
                rotate_left
                · (intro w hSw; (try dsimp only at hSw); go_simp; try with_reducible rfl)
                simp only [Act.put, List.getElem_toArray, List.getElem_cons_succ, List.getElem_cons_zero, List.setIfInBounds_toArray, List.set_cons_zero, List.set_cons_succ]
                refine wpAnyH_ready (rs := [11]) (by kernel_rfl) (by simp) ?_
                refine AllReadyH.cons (o := _) rfl (fun K hK => ?_) ?_
                · clear hHeld
                  have s0 := HRV.out.2.1
                  have t0 := HRV.out.2.2 0
                  go_simp
                  clear s0 t0
                  obtain ⟨W21, hWn⟩ : ∃ xw9, W20.setCell ⟨r6, 0, none⟩ u6 = xw9 := ⟨_, rfl⟩
                  rw [hWn]
                  replace HU6 := Lib.hid (show IsV W21 (fun _ => True) u6 (.bits Y) by rw [← hWn]; exact HU6.out.bits_set HRV.out.2.1 (.inl rfl) _)
                  replace HW0 := Lib.hid (show Below w5.heap.size w5 W21 by rw [← hWn]; exact HW0.out.setCell HBK.out _)
                  replace HP := Lib.hid (show At2 W21 pb _ _ by rw [← hWn]; exact HP.out.grown (grown_setCell _ ⟨r6, 0, none⟩ _) (by have := HBK.out; have := HPQ.out.1; simp; omega))
                  replace HQ := Lib.hid (show At2 W21 qb _ _ by rw [← hWn]; exact HQ.out.grown (grown_setCell _ ⟨r6, 0, none⟩ _) (by have := HBK.out; have := HPQ.out.2; simp; omega))
                  replace HRV := Lib.hid (show At1 W21 r6 u6 by rw [← hWn]; exact At1.put1L HRV.out _)
                  clear hWn
                  refine hK.out _ _ ?_ (fun hHeld => ?_)
                  · exact ⟨HP.out.2.1, HP.out.2.2.1, HQ.out.2.1, HQ.out.2.2.1⟩
                  clear hK K
                  refine wpAnyH_take (i := 12) (v := ?_) rfl (by kernel_rfl) (by kernel_rfl) (by kernel_rfl) (fun _ _ _ h => absurd h.1 (by simp)) (Or.inl ⟨by rfl, ?_⟩) (by assumption) ?_
                  rotate_left
                  · (intro w hSw; (try dsimp only at hSw); go_simp; try with_reducible rfl)
                  simp only [Act.put, List.getElem_toArray, List.getElem_cons_succ, List.getElem_cons_zero, List.setIfInBounds_toArray, List.set_cons_zero, List.set_cons_succ]
                  refine wpAnyH_done (by kernel_rfl) ?_ _
                  clear hHeld
                  refine ⟨rfl, ux, uy, np, nq, u6, r6, ?_, HU6.out, HRV.out, HW0.out⟩
                  first | rfl | kernel_rfl
                exact AllReadyH.nil
              exact AllReadyH.nil
            exact AllReadyH.nil
          exact AllReadyH.nil
        exact AllReadyH.nil
      exact AllReadyH.nil
    refine AllReadyH.cons (o := _) rfl (fun K hK => ?_) ?_
    · clear hHeld
      go_simp
      obtain ⟨W15, hWn⟩ : ∃ xw9, W14.alloc (.cells #[.nilIface] 31) = xw9 := ⟨_, rfl⟩
      have hB : Below W14.heap.size W14 W15 := by rw [← hWn]; exact below_new _ _
      have hNB : At1 W15 W14.heap.size .nilIface := by rw [← hWn]; exact At1.new _ _ _
      have hbk : w5.heap.size ≤ W14.heap.size := HW0.out.size
      rw [hWn]
      clear hWn
      obtain ⟨r6, hnm⟩ : ∃ x, W14.heap.size = x := ⟨_, rfl⟩
      rw [hnm] at hNB hbk ⊢
      replace HT := Lib.hid (fun j hj => keep_below hB _ _ (HT.out j hj))
      replace Hvp := Lib.hid (Hvp.out.keep (keep_below hB))
      replace Hvq := Lib.hid (Hvq.out.keep (keep_below hB))
      replace HP := Lib.hid (HP.out.below hB)
      replace HQ := Lib.hid (HQ.out.below hB)
      replace HW0 := Lib.hid (HW0.out.trans (hB.mono HW0.out.size))
      have HRV := Lib.hid hNB
      have HBK := Lib.hid hbk
      clear hNB hB hnm hbk
      refine hK.out _ _ ?_ (fun hHeld => ?_)
      · exact ⟨HP.out.2.1, HP.out.2.2.1, HQ.out.2.1, HQ.out.2.2.1⟩
      clear hK K
      refine wpAnyH_ready (rs := [1]) (by kernel_rfl) (by simp) ?_
      refine AllReadyH.cons (o := _) rfl (fun K hK => ?_) ?_
      · clear hHeld
        go_simp
        refine (not_calls _ a _ Hvp.out HLA.out).mono ?_
        rintro e W16 ⟨np, rfl, hnp, hB⟩
        replace HT := Lib.hid (fun j hj => keep_below hB _ _ (HT.out j hj))
        replace Hvp := Lib.hid (Hvp.out.keep (keep_below hB))
        replace Hvq := Lib.hid (Hvq.out.keep (keep_below hB))
        replace HP := Lib.hid (HP.out.below hB)
        replace HQ := Lib.hid (HQ.out.below hB)
        replace HW0 := Lib.hid (HW0.out.trans (hB.mono HW0.out.size))
        replace HRV := Lib.hid (HRV.out.below hB)
        rw [HNA.out] at hnp
        have Hnp := Lib.hid hnp
        clear hnp
        clear hB
        refine hK.out _ _ ?_ (fun hHeld => ?_)
        · exact ⟨HP.out.2.1, HP.out.2.2.1, HQ.out.2.1, HQ.out.2.2.1⟩
        clear hK K
        refine wpAnyH_ready (rs := [2]) (by kernel_rfl) (by simp) ?_
        refine AllReadyH.cons (o := _) rfl (fun K hK => ?_) ?_
        · clear hHeld
          go_simp
          refine (vbits_calls _ na _ Hnp.out HNAM.out).mono ?_
          rintro e W17 ⟨ux, rfl, hux, hB⟩
          replace HT := Lib.hid (fun j hj => keep_below hB _ _ (HT.out j hj))
          replace Hvp := Lib.hid (Hvp.out.keep (keep_below hB))
          replace Hvq := Lib.hid (Hvq.out.keep (keep_below hB))
          replace HP := Lib.hid (HP.out.below hB)
          replace HQ := Lib.hid (HQ.out.below hB)
          replace HW0 := Lib.hid (HW0.out.trans (hB.mono HW0.out.size))
          replace HRV := Lib.hid (HRV.out.below hB)
          replace Hnp := Lib.hid (Hnp.out.keep (keep_below hB))
          have Hux := Lib.hid (IsV.any hux)
          have hsux := hux.store
          clear hux
          clear hB
          refine hK.out _ _ ?_ (fun hHeld => ?_)
          · exact ⟨HP.out.2.1, HP.out.2.2.1, HQ.out.2.1, HQ.out.2.2.1⟩
          clear hK K
          refine wpAnyH_ready (rs := [4]) (by kernel_rfl) (by simp) ?_
          refine AllReadyH.cons (o := _) rfl (fun K hK => ?_) ?_
          · clear hHeld
            go_simp
            refine (not_calls _ b _ Hvq.out HBM.out).mono ?_
            rintro e W18 ⟨nq, rfl, hnq, hB⟩
            replace HT := Lib.hid (fun j hj => keep_below hB _ _ (HT.out j hj))
            replace Hvp := Lib.hid (Hvp.out.keep (keep_below hB))
            replace Hvq := Lib.hid (Hvq.out.keep (keep_below hB))
            replace HP := Lib.hid (HP.out.below hB)
            replace HQ := Lib.hid (HQ.out.below hB)
            replace HW0 := Lib.hid (HW0.out.trans (hB.mono HW0.out.size))
            replace HRV := Lib.hid (HRV.out.below hB)
            replace Hnp := Lib.hid (Hnp.out.keep (keep_below hB))
            replace Hux := Lib.hid (Hux.out.grow hB)
            rw [HNB.out] at hnq
            have Hnq := Lib.hid hnq
            clear hnq
            clear hB
            refine hK.out _ _ ?_ (fun hHeld => ?_)
            · exact ⟨HP.out.2.1, HP.out.2.2.1, HQ.out.2.1, HQ.out.2.2.1⟩
            clear hK K
            refine wpAnyH_ready (rs := [5]) (by kernel_rfl) (by simp) ?_
            refine AllReadyH.cons (o := _) rfl (fun K hK => ?_) ?_
            · clear hHeld
              go_simp
              refine (vbits_calls _ nb _ Hnq.out HNBM.out).mono ?_
              rintro e W19 ⟨uy, rfl, huy, hB⟩
              replace HT := Lib.hid (fun j hj => keep_below hB _ _ (HT.out j hj))
              replace Hvp := Lib.hid (Hvp.out.keep (keep_below hB))
              replace Hvq := Lib.hid (Hvq.out.keep (keep_below hB))
              replace HP := Lib.hid (HP.out.below hB)
              replace HQ := Lib.hid (HQ.out.below hB)
              replace HW0 := Lib.hid (HW0.out.trans (hB.mono HW0.out.size))
              replace HRV := Lib.hid (HRV.out.below hB)
              replace Hnp := Lib.hid (Hnp.out.keep (keep_below hB))
              replace Hux := Lib.hid (Hux.out.grow hB)
              replace Hnq := Lib.hid (Hnq.out.keep (keep_below hB))
              have Huy := Lib.hid (IsV.any huy)
              have hsuy := huy.store
              clear huy
              clear hB
              refine hK.out _ _ ?_ (fun hHeld => ?_)
              · exact ⟨HP.out.2.1, HP.out.2.2.1, HQ.out.2.1, HQ.out.2.2.1⟩
              clear hK K
              refine wpAnyH_ready (rs := [6]) (by kernel_rfl) (by simp) ?_
              refine AllReadyH.cons (o := _) rfl (fun K hK => ?_) ?_
              · clear hHeld
                go_simp
                refine (loapply_calls 22 _ _ (.bits na) (.bits nb) _ Hux.out Huy.out HNAM.out HNBM.out trivial trivial HT.out).mono ?_
                rintro e W20 ⟨u6, rfl, hu6, hB⟩
                replace HT := Lib.hid (fun j hj => keep_below hB _ _ (HT.out j hj))
                replace Hvp := Lib.hid (Hvp.out.keep (keep_below hB))
                replace Hvq := Lib.hid (Hvq.out.keep (keep_below hB))
                replace HP := Lib.hid (HP.out.below hB)
                replace HQ := Lib.hid (HQ.out.below hB)
                replace HW0 := Lib.hid (HW0.out.trans (hB.mono HW0.out.size))
                replace HRV := Lib.hid (HRV.out.below hB)
                replace Hnp := Lib.hid (Hnp.out.keep (keep_below hB))
                replace Hux := Lib.hid (Hux.out.grow hB)
                replace Hnq := Lib.hid (Hnq.out.keep (keep_below hB))
                replace Huy := Lib.hid (Huy.out.grow hB)
                rw [HZ3.out.1]
                rw [HZ3.out.2] at hu6
                have HU6 := Lib.hid (IsV.any hu6)
                have hsu6 := hu6.store
                clear hu6
                clear hB
                refine hK.out _ _ ?_ (fun hHeld => ?_)
                · exact ⟨HP.out.2.1, HP.out.2.2.1, HQ.out.2.1, HQ.out.2.2.1⟩
                clear hK K
                refine wpAnyH_take (i := 7) (v := ?_) rfl (by kernel_rfl) (by kernel_rfl) (by kernel_rfl) (fun _ _ _ h => absurd h.1 (by simp)) (Or.inl ⟨by rfl, ?_⟩) (by assumption) ?_
                rotate_left
                · (intro w hSw; (try dsimp only at hSw); go_simp; try with_reducible rfl)
                simp only [Act.put, List.getElem_toArray, List.getElem_cons_succ, List.getElem_cons_zero, List.setIfInBounds_toArray, List.set_cons_zero, List.set_cons_succ]
                refine wpAnyH_take (i := 8) (v := ?_) rfl (by kernel_rfl) (by kernel_rfl) (by kernel_rfl) (fun _ _ _ h => absurd h.1 (by simp)) (Or.inl ⟨by rfl, ?_⟩) (by assumption) ?_
                rotate_left
                · (intro w hSw; (try dsimp only at hSw); go_simp; try with_reducible rfl)
                simp only [Act.put, List.getElem_toArray, List.getElem_cons_succ, List.getElem_cons_zero, List.setIfInBounds_toArray, List.set_cons_zero, List.set_cons_succ]
                refine wpAnyH_take (i := 9) (v := ?_) rfl (by kernel_rfl) (by kernel_rfl) (by kernel_rfl) (fun _ _ _ h => absurd h.1 (by simp)) (Or.inl ⟨by rfl, ?_⟩) (by assumption) ?_
                rotate_left
                · (intro w hSw; (try dsimp only at hSw); go_simp; try with_reducible rfl)
                simp only [Act.put, List.getElem_toArray, List.getElem_cons_succ, List.getElem_cons_zero, List.setIfInBounds_toArray, List.set_cons_zero, List.set_cons_succ]
                refine wpAnyH_ready (rs := [11]) (by kernel_rfl) (by simp) ?_
                refine AllReadyH.cons (o := _) rfl (fun K hK => ?_) ?_
                · clear hHeld
                  have s0 := HRV.out.2.1
                  have t0 := HRV.out.2.2 0
                  go_simp
                  clear s0 t0
                  obtain ⟨W21, hWn⟩ : ∃ xw9, W20.setCell ⟨r6, 0, none⟩ u6 = xw9 := ⟨_, rfl⟩
                  rw [hWn]
                  replace HU6 := Lib.hid (show IsV W21 (fun _ => True) u6 (.bits Y) by rw [← hWn]; exact HU6.out.bits_set HRV.out.2.1 (.inl rfl) _)
                  replace HW0 := Lib.hid (show Below w5.heap.size w5 W21 by rw [← hWn]; exact HW0.out.setCell HBK.out _)
                  replace HP := Lib.hid (show At2 W21 pb _ _ by rw [← hWn]; exact HP.out.grown (grown_setCell _ ⟨r6, 0, none⟩ _) (by have := HBK.out; have := HPQ.out.1; simp; omega))
                  replace HQ := Lib.hid (show At2 W21 qb _ _ by rw [← hWn]; exact HQ.out.grown (grown_setCell _ ⟨r6, 0, none⟩ _) (by have := HBK.out; have := HPQ.out.2; simp; omega))
                  replace HRV := Lib.hid (show At1 W21 r6 u6 by rw [← hWn]; exact At1.put1L HRV.out _)
                  clear hWn
                  refine hK.out _ _ ?_ (fun hHeld => ?_)
                  · exact ⟨HP.out.2.1, HP.out.2.2.1, HQ.out.2.1, HQ.out.2.2.1⟩
                  clear hK K
                  refine wpAnyH_take (i := 12) (v := ?_) rfl (by kernel_rfl) (by kernel_rfl) (by kernel_rfl) (fun _ _ _ h => absurd h.1 (by simp)) (Or.inl ⟨by rfl, ?_⟩) (by assumption) ?_
                  rotate_left
                  · (intro w hSw; (try dsimp only at hSw); go_simp; try with_reducible rfl)
                  simp only [Act.put, List.getElem_toArray, List.getElem_cons_succ, List.getElem_cons_zero, List.setIfInBounds_toArray, List.set_cons_zero, List.set_cons_succ]
                  refine wpAnyH_done (by kernel_rfl) ?_ _
                  clear hHeld
                  refine ⟨rfl, ux, uy, np, nq, u6, r6, ?_, HU6.out, HRV.out, HW0.out⟩
                  first | rfl | kernel_rfl
                exact AllReadyH.nil
              exact AllReadyH.nil
            exact AllReadyH.nil
          exact AllReadyH.nil
        exact AllReadyH.nil
      exact AllReadyH.nil
    exact AllReadyH.nil
  rintro _ w6 ⟨ux, uy, np, nq, u6, r6, rfl, hU6, hA6, hB⟩
  have HU6 := Lib.hid hU6
  have HA6 := Lib.hid hA6
  have hsu6 := hU6.store
  clear hU6 hA6
  replace HB := Lib.hid (HB.out.trans (hB.mono HB.out.size))
  replace HT := Lib.hid (fun j hj => keep_below hB _ _ (HT.out j hj))
  replace Hvp := Lib.hid (Hvp.out.keep (keep_below hB))
  replace Hvq := Lib.hid (Hvq.out.keep (keep_below hB))
  replace HP := Lib.hid (HP.out.below hB)
  replace HQ := Lib.hid (HQ.out.below hB)
  replace HU4 := Lib.hid (HU4.out.grow hB)
  replace HA4 := Lib.hid (HA4.out.below hB)
  replace HU5 := Lib.hid (HU5.out.grow hB)
  replace HA5 := Lib.hid (HA5.out.below hB)
  clear hB
  simp only [Act.put, List.setIfInBounds_toArray, List.set_cons_zero, List.set_cons_succ]
  have cHP0 := HP.out.2.1
  have cHP1 := HP.out.2.2.1
  have cHQ0 := HQ.out.2.1
  have cHQ1 := HQ.out.2.2.1
  have cHA40 := HA4.out.2.1
  have cHA50 := HA5.out.2.1
  have cHA60 := HA6.out.2.1
  go_wp2_with fail
  clear cHP0 cHP1 cHQ0 cHQ1 cHA40 cHA50 cHA60
  refine wp_mid (fun s0 s1 w' => ∃ (ux uy np nq u7 : Value) (r7 : Nat), s1 = ((((((((((((s0.put (some 65) (.agg #[.int .i64 a.length, .slice ap ((a.length + 63) / 64) cp])).put (some 66) np).put (some 67) (.agg #[ux])).put (some 68) (.agg #[.int .i64 b.length, .slice aq ((b.length + 63) / 64) cq])).put (some 69) nq).put (some 70) (.agg #[uy])).put (some 71) (.tuple #[.agg #[u7], .int .i64 0])).put (some 64) (.tuple #[.agg #[u7], .int .i64 0])).put (some 72) (.agg #[u7])).put (some 73) (.int .i64 0)).put (some 13) (.pointer (some ⟨r7, 0, none⟩))).put (some 14) (.int .i64 0)) ∧ IsV w' (fun _ => True) u7 (.bits X) ∧ At1 w' r7 u7 ∧ Below w6.heap.size w6 w') ?_ ?_
  · have HW0 := Lib.hid (Below.refl w6.heap.size w6)
    have HPQ := Lib.hid (show pb < w6.heap.size ∧ qb < w6.heap.size from ⟨HP.out.1, HQ.out.1⟩)
    obtain ⟨W14, hWD⟩ : ∃ xw9, w6.drew = xw9 := ⟨_, rfl⟩
    have hB : Below w6.heap.size w6 W14 := by rw [← hWD]; exact Below.drewN' (Below.refl _ _) 1
    replace HT := Lib.hid (fun j hj => keep_below hB _ _ (HT.out j hj))
    replace Hvp := Lib.hid (Hvp.out.keep (keep_below hB))
    replace Hvq := Lib.hid (Hvq.out.keep (keep_below hB))
    replace HP := Lib.hid (HP.out.below hB)
    replace HQ := Lib.hid (HQ.out.below hB)
    replace HW0 := Lib.hid (HW0.out.trans (hB.mono HW0.out.size))
    clear hB
    refine wp_region_held_drew (S := fun w' => w'.cell? ⟨pb, 0, none⟩ = some (.int .i64 a.length) ∧ w'.cell? ⟨pb, 1, none⟩ = some (.slice ap ((a.length + 63) / 64) cp) ∧ w'.cell? ⟨qb, 0, none⟩ = some (.int .i64 b.length) ∧ w'.cell? ⟨qb, 1, none⟩ = some (.slice aq ((b.length + 63) / 64) cq)) (by kernel_rfl) (by rw [hWD]; exact ⟨HP.out.2.1, HP.out.2.2.1, HQ.out.2.1, HQ.out.2.2.1⟩) (fun hHeld => ?_)
    rw [hWD] at hHeld ⊢
    clear hWD
    refine wpAnyH_take (i := 0) (v := ?_) rfl (by kernel_rfl) (by kernel_rfl) (by kernel_rfl) (fun _ _ _ h => absurd h.1 (by simp)) (Or.inl ⟨by rfl, ?_⟩) (by assumption) ?_
    rotate_left
    · (intro w hSw; (try dsimp only at hSw); go_simp; try with_reducible rfl)
    simp only [Act.put, List.getElem_toArray, List.getElem_cons_zero, List.setIfInBounds_toArray, List.set_cons_zero, List.set_cons_succ]
    refine wpAnyH_take (i := 3) (v := ?_) rfl (by kernel_rfl) (by kernel_rfl) (by kernel_rfl) (fun _ _ _ h => absurd h.1 (by simp)) (Or.inl ⟨by rfl, ?_⟩) (by assumption) ?_
    rotate_left
    · (intro w hSw; (try dsimp only at hSw); go_simp; try with_reducible rfl)
    simp only [Act.put, List.getElem_toArray, List.getElem_cons_succ, List.getElem_cons_zero, List.setIfInBounds_toArray, List.set_cons_zero, List.set_cons_succ]
    refine wpAnyH_ready (rs := [1, 10]) (by kernel_rfl) (by simp) ?_
    refine AllReadyH.cons (o := _) rfl (fun K hK => ?_) ?_
    · clear hHeld
      go_simp
      refine (not_calls _ a _ Hvp.out HLA.out).mono ?_
      rintro e W15 ⟨np, rfl, hnp, hB⟩
      replace HT := Lib.hid (fun j hj => keep_below hB _ _ (HT.out j hj))
      replace Hvp := Lib.hid (Hvp.out.keep (keep_below hB))
      replace Hvq := Lib.hid (Hvq.out.keep (keep_below hB))
      replace HP := Lib.hid (HP.out.below hB)
      replace HQ := Lib.hid (HQ.out.below hB)
      replace HW0 := Lib.hid (HW0.out.trans (hB.mono HW0.out.size))
      rw [HNA.out] at hnp
      have Hnp := Lib.hid hnp
      clear hnp
      clear hB
      refine hK.out _ _ ?_ (fun hHeld => ?_)
      · exact ⟨HP.out.2.1, HP.out.2.2.1, HQ.out.2.1, HQ.out.2.2.1⟩
      clear hK K
      refine wpAnyH_ready (rs := [2, 10]) (by kernel_rfl) (by simp) ?_
      refine AllReadyH.cons (o := _) rfl (fun K hK => ?_) ?_
      · clear hHeld
        go_simp
        refine (vbits_calls _ na _ Hnp.out HNAM.out).mono ?_
        rintro e W16 ⟨ux, rfl, hux, hB⟩
        replace HT := Lib.hid (fun j hj => keep_below hB _ _ (HT.out j hj))
        replace Hvp := Lib.hid (Hvp.out.keep (keep_below hB))
        replace Hvq := Lib.hid (Hvq.out.keep (keep_below hB))
        replace HP := Lib.hid (HP.out.below hB)
        replace HQ := Lib.hid (HQ.out.below hB)
        replace HW0 := Lib.hid (HW0.out.trans (hB.mono HW0.out.size))
        replace Hnp := Lib.hid (Hnp.out.keep (keep_below hB))
        have Hux := Lib.hid (IsV.any hux)
        have hsux := hux.store
        clear hux
        clear hB
        refine hK.out _ _ ?_ (fun hHeld => ?_)
        · exact ⟨HP.out.2.1, HP.out.2.2.1, HQ.out.2.1, HQ.out.2.2.1⟩
        clear hK K
        refine wpAnyH_ready (rs := [4, 10]) (by kernel_rfl) (by simp) ?_
        refine AllReadyH.cons (o := _) rfl (fun K hK => ?_) ?_
        · clear hHeld
          go_simp
          refine (not_calls _ b _ Hvq.out HBM.out).mono ?_
          rintro e W17 ⟨nq, rfl, hnq, hB⟩
          replace HT := Lib.hid (fun j hj => keep_below hB _ _ (HT.out j hj))
          replace Hvp := Lib.hid (Hvp.out.keep (keep_below hB))
          replace Hvq := Lib.hid (Hvq.out.keep (keep_below hB))
          replace HP := Lib.hid (HP.out.below hB)
          replace HQ := Lib.hid (HQ.out.below hB)
          replace HW0 := Lib.hid (HW0.out.trans (hB.mono HW0.out.size))
          replace Hnp := Lib.hid (Hnp.out.keep (keep_below hB))
          replace Hux := Lib.hid (Hux.out.grow hB)
          rw [HNB.out] at hnq
          have Hnq := Lib.hid hnq
          clear hnq
          clear hB
          refine hK.out _ _ ?_ (fun hHeld => ?_)
          · exact ⟨HP.out.2.1, HP.out.2.2.1, HQ.out.2.1, HQ.out.2.2.1⟩
          clear hK K
          refine wpAnyH_ready (rs := [5, 10]) (by kernel_rfl) (by simp) ?_
          refine AllReadyH.cons (o := _) rfl (fun K hK => ?_) ?_
          · clear hHeld
            go_simp
            refine (vbits_calls _ nb _ Hnq.out HNBM.out).mono ?_
            rintro e W18 ⟨uy, rfl, huy, hB⟩
            replace HT := Lib.hid (fun j hj => keep_below hB _ _ (HT.out j hj))
            replace Hvp := Lib.hid (Hvp.out.keep (keep_below hB))
            replace Hvq := Lib.hid (Hvq.out.keep (keep_below hB))
            replace HP := Lib.hid (HP.out.below hB)
            replace HQ := Lib.hid (HQ.out.below hB)
            replace HW0 := Lib.hid (HW0.out.trans (hB.mono HW0.out.size))
            replace Hnp := Lib.hid (Hnp.out.keep (keep_below hB))
            replace Hux := Lib.hid (Hux.out.grow hB)
            replace Hnq := Lib.hid (Hnq.out.keep (keep_below hB))
            have Huy := Lib.hid (IsV.any huy)
            have hsuy := huy.store
            clear huy
            clear hB
            refine hK.out _ _ ?_ (fun hHeld => ?_)
            · exact ⟨HP.out.2.1, HP.out.2.2.1, HQ.out.2.1, HQ.out.2.2.1⟩
            clear hK K
            refine wpAnyH_ready (rs := [6, 10]) (by kernel_rfl) (by simp) ?_
            refine AllReadyH.cons (o := _) rfl (fun K hK => ?_) ?_
            · clear hHeld
              go_simp
              refine (loapply_calls 24 _ _ (.bits na) (.bits nb) _ Hux.out Huy.out HNAM.out HNBM.out trivial trivial HT.out).mono ?_
              rintro e W19 ⟨u7, rfl, hu7, hB⟩
              replace HT := Lib.hid (fun j hj => keep_below hB _ _ (HT.out j hj))
              replace Hvp := Lib.hid (Hvp.out.keep (keep_below hB))
              replace Hvq := Lib.hid (Hvq.out.keep (keep_below hB))
              replace HP := Lib.hid (HP.out.below hB)
              replace HQ := Lib.hid (HQ.out.below hB)
              replace HW0 := Lib.hid (HW0.out.trans (hB.mono HW0.out.size))
              replace Hnp := Lib.hid (Hnp.out.keep (keep_below hB))
              replace Hux := Lib.hid (Hux.out.grow hB)
              replace Hnq := Lib.hid (Hnq.out.keep (keep_below hB))
              replace Huy := Lib.hid (Huy.out.grow hB)
              rw [HZ4.out.1]
              rw [HZ4.out.2] at hu7
              have HU7 := Lib.hid (IsV.any hu7)
              have hsu7 := hu7.store
              clear hu7
              clear hB
              refine hK.out _ _ ?_ (fun hHeld => ?_)
              · exact ⟨HP.out.2.1, HP.out.2.2.1, HQ.out.2.1, HQ.out.2.2.1⟩
              clear hK K
              refine wpAnyH_take (i := 7) (v := ?_) rfl (by kernel_rfl) (by kernel_rfl) (by kernel_rfl) (fun _ _ _ h => absurd h.1 (by simp)) (Or.inl ⟨by rfl, ?_⟩) (by assumption) ?_
              rotate_left
              · (intro w hSw; (try dsimp only at hSw); go_simp; try with_reducible rfl)
              simp only [Act.put, List.getElem_toArray, List.getElem_cons_succ, List.getElem_cons_zero, List.setIfInBounds_toArray, List.set_cons_zero, List.set_cons_succ]
              refine wpAnyH_take (i := 8) (v := ?_) rfl (by kernel_rfl) (by kernel_rfl) (by kernel_rfl) (fun _ _ _ h => absurd h.1 (by simp)) (Or.inl ⟨by rfl, ?_⟩) (by assumption) ?_
              rotate_left
              · (intro w hSw; (try dsimp only at hSw); go_simp; try with_reducible rfl)
              simp only [Act.put, List.getElem_toArray, List.getElem_cons_succ, List.getElem_cons_zero, List.setIfInBounds_toArray, List.set_cons_zero, List.set_cons_succ]
              refine wpAnyH_take (i := 9) (v := ?_) rfl (by kernel_rfl) (by kernel_rfl) (by kernel_rfl) (fun _ _ _ h => absurd h.1 (by simp)) (Or.inl ⟨by rfl, ?_⟩) (by assumption) ?_
              rotate_left
              · (intro w hSw; (try dsimp only at hSw); go_simp; try with_reducible rfl)
              simp only [Act.put, List.getElem_toArray, List.getElem_cons_succ, List.getElem_cons_zero, List.setIfInBounds_toArray, List.set_cons_zero, List.set_cons_succ]
              refine wpAnyH_ready (rs := [10]) (by kernel_rfl) (by simp) ?_
              refine AllReadyH.cons (o := _) rfl (fun K hK => ?_) ?_
              · clear hHeld
                go_simp
                obtain ⟨W20, hWn⟩ : ∃ xw9, W19.alloc (.cells #[.nilIface] 31) = xw9 := ⟨_, rfl⟩
                have hB : Below W19.heap.size W19 W20 := by rw [← hWn]; exact below_new _ _
                have hNB : At1 W20 W19.heap.size .nilIface := by rw [← hWn]; exact At1.new _ _ _
                have hbk : w6.heap.size ≤ W19.heap.size := HW0.out.size
                rw [hWn]
                clear hWn
                obtain ⟨r7, hnm⟩ : ∃ x, W19.heap.size = x := ⟨_, rfl⟩
                rw [hnm] at hNB hbk ⊢
                replace HT := Lib.hid (fun j hj => keep_below hB _ _ (HT.out j hj))
                replace Hvp := Lib.hid (Hvp.out.keep (keep_below hB))
                replace Hvq := Lib.hid (Hvq.out.keep (keep_below hB))
                replace HP := Lib.hid (HP.out.below hB)
                replace HQ := Lib.hid (HQ.out.below hB)
                replace HW0 := Lib.hid (HW0.out.trans (hB.mono HW0.out.size))
                replace Hnp := Lib.hid (Hnp.out.keep (keep_below hB))
                replace Hux := Lib.hid (Hux.out.grow hB)
                replace Hnq := Lib.hid (Hnq.out.keep (keep_below hB))
                replace Huy := Lib.hid (Huy.out.grow hB)
                replace HU7 := Lib.hid (HU7.out.grow hB)
                have HRV := Lib.hid hNB
                have HBK := Lib.hid hbk
                clear hNB hB hnm hbk
                refine hK.out _ _ ?_ (fun hHeld => ?_)
                · exact ⟨HP.out.2.1, HP.out.2.2.1, HQ.out.2.1, HQ.out.2.2.1⟩
                clear hK K
                refine wpAnyH_ready (rs := [11]) (by kernel_rfl) (by simp) ?_
                refine AllReadyH.cons (o := _) rfl (fun K hK => ?_) ?_
                · clear hHeld
                  have s0 := HRV.out.2.1
                  have t0 := HRV.out.2.2 0
                  go_simp
                  clear s0 t0
                  obtain ⟨W21, hWn⟩ : ∃ xw9, W20.setCell ⟨r7, 0, none⟩ u7 = xw9 := ⟨_, rfl⟩
                  rw [hWn]
                  replace HU7 := Lib.hid (show IsV W21 (fun _ => True) u7 (.bits X) by rw [← hWn]; exact HU7.out.bits_set HRV.out.2.1 (.inl rfl) _)
                  replace HW0 := Lib.hid (show Below w6.heap.size w6 W21 by rw [← hWn]; exact HW0.out.setCell HBK.out _)
                  replace HP := Lib.hid (show At2 W21 pb _ _ by rw [← hWn]; exact HP.out.grown (grown_setCell _ ⟨r7, 0, none⟩ _) (by have := HBK.out; have := HPQ.out.1; simp; omega))
                  replace HQ := Lib.hid (show At2 W21 qb _ _ by rw [← hWn]; exact HQ.out.grown (grown_setCell _ ⟨r7, 0, none⟩ _) (by have := HBK.out; have := HPQ.out.2; simp; omega))
                  replace HRV := Lib.hid (show At1 W21 r7 u7 by rw [← hWn]; exact At1.put1L HRV.out _)
                  clear hWn
                  refine hK.out _ _ ?_ (fun hHeld => ?_)
                  · exact ⟨HP.out.2.1, HP.out.2.2.1, HQ.out.2.1, HQ.out.2.2.1⟩
                  clear hK K
                  refine wpAnyH_take (i := 12) (v := ?_) rfl (by kernel_rfl) (by kernel_rfl) (by kernel_rfl) (fun _ _ _ h => absurd h.1 (by simp)) (Or.inl ⟨by rfl, ?_⟩) (by assumption) ?_
                  rotate_left
                  · (intro w hSw; (try dsimp only at hSw); go_simp; try with_reducible rfl)
                  simp only [Act.put, List.getElem_toArray, List.getElem_cons_succ, List.getElem_cons_zero, List.setIfInBounds_toArray, List.set_cons_zero, List.set_cons_succ]
                  refine wpAnyH_done (by kernel_rfl) ?_ _
                  clear hHeld
                  refine ⟨rfl, ux, uy, np, nq, u7, r7, ?_, HU7.out, HRV.out, HW0.out⟩
                  first | rfl | kernel_rfl
                exact AllReadyH.nil
              exact AllReadyH.nil
            refine AllReadyH.cons (o := _) rfl (fun K hK => ?_) ?_
            · clear hHeld
              go_simp
              obtain ⟨W19, hWn⟩ : ∃ xw9, W18.alloc (.cells #[.nilIface] 31) = xw9 := ⟨_, rfl⟩
              have hB : Below W18.heap.size W18 W19 := by rw [← hWn]; exact below_new _ _
              have hNB : At1 W19 W18.heap.size .nilIface := by rw [← hWn]; exact At1.new _ _ _
              have hbk : w6.heap.size ≤ W18.heap.size := HW0.out.size
              rw [hWn]
              clear hWn
              obtain ⟨r7, hnm⟩ : ∃ x, W18.heap.size = x := ⟨_, rfl⟩
              rw [hnm] at hNB hbk ⊢
              replace HT := Lib.hid (fun j hj => keep_below hB _ _ (HT.out j hj))
              replace Hvp := Lib.hid (Hvp.out.keep (keep_below hB))
              replace Hvq := Lib.hid (Hvq.out.keep (keep_below hB))
              replace HP := Lib.hid (HP.out.below hB)
              replace HQ := Lib.hid (HQ.out.below hB)
              replace HW0 := Lib.hid (HW0.out.trans (hB.mono HW0.out.size))
              replace Hnp := Lib.hid (Hnp.out.keep (keep_below hB))
              replace Hux := Lib.hid (Hux.out.grow hB)
              replace Hnq := Lib.hid (Hnq.out.keep (keep_below hB))
              replace Huy := Lib.hid (Huy.out.grow hB)
              have HRV := Lib.hid hNB
              have HBK := Lib.hid hbk
              clear hNB hB hnm hbk
              refine hK.out _ _ ?_ (fun hHeld => ?_)
              · exact ⟨HP.out.2.1, HP.out.2.2.1, HQ.out.2.1, HQ.out.2.2.1⟩
              clear hK K
              refine wpAnyH_ready (rs := [6]) (by kernel_rfl) (by simp) ?_
              refine AllReadyH.cons (o := _) rfl (fun K hK => ?_) ?_
              · clear hHeld
                go_simp
                refine (loapply_calls 24 _ _ (.bits na) (.bits nb) _ Hux.out Huy.out HNAM.out HNBM.out trivial trivial HT.out).mono ?_
                rintro e W20 ⟨u7, rfl, hu7, hB⟩
                replace HT := Lib.hid (fun j hj => keep_below hB _ _ (HT.out j hj))
                replace Hvp := Lib.hid (Hvp.out.keep (keep_below hB))
                replace Hvq := Lib.hid (Hvq.out.keep (keep_below hB))
                replace HP := Lib.hid (HP.out.below hB)
                replace HQ := Lib.hid (HQ.out.below hB)
                replace HW0 := Lib.hid (HW0.out.trans (hB.mono HW0.out.size))
                replace Hnp := Lib.hid (Hnp.out.keep (keep_below hB))
                replace Hux := Lib.hid (Hux.out.grow hB)
                replace Hnq := Lib.hid (Hnq.out.keep (keep_below hB))
                replace Huy := Lib.hid (Huy.out.grow hB)
                replace HRV := Lib.hid (HRV.out.below hB)
                rw [HZ4.out.1]
                rw [HZ4.out.2] at hu7
                have HU7 := Lib.hid (IsV.any hu7)
                have hsu7 := hu7.store
                clear hu7
                clear hB
                refine hK.out _ _ ?_ (fun hHeld => ?_)
                · exact ⟨HP.out.2.1, HP.out.2.2.1, HQ.out.2.1, HQ.out.2.2.1⟩
                clear hK K
                refine wpAnyH_take (i := 7) (v := ?_) rfl (by kernel_rfl) (by kernel_rfl) (by kernel_rfl) (fun _ _ _ h => absurd h.1 (by simp)) (Or.inl ⟨by rfl, ?_⟩) (by assumption) ?_
                rotate_left
                · (intro w hSw; (try dsimp only at hSw); go_simp; try with_reducible rfl)
                simp only [Act.put, List.getElem_toArray, List.getElem_cons_succ, List.getElem_cons_zero, List.setIfInBounds_toArray, List.set_cons_zero, List.set_cons_succ]
                refine wpAnyH_take (i := 8) (v := ?_) rfl (by kernel_rfl) (by kernel_rfl) (by kernel_rfl) (fun _ _ _ h => absurd h.1 (by simp)) (Or.inl ⟨by rfl, ?_⟩) (by assumption) ?_
                rotate_left
                · (intro w hSw; (try dsimp only at hSw); go_simp; try with_reducible rfl)
                simp only [Act.put, List.getElem_toArray, List.getElem_cons_succ, List.getElem_cons_zero, List.setIfInBounds_toArray, List.set_cons_zero, List.set_cons_succ]
                refine wpAnyH_take (i := 9) (v := ?_) rfl (by kernel_rfl) (by kernel_rfl) (by kernel_rfl) (fun _ _ _ h => absurd h.1 (by simp)) (Or.inl ⟨by rfl, ?_⟩) (by assumption) ?_
                rotate_left
                · (intro w hSw; (try dsimp only at hSw); go_simp; try with_reducible rfl)
                simp only [Act.put, List.getElem_toArray, List.getElem_cons_succ, List.getElem_cons_zero, List.setIfInBounds_toArray, List.set_cons_zero, List.set_cons_succ]
                refine wpAnyH_ready (rs := [11]) (by kernel_rfl) (by simp) ?_
                refine AllReadyH.cons (o := _) rfl (fun K hK => ?_) ?_
                · clear hHeld
                  have s0 := HRV.out.2.1
                  have t0 := HRV.out.2.2 0
                  go_simp
                  clear s0 t0
                  obtain ⟨W21, hWn⟩ : ∃ xw9, W20.setCell ⟨r7, 0, none⟩ u7 = xw9 := ⟨_, rfl⟩
                  rw [hWn]
                  replace HU7 := Lib.hid (show IsV W21 (fun _ => True) u7 (.bits X) by rw [← hWn]; exact HU7.out.bits_set HRV.out.2.1 (.inl rfl) _)
                  replace HW0 := Lib.hid (show Below w6.heap.size w6 W21 by rw [← hWn]; exact HW0.out.setCell HBK.out _)
                  replace HP := Lib.hid (show At2 W21 pb _ _ by rw [← hWn]; exact HP.out.grown (grown_setCell _ ⟨r7, 0, none⟩ _) (by have := HBK.out; have := HPQ.out.1; simp; omega))
                  replace HQ := Lib.hid (show At2 W21 qb _ _ by rw [← hWn]; exact HQ.out.grown (grown_setCell _ ⟨r7, 0, none⟩ _) (by have := HBK.out; have := HPQ.out.2; simp; omega))
                  replace HRV := Lib.hid (show At1 W21 r7 u7 by rw [← hWn]; exact At1.put1L HRV.out _)
                  clear hWn
                  refine hK.out _ _ ?_ (fun hHeld => ?_)
                  · exact ⟨HP.out.2.1, HP.out.2.2.1, HQ.out.2.1, HQ.out.2.2.1⟩
                  clear hK K
                  refine wpAnyH_take (i := 12) (v := ?_) rfl (by kernel_rfl) (by kernel_rfl) (by kernel_rfl) (fun _ _ _ h => absurd h.1 (by simp)) (Or.inl ⟨by rfl, ?_⟩) (by assumption) ?_
                  rotate_left
                  · (intro w hSw; (try dsimp only at hSw); go_simp; try with_reducible rfl)
                  simp only [Act.put, List.getElem_toArray, List.getElem_cons_succ, List.getElem_cons_zero, List.setIfInBounds_toArray, List.set_cons_zero, List.set_cons_succ]
                  refine wpAnyH_done (by kernel_rfl) ?_ _
                  clear hHeld
                  refine ⟨rfl, ux, uy, np, nq, u7, r7, ?_, HU7.out, HRV.out, HW0.out⟩
                  first | rfl | kernel_rfl
                exact AllReadyH.nil
              exact AllReadyH.nil
            exact AllReadyH.nil
          refine AllReadyH.cons (o := _) rfl (fun K hK => ?_) ?_
          · clear hHeld
            go_simp
            obtain ⟨W18, hWn⟩ : ∃ xw9, W17.alloc (.cells #[.nilIface] 31) = xw9 := ⟨_, rfl⟩
            have hB : Below W17.heap.size W17 W18 := by rw [← hWn]; exact below_new _ _
            have hNB : At1 W18 W17.heap.size .nilIface := by rw [← hWn]; exact At1.new _ _ _
            have hbk : w6.heap.size ≤ W17.heap.size := HW0.out.size
            rw [hWn]
            clear hWn
            obtain ⟨r7, hnm⟩ : ∃ x, W17.heap.size = x := ⟨_, rfl⟩
            rw [hnm] at hNB hbk ⊢
            replace HT := Lib.hid (fun j hj => keep_below hB _ _ (HT.out j hj))
            replace Hvp := Lib.hid (Hvp.out.keep (keep_below hB))
            replace Hvq := Lib.hid (Hvq.out.keep (keep_below hB))
            replace HP := Lib.hid (HP.out.below hB)
            replace HQ := Lib.hid (HQ.out.below hB)
            replace HW0 := Lib.hid (HW0.out.trans (hB.mono HW0.out.size))
            replace Hnp := Lib.hid (Hnp.out.keep (keep_below hB))
            replace Hux := Lib.hid (Hux.out.grow hB)
            replace Hnq := Lib.hid (Hnq.out.keep (keep_below hB))
            have HRV := Lib.hid hNB
            have HBK := Lib.hid hbk
            clear hNB hB hnm hbk
            refine hK.out _ _ ?_ (fun hHeld => ?_)
            · exact ⟨HP.out.2.1, HP.out.2.2.1, HQ.out.2.1, HQ.out.2.2.1⟩
            clear hK K
            refine wpAnyH_ready (rs := [5]) (by kernel_rfl) (by simp) ?_
            refine AllReadyH.cons (o := _) rfl (fun K hK => ?_) ?_
            · clear hHeld
              go_simp
              refine (vbits_calls _ nb _ Hnq.out HNBM.out).mono ?_
              rintro e W19 ⟨uy, rfl, huy, hB⟩
              replace HT := Lib.hid (fun j hj => keep_below hB _ _ (HT.out j hj))
              replace Hvp := Lib.hid (Hvp.out.keep (keep_below hB))
              replace Hvq := Lib.hid (Hvq.out.keep (keep_below hB))
              replace HP := Lib.hid (HP.out.below hB)
              replace HQ := Lib.hid (HQ.out.below hB)
              replace HW0 := Lib.hid (HW0.out.trans (hB.mono HW0.out.size))
              replace Hnp := Lib.hid (Hnp.out.keep (keep_below hB))
              replace Hux := Lib.hid (Hux.out.grow hB)
              replace Hnq := Lib.hid (Hnq.out.keep (keep_below hB))
              replace HRV := Lib.hid (HRV.out.below hB)
              have Huy := Lib.hid (IsV.any huy)
              have hsuy := huy.store
              clear huy
              clear hB
              refine hK.out _ _ ?_ (fun hHeld => ?_)
              · exact ⟨HP.out.2.1, HP.out.2.2.1, HQ.out.2.1, HQ.out.2.2.1⟩
              clear hK K
              refine wpAnyH_ready (rs := [6]) (by kernel_rfl) (by simp) ?_
              refine AllReadyH.cons (o := _) rfl (fun K hK => ?_) ?_
              · clear hHeld
                go_simp
                refine (loapply_calls 24 _ _ (.bits na) (.bits nb) _ Hux.out Huy.out HNAM.out HNBM.out trivial trivial HT.out).mono ?_
                rintro e W20 ⟨u7, rfl, hu7, hB⟩
                replace HT := Lib.hid (fun j hj => keep_below hB _ _ (HT.out j hj))
                replace Hvp := Lib.hid (Hvp.out.keep (keep_below hB))
                replace Hvq := Lib.hid (Hvq.out.keep (keep_below hB))
                replace HP := Lib.hid (HP.out.below hB)
                replace HQ := Lib.hid (HQ.out.below hB)
                replace HW0 := Lib.hid (HW0.out.trans (hB.mono HW0.out.size))
                replace Hnp := Lib.hid (Hnp.out.keep (keep_below hB))
                replace Hux := Lib.hid (Hux.out.grow hB)
                replace Hnq := Lib.hid (Hnq.out.keep (keep_below hB))
                replace HRV := Lib.hid (HRV.out.below hB)
                replace Huy := Lib.hid (Huy.out.grow hB)
                rw [HZ4.out.1]
                rw [HZ4.out.2] at hu7
                have HU7 := Lib.hid (IsV.any hu7)
                have hsu7 := hu7.store
                clear hu7
                clear hB
                refine hK.out _ _ ?_ (fun hHeld => ?_)
                · exact ⟨HP.out.2.1, HP.out.2.2.1, HQ.out.2.1, HQ.out.2.2.1⟩
                clear hK K
                refine wpAnyH_take (i := 7) (v := ?_) rfl (by kernel_rfl) (by kernel_rfl) (by kernel_rfl) (fun _ _ _ h => absurd h.1 (by simp)) (Or.inl ⟨by rfl, ?_⟩) (by assumption) ?_
                rotate_left
                · (intro w hSw; (try dsimp only at hSw); go_simp; try with_reducible rfl)
                simp only [Act.put, List.getElem_toArray, List.getElem_cons_succ, List.getElem_cons_zero, List.setIfInBounds_toArray, List.set_cons_zero, List.set_cons_succ]
                refine wpAnyH_take (i := 8) (v := ?_) rfl (by kernel_rfl) (by kernel_rfl) (by kernel_rfl) (fun _ _ _ h => absurd h.1 (by simp)) (Or.inl ⟨by rfl, ?_⟩) (by assumption) ?_
                rotate_left
                · (intro w hSw; (try dsimp only at hSw); go_simp; try with_reducible rfl)
                simp only [Act.put, List.getElem_toArray, List.getElem_cons_succ, List.getElem_cons_zero, List.setIfInBounds_toArray, List.set_cons_zero, List.set_cons_succ]
                refine wpAnyH_take (i := 9) (v := ?_) rfl (by kernel_rfl) (by kernel_rfl) (by kernel_rfl) (fun _ _ _ h => absurd h.1 (by simp)) (Or.inl ⟨by rfl, ?_⟩) (by assumption) ?_
                rotate_left
                · (intro w hSw; (try dsimp only at hSw); go_simp; try with_reducible rfl)
                simp only [Act.put, List.getElem_toArray, List.getElem_cons_succ, List.getElem_cons_zero, List.setIfInBounds_toArray, List.set_cons_zero, List.set_cons_succ]
                refine wpAnyH_ready (rs := [11]) (by kernel_rfl) (by simp) ?_
                refine AllReadyH.cons (o := _) rfl (fun K hK => ?_) ?_
                · clear hHeld
                  have s0 := HRV.out.2.1
                  have t0 := HRV.out.2.2 0
                  go_simp
                  clear s0 t0
                  obtain ⟨W21, hWn⟩ : ∃ xw9, W20.setCell ⟨r7, 0, none⟩ u7 = xw9 := ⟨_, rfl⟩
                  rw [hWn]
                  replace HU7 := Lib.hid (show IsV W21 (fun _ => True) u7 (.bits X) by rw [← hWn]; exact HU7.out.bits_set HRV.out.2.1 (.inl rfl) _)
                  replace HW0 := Lib.hid (show Below w6.heap.size w6 W21 by rw [← hWn]; exact HW0.out.setCell HBK.out _)
                  replace HP := Lib.hid (show At2 W21 pb _ _ by rw [← hWn]; exact HP.out.grown (grown_setCell _ ⟨r7, 0, none⟩ _) (by have := HBK.out; have := HPQ.out.1; simp; omega))
                  replace HQ := Lib.hid (show At2 W21 qb _ _ by rw [← hWn]; exact HQ.out.grown (grown_setCell _ ⟨r7, 0, none⟩ _) (by have := HBK.out; have := HPQ.out.2; simp; omega))
                  replace HRV := Lib.hid (show At1 W21 r7 u7 by rw [← hWn]; exact At1.put1L HRV.out _)
                  clear hWn
                  refine hK.out _ _ ?_ (fun hHeld => ?_)
                  · exact ⟨HP.out.2.1, HP.out.2.2.1, HQ.out.2.1, HQ.out.2.2.1⟩
                  clear hK K
                  refine wpAnyH_take (i := 12) (v := ?_) rfl (by kernel_rfl) (by kernel_rfl) (by kernel_rfl) (fun _ _ _ h => absurd h.1 (by simp)) (Or.inl ⟨by rfl, ?_⟩) (by assumption) ?_
                  rotate_left
                  · (intro w hSw; (try dsimp only at hSw); go_simp; try with_reducible rfl)
                  simp only [Act.put, List.getElem_toArray, List.getElem_cons_succ, List.getElem_cons_zero, List.setIfInBounds_toArray, List.set_cons_zero, List.set_cons_succ]
                  refine wpAnyH_done (by kernel_rfl) ?_ _
                  clear hHeld
                  refine ⟨rfl, ux, uy, np, nq, u7, r7, ?_, HU7.out, HRV.out, HW0.out⟩
                  first | rfl | kernel_rfl
                exact AllReadyH.nil
              exact AllReadyH.nil
            exact AllReadyH.nil
          exact AllReadyH.nil
        refine AllReadyH.cons (o := _) rfl (fun K hK => ?_) ?_
        · clear hHeld
          go_simp
          obtain ⟨W17, hWn⟩ : ∃ xw9, W16.alloc (.cells #[.nilIface] 31) = xw9 := ⟨_, rfl⟩
          have hB : Below W16.heap.size W16 W17 := by rw [← hWn]; exact below_new _ _
          have hNB : At1 W17 W16.heap.size .nilIface := by rw [← hWn]; exact At1.new _ _ _
          have hbk : w6.heap.size ≤ W16.heap.size := HW0.out.size
          rw [hWn]
          clear hWn
          obtain ⟨r7, hnm⟩ : ∃ x, W16.heap.size = x := ⟨_, rfl⟩
          rw [hnm] at hNB hbk ⊢
          replace HT := Lib.hid (fun j hj => keep_below hB _ _ (HT.out j hj))
          replace Hvp := Lib.hid (Hvp.out.keep (keep_below hB))
          replace Hvq := Lib.hid (Hvq.out.keep (keep_below hB))
          replace HP := Lib.hid (HP.out.below hB)
          replace HQ := Lib.hid (HQ.out.below hB)
          replace HW0 := Lib.hid (HW0.out.trans (hB.mono HW0.out.size))
          replace Hnp := Lib.hid (Hnp.out.keep (keep_below hB))
          replace Hux := Lib.hid (Hux.out.grow hB)
          have HRV := Lib.hid hNB
          have HBK := Lib.hid hbk
          clear hNB hB hnm hbk
          refine hK.out _ _ ?_ (fun hHeld => ?_)
          · exact ⟨HP.out.2.1, HP.out.2.2.1, HQ.out.2.1, HQ.out.2.2.1⟩
          clear hK K
          refine wpAnyH_ready (rs := [4]) (by kernel_rfl) (by simp) ?_
          refine AllReadyH.cons (o := _) rfl (fun K hK => ?_) ?_
          · clear hHeld
            go_simp
            refine (not_calls _ b _ Hvq.out HBM.out).mono ?_
            rintro e W18 ⟨nq, rfl, hnq, hB⟩
            replace HT := Lib.hid (fun j hj => keep_below hB _ _ (HT.out j hj))
            replace Hvp := Lib.hid (Hvp.out.keep (keep_below hB))
            replace Hvq := Lib.hid (Hvq.out.keep (keep_below hB))
            replace HP := Lib.hid (HP.out.below hB)
            replace HQ := Lib.hid (HQ.out.below hB)
            replace HW0 := Lib.hid (HW0.out.trans (hB.mono HW0.out.size))
            replace Hnp := Lib.hid (Hnp.out.keep (keep_below hB))
            replace Hux := Lib.hid (Hux.out.grow hB)
            replace HRV := Lib.hid (HRV.out.below hB)
            rw [HNB.out] at hnq
            have Hnq := Lib.hid hnq
            clear hnq
            clear hB
            refine hK.out _ _ ?_ (fun hHeld => ?_)
            · exact ⟨HP.out.2.1, HP.out.2.2.1, HQ.out.2.1, HQ.out.2.2.1⟩
            clear hK K
            refine wpAnyH_ready (rs := [5]) (by kernel_rfl) (by simp) ?_
            refine AllReadyH.cons (o := _) rfl (fun K hK => ?_) ?_
            · clear hHeld
              go_simp
              refine (vbits_calls _ nb _ Hnq.out HNBM.out).mono ?_
              rintro e W19 ⟨uy, rfl, huy, hB⟩
              replace HT := Lib.hid (fun j hj => keep_below hB _ _ (HT.out j hj))
              replace Hvp := Lib.hid (Hvp.out.keep (keep_below hB))
              replace Hvq := Lib.hid (Hvq.out.keep (keep_below hB))
              replace HP := Lib.hid (HP.out.below hB)
              replace HQ := Lib.hid (HQ.out.below hB)
              replace HW0 := Lib.hid (HW0.out.trans (hB.mono HW0.out.size))
              replace Hnp := Lib.hid (Hnp.out.keep (keep_below hB))
              replace Hux := Lib.hid (Hux.out.grow hB)
              replace HRV := Lib.hid (HRV.out.below hB)
              replace Hnq := Lib.hid (Hnq.out.keep (keep_below hB))
              have Huy := Lib.hid (IsV.any huy)
              have hsuy := huy.store
              clear huy
              clear hB
              refine hK.out _ _ ?_ (fun hHeld => ?_)
              · exact ⟨HP.out.2.1, HP.out.2.2.1, HQ.out.2.1, HQ.out.2.2.1⟩
              clear hK K
              refine wpAnyH_ready (rs := [6]) (by kernel_rfl) (by simp) ?_
              refine AllReadyH.cons (o := _) rfl (fun K hK => ?_) ?_
              · clear hHeld
                go_simp
                refine (loapply_calls 24 _ _ (.bits na) (.bits nb) _ Hux.out Huy.out HNAM.out HNBM.out trivial trivial HT.out).mono ?_
                rintro e W20 ⟨u7, rfl, hu7, hB⟩
                replace HT := Lib.hid (fun j hj => keep_below hB _ _ (HT.out j hj))
                replace Hvp := Lib.hid (Hvp.out.keep (keep_below hB))
                replace Hvq := Lib.hid (Hvq.out.keep (keep_below hB))
                replace HP := Lib.hid (HP.out.below hB)
                replace HQ := Lib.hid (HQ.out.below hB)
                replace HW0 := Lib.hid (HW0.out.trans (hB.mono HW0.out.size))
                replace Hnp := Lib.hid (Hnp.out.keep (keep_below hB))
                replace Hux := Lib.hid (Hux.out.grow hB)
                replace HRV := Lib.hid (HRV.out.below hB)
                replace Hnq := Lib.hid (Hnq.out.keep (keep_below hB))
                replace Huy := Lib.hid (Huy.out.grow hB)
                rw [HZ4.out.1]
                rw [HZ4.out.2] at hu7
                have HU7 := Lib.hid (IsV.any hu7)
                have hsu7 := hu7.store
                clear hu7
                clear hB
                refine hK.out _ _ ?_ (fun hHeld => ?_)
                · exact ⟨HP.out.2.1, HP.out.2.2.1, HQ.out.2.1, HQ.out.2.2.1⟩
                clear hK K
                refine wpAnyH_take (i := 7) (v := ?_) rfl (by kernel_rfl) (by kernel_rfl) (by kernel_rfl) (fun _ _ _ h => absurd h.1 (by simp)) (Or.inl ⟨by rfl, ?_⟩) (by assumption) ?_
                rotate_left
                · (intro w hSw; (try dsimp only at hSw); go_simp; try with_reducible rfl)
                simp only [Act.put, List.getElem_toArray, List.getElem_cons_succ, List.getElem_cons_zero, List.setIfInBounds_toArray, List.set_cons_zero, List.set_cons_succ]
                refine wpAnyH_take (i := 8) (v := ?_) rfl (by kernel_rfl) (by kernel_rfl) (by kernel_rfl) (fun _ _ _ h => absurd h.1 (by simp)) (Or.inl ⟨by rfl, ?_⟩) (by assumption) ?_
                rotate_left
                · (intro w hSw; (try dsimp only at hSw); go_simp; try with_reducible rfl)
                simp only [Act.put, List.getElem_toArray, List.getElem_cons_succ, List.getElem_cons_zero, List.setIfInBounds_toArray, List.set_cons_zero, List.set_cons_succ]
                refine wpAnyH_take (i := 9) (v := ?_) rfl (by kernel_rfl) (by kernel_rfl) (by kernel_rfl) (fun _ _ _ h => absurd h.1 (by simp)) (Or.inl ⟨by rfl, ?_⟩) (by assumption) ?_
                rotate_left
                · (intro w hSw; (try dsimp only at hSw); go_simp; try with_reducible rfl)
                simp only [Act.put, List.getElem_toArray, List.getElem_cons_succ, List.getElem_cons_zero, List.setIfInBounds_toArray, List.set_cons_zero, List.set_cons_succ]
                refine wpAnyH_ready (rs := [11]) (by kernel_rfl) (by simp) ?_
                refine AllReadyH.cons (o := _) rfl (fun K hK => ?_) ?_
                · clear hHeld
                  have s0 := HRV.out.2.1
                  have t0 := HRV.out.2.2 0
                  go_simp
                  clear s0 t0
                  obtain ⟨W21, hWn⟩ : ∃ xw9, W20.setCell ⟨r7, 0, none⟩ u7 = xw9 := ⟨_, rfl⟩
                  rw [hWn]
                  replace HU7 := Lib.hid (show IsV W21 (fun _ => True) u7 (.bits X) by rw [← hWn]; exact HU7.out.bits_set HRV.out.2.1 (.inl rfl) _)
                  replace HW0 := Lib.hid (show Below w6.heap.size w6 W21 by rw [← hWn]; exact HW0.out.setCell HBK.out _)
                  replace HP := Lib.hid (show At2 W21 pb _ _ by rw [← hWn]; exact HP.out.grown (grown_setCell _ ⟨r7, 0, none⟩ _) (by have := HBK.out; have := HPQ.out.1; simp; omega))
                  replace HQ := Lib.hid (show At2 W21 qb _ _ by rw [← hWn]; exact HQ.out.grown (grown_setCell _ ⟨r7, 0, none⟩ _) (by have := HBK.out; have := HPQ.out.2; simp; omega))
                  replace HRV := Lib.hid (show At1 W21 r7 u7 by rw [← hWn]; exact At1.put1L HRV.out _)
                  clear hWn
                  refine hK.out _ _ ?_ (fun hHeld => ?_)
                  · exact ⟨HP.out.2.1, HP.out.2.2.1, HQ.out.2.1, HQ.out.2.2.1⟩
                  clear hK K
                  refine wpAnyH_take (i := 12) (v := ?_) rfl (by kernel_rfl) (by kernel_rfl) (by kernel_rfl) (fun _ _ _ h => absurd h.1 (by simp)) (Or.inl ⟨by rfl, ?_⟩) (by assumption) ?_
                  rotate_left
                  · (intro w hSw; (try dsimp only at hSw); go_simp; try with_reducible rfl)
                  simp only [Act.put, List.getElem_toArray, List.getElem_cons_succ, List.getElem_cons_zero, List.setIfInBounds_toArray, List.set_cons_zero, List.set_cons_succ]
                  refine wpAnyH_done (by kernel_rfl) ?_ _
                  clear hHeld
                  refine ⟨rfl, ux, uy, np, nq, u7, r7, ?_, HU7.out, HRV.out, HW0.out⟩
                  first | rfl | kernel_rfl
                exact AllReadyH.nil
              exact AllReadyH.nil
            exact AllReadyH.nil
          exact AllReadyH.nil
        exact AllReadyH.nil
      refine AllReadyH.cons (o := _) rfl (fun K hK => ?_) ?_
      · clear hHeld
        go_simp
        obtain ⟨W16, hWn⟩ : ∃ xw9, W15.alloc (.cells #[.nilIface] 31) = xw9 := ⟨_, rfl⟩
        have hB : Below W15.heap.size W15 W16 := by rw [← hWn]; exact below_new _ _
        have hNB : At1 W16 W15.heap.size .nilIface := by rw [← hWn]; exact At1.new _ _ _
        have hbk : w6.heap.size ≤ W15.heap.size := HW0.out.size
        rw [hWn]
        clear hWn
        obtain ⟨r7, hnm⟩ : ∃ x, W15.heap.size = x := ⟨_, rfl⟩
        rw [hnm] at hNB hbk ⊢
        replace HT := Lib.hid (fun j hj => keep_below hB _ _ (HT.out j hj))
        replace Hvp := Lib.hid (Hvp.out.keep (keep_below hB))
        replace Hvq := Lib.hid (Hvq.out.keep (keep_below hB))
        replace HP := Lib.hid (HP.out.below hB)
        replace HQ := Lib.hid (HQ.out.below hB)
        replace HW0 := Lib.hid (HW0.out.trans (hB.mono HW0.out.size))
        replace Hnp := Lib.hid (Hnp.out.keep (keep_below hB))
        have HRV := Lib.hid hNB
        have HBK := Lib.hid hbk
        clear hNB hB hnm hbk
        refine hK.out _ _ ?_ (fun hHeld => ?_)
        · exact ⟨HP.out.2.1, HP.out.2.2.1, HQ.out.2.1, HQ.out.2.2.1⟩
        clear hK K
        refine wpAnyH_ready (rs := [2]) (by kernel_rfl) (by simp) ?_
        refine AllReadyH.cons (o := _) rfl (fun K hK => ?_) ?_
        · clear hHeld
          go_simp
          refine (vbits_calls _ na _ Hnp.out HNAM.out).mono ?_
          rintro e W17 ⟨ux, rfl, hux, hB⟩
          replace HT := Lib.hid (fun j hj => keep_below hB _ _ (HT.out j hj))
          replace Hvp := Lib.hid (Hvp.out.keep (keep_below hB))
          replace Hvq := Lib.hid (Hvq.out.keep (keep_below hB))
          replace HP := Lib.hid (HP.out.below hB)
          replace HQ := Lib.hid (HQ.out.below hB)
          replace HW0 := Lib.hid (HW0.out.trans (hB.mono HW0.out.size))
          replace Hnp := Lib.hid (Hnp.out.keep (keep_below hB))
          replace HRV := Lib.hid (HRV.out.below hB)
          have Hux := Lib.hid (IsV.any hux)
          have hsux := hux.store
          clear hux
          clear hB
          refine hK.out _ _ ?_ (fun hHeld => ?_)
          · exact ⟨HP.out.2.1, HP.out.2.2.1, HQ.out.2.1, HQ.out.2.2.1⟩
          clear hK K
          refine wpAnyH_ready (rs := [4]) (by kernel_rfl) (by simp) ?_
          refine AllReadyH.cons (o := _) rfl (fun K hK => ?_) ?_
          · clear hHeld
            go_simp
            refine (not_calls _ b _ Hvq.out HBM.out).mono ?_
            rintro e W18 ⟨nq, rfl, hnq, hB⟩
            replace HT := Lib.hid (fun j hj => keep_below hB _ _ (HT.out j hj))
            replace Hvp := Lib.hid (Hvp.out.keep (keep_below hB))
            replace Hvq := Lib.hid (Hvq.out.keep (keep_below hB))
            replace HP := Lib.hid (HP.out.below hB)
            replace HQ := Lib.hid (HQ.out.below hB)
            replace HW0 := Lib.hid (HW0.out.trans (hB.mono HW0.out.size))
            replace Hnp := Lib.hid (Hnp.out.keep (keep_below hB))
            replace HRV := Lib.hid (HRV.out.below hB)
            replace Hux := Lib.hid (Hux.out.grow hB)
            rw [HNB.out] at hnq
            have Hnq := Lib.hid hnq
            clear hnq
            clear hB
            refine hK.out _ _ ?_ (fun hHeld => ?_)
            · exact ⟨HP.out.2.1, HP.out.2.2.1, HQ.out.2.1, HQ.out.2.2.1⟩
            clear hK K
            refine wpAnyH_ready (rs := [5]) (by kernel_rfl) (by simp) ?_
            refine AllReadyH.cons (o := _) rfl (fun K hK => ?_) ?_
            · clear hHeld
              go_simp
              refine (vbits_calls _ nb _ Hnq.out HNBM.out).mono ?_
              rintro e W19 ⟨uy, rfl, huy, hB⟩
              replace HT := Lib.hid (fun j hj => keep_below hB _ _ (HT.out j hj))
              replace Hvp := Lib.hid (Hvp.out.keep (keep_below hB))
              replace Hvq := Lib.hid (Hvq.out.keep (keep_below hB))
              replace HP := Lib.hid (HP.out.below hB)
              replace HQ := Lib.hid (HQ.out.below hB)
              replace HW0 := Lib.hid (HW0.out.trans (hB.mono HW0.out.size))
              replace Hnp := Lib.hid (Hnp.out.keep (keep_below hB))
              replace HRV := Lib.hid (HRV.out.below hB)
              replace Hux := Lib.hid (Hux.out.grow hB)
              replace Hnq := Lib.hid (Hnq.out.keep (keep_below hB))
              have Huy := Lib.hid (IsV.any huy)
              have hsuy := huy.store
              clear huy
              clear hB
              refine hK.out _ _ ?_ (fun hHeld => ?_)
              · exact ⟨HP.out.2.1, HP.out.2.2.1, HQ.out.2.1, HQ.out.2.2.1⟩
              clear hK K
              refine wpAnyH_ready (rs := [6]) (by kernel_rfl) (by simp) ?_
              refine AllReadyH.cons (o := _) rfl (fun K hK => ?_) ?_
              · clear hHeld
                go_simp
                refine (loapply_calls 24 _ _ (.bits na) (.bits nb) _ Hux.out Huy.out HNAM.out HNBM.out trivial trivial HT.out).mono ?_
                rintro e W20 ⟨u7, rfl, hu7, hB⟩
                replace HT := Lib.hid (fun j hj => keep_below hB _ _ (HT.out j hj))
                replace Hvp := Lib.hid (Hvp.out.keep (keep_below hB))
                replace Hvq := Lib.hid (Hvq.out.keep (keep_below hB))
                replace HP := Lib.hid (HP.out.below hB)
                replace HQ := Lib.hid (HQ.out.below hB)
                replace HW0 := Lib.hid (HW0.out.trans (hB.mono HW0.out.size))
                replace Hnp := Lib.hid (Hnp.out.keep (keep_below hB))
                replace HRV := Lib.hid (HRV.out.below hB)
                replace Hux := Lib.hid (Hux.out.grow hB)
                replace Hnq := Lib.hid (Hnq.out.keep (keep_below hB))
                replace Huy := Lib.hid (Huy.out.grow hB)
                rw [HZ4.out.1]
                rw [HZ4.out.2] at hu7
                have HU7 := Lib.hid (IsV.any hu7)
                have hsu7 := hu7.store
                clear hu7
                clear hB
                refine hK.out _ _ ?_ (fun hHeld => ?_)
                · exact ⟨HP.out.2.1, HP.out.2.2.1, HQ.out.2.1, HQ.out.2.2.1⟩
                clear hK K
                refine wpAnyH_take (i := 7) (v := ?_) rfl (by kernel_rfl) (by kernel_rfl) (by kernel_rfl) (fun _ _ _ h => absurd h.1 (by simp)) (Or.inl ⟨by rfl, ?_⟩) (by assumption) ?_
                rotate_left
                · (intro w hSw; (try dsimp only at hSw); go_simp; try with_reducible rfl)
                simp only [Act.put, List.getElem_toArray, List.getElem_cons_succ, List.getElem_cons_zero, List.setIfInBounds_toArray, List.set_cons_zero, List.set_cons_succ]
                refine wpAnyH_take (i := 8) (v := ?_) rfl (by kernel_rfl) (by kernel_rfl) (by kernel_rfl) (fun _ _ _ h => absurd h.1 (by simp)) (Or.inl ⟨by rfl, ?_⟩) (by assumption) ?_
                rotate_left
                · (intro w hSw; (try dsimp only at hSw); go_simp; try with_reducible rfl)
                simp only [Act.put, List.getElem_toArray, List.getElem_cons_succ, List.getElem_cons_zero, List.setIfInBounds_toArray, List.set_cons_zero, List.set_cons_succ]
                refine wpAnyH_take (i := 9) (v := ?_) rfl (by kernel_rfl) (by kernel_rfl) (by kernel_rfl) (fun _ _ _ h => absurd h.1 (by simp)) (Or.inl ⟨by rfl, ?_⟩) (by assumption) ?_
                rotate_left
                · (intro w hSw; (try dsimp only at hSw); go_simp; try with_reducible rfl)
                simp only [Act.put, List.getElem_toArray, List.getElem_cons_succ, List.getElem_cons_zero, List.setIfInBounds_toArray, List.set_cons_zero, List.set_cons_succ]
                refine wpAnyH_ready (rs := [11]) (by kernel_rfl) (by simp) ?_
                refine AllReadyH.cons (o := _) rfl (fun K hK => ?_) ?_
                · clear hHeld
                  have s0 := HRV.out.2.1
                  have t0 := HRV.out.2.2 0
                  go_simp
                  clear s0 t0
                  obtain ⟨W21, hWn⟩ : ∃ xw9, W20.setCell ⟨r7, 0, none⟩ u7 = xw9 := ⟨_, rfl⟩
                  rw [hWn]
                  replace HU7 := Lib.hid (show IsV W21 (fun _ => True) u7 (.bits X) by rw [← hWn]; exact HU7.out.bits_set HRV.out.2.1 (.inl rfl) _)
                  replace HW0 := Lib.hid (show Below w6.heap.size w6 W21 by rw [← hWn]; exact HW0.out.setCell HBK.out _)
                  replace HP := Lib.hid (show At2 W21 pb _ _ by rw [← hWn]; exact HP.out.grown (grown_setCell _ ⟨r7, 0, none⟩ _) (by have := HBK.out; have := HPQ.out.1; simp; omega))
                  replace HQ := Lib.hid (show At2 W21 qb _ _ by rw [← hWn]; exact HQ.out.grown (grown_setCell _ ⟨r7, 0, none⟩ _) (by have := HBK.out; have := HPQ.out.2; simp; omega))
                  replace HRV := Lib.hid (show At1 W21 r7 u7 by rw [← hWn]; exact At1.put1L HRV.out _)
                  clear hWn
                  refine hK.out _ _ ?_ (fun hHeld => ?_)
                  · exact ⟨HP.out.2.1, HP.out.2.2.1, HQ.out.2.1, HQ.out.2.2.1⟩
                  clear hK K
                  refine wpAnyH_take (i := 12) (v := ?_) rfl (by kernel_rfl) (by kernel_rfl) (by kernel_rfl) (fun _ _ _ h => absurd h.1 (by simp)) (Or.inl ⟨by rfl, ?_⟩) (by assumption) ?_
                  rotate_left
                  · (intro w hSw; (try dsimp only at hSw); go_simp; try with_reducible rfl)
                  simp only [Act.put, List.getElem_toArray, List.getElem_cons_succ, List.getElem_cons_zero, List.setIfInBounds_toArray, List.set_cons_zero, List.set_cons_succ]
                  refine wpAnyH_done (by kernel_rfl) ?_ _
                  clear hHeld
                  refine ⟨rfl, ux, uy, np, nq, u7, r7, ?_, HU7.out, HRV.out, HW0.out⟩
                  first | rfl | kernel_rfl
                exact AllReadyH.nil
              exact AllReadyH.nil
            exact AllReadyH.nil
          exact AllReadyH.nil
        exact AllReadyH.nil
      exact AllReadyH.nil
    refine AllReadyH.cons (o := _) rfl (fun K hK => ?_) ?_
    · clear hHeld
      go_simp
      obtain ⟨W15, hWn⟩ : ∃ xw9, W14.alloc (.cells #[.nilIface] 31) = xw9 := ⟨_, rfl⟩
      have hB : Below W14.heap.size W14 W15 := by rw [← hWn]; exact below_new _ _
      have hNB : At1 W15 W14.heap.size .nilIface := by rw [← hWn]; exact At1.new _ _ _
      have hbk : w6.heap.size ≤ W14.heap.size := HW0.out.size
      rw [hWn]
      clear hWn
      obtain ⟨r7, hnm⟩ : ∃ x, W14.heap.size = x := ⟨_, rfl⟩
      rw [hnm] at hNB hbk ⊢
      replace HT := Lib.hid (fun j hj => keep_below hB _ _ (HT.out j hj))
      replace Hvp := Lib.hid (Hvp.out.keep (keep_below hB))
      replace Hvq := Lib.hid (Hvq.out.keep (keep_below hB))
      replace HP := Lib.hid (HP.out.below hB)
      replace HQ := Lib.hid (HQ.out.below hB)
      replace HW0 := Lib.hid (HW0.out.trans (hB.mono HW0.out.size))
      have HRV := Lib.hid hNB
      have HBK := Lib.hid hbk
      clear hNB hB hnm hbk
      refine hK.out _ _ ?_ (fun hHeld => ?_)
      · exact ⟨HP.out.2.1, HP.out.2.2.1, HQ.out.2.1, HQ.out.2.2.1⟩
      clear hK K
      refine wpAnyH_ready (rs := [1]) (by kernel_rfl) (by simp) ?_
      refine AllReadyH.cons (o := _) rfl (fun K hK => ?_) ?_
      · clear hHeld
        go_simp
        refine (not_calls _ a _ Hvp.out HLA.out).mono ?_
        rintro e W16 ⟨np, rfl, hnp, hB⟩
        replace HT := Lib.hid (fun j hj => keep_below hB _ _ (HT.out j hj))
        replace Hvp := Lib.hid (Hvp.out.keep (keep_below hB))
        replace Hvq := Lib.hid (Hvq.out.keep (keep_below hB))
        replace HP := Lib.hid (HP.out.below hB)
        replace HQ := Lib.hid (HQ.out.below hB)
        replace HW0 := Lib.hid (HW0.out.trans (hB.mono HW0.out.size))
        replace HRV := Lib.hid (HRV.out.below hB)
        rw [HNA.out] at hnp
        have Hnp := Lib.hid hnp
        clear hnp
        clear hB
        refine hK.out _ _ ?_ (fun hHeld => ?_)
        · exact ⟨HP.out.2.1, HP.out.2.2.1, HQ.out.2.1, HQ.out.2.2.1⟩
        clear hK K
        refine wpAnyH_ready (rs := [2]) (by kernel_rfl) (by simp) ?_
        refine AllReadyH.cons (o := _) rfl (fun K hK => ?_) ?_
        · clear hHeld
          go_simp
          refine (vbits_calls _ na _ Hnp.out HNAM.out).mono ?_
          rintro e W17 ⟨ux, rfl, hux, hB⟩
          replace HT := Lib.hid (fun j hj => keep_below hB _ _ (HT.out j hj))
          replace Hvp := Lib.hid (Hvp.out.keep (keep_below hB))
          replace Hvq := Lib.hid (Hvq.out.keep (keep_below hB))
          replace HP := Lib.hid (HP.out.below hB)
          replace HQ := Lib.hid (HQ.out.below hB)
          replace HW0 := Lib.hid (HW0.out.trans (hB.mono HW0.out.size))
          replace HRV := Lib.hid (HRV.out.below hB)
          replace Hnp := Lib.hid (Hnp.out.keep (keep_below hB))
          have Hux := Lib.hid (IsV.any hux)
          have hsux := hux.store
          clear hux
          clear hB
          refine hK.out _ _ ?_ (fun hHeld => ?_)
          · exact ⟨HP.out.2.1, HP.out.2.2.1, HQ.out.2.1, HQ.out.2.2.1⟩
          clear hK K
          refine wpAnyH_ready (rs := [4]) (by kernel_rfl) (by simp) ?_
          refine AllReadyH.cons (o := _) rfl (fun K hK => ?_) ?_
          · clear hHeld
            go_simp
            refine (not_calls _ b _ Hvq.out HBM.out).mono ?_
            rintro e W18 ⟨nq, rfl, hnq, hB⟩
            replace HT := Lib.hid (fun j hj => keep_below hB _ _ (HT.out j hj))
            replace Hvp := Lib.hid (Hvp.out.keep (keep_below hB))
            replace Hvq := Lib.hid (Hvq.out.keep (keep_below hB))
            replace HP := Lib.hid (HP.out.below hB)
            replace HQ := Lib.hid (HQ.out.below hB)
            replace HW0 := Lib.hid (HW0.out.trans (hB.mono HW0.out.size))
            replace HRV := Lib.hid (HRV.out.below hB)
            replace Hnp := Lib.hid (Hnp.out.keep (keep_below hB))
            replace Hux := Lib.hid (Hux.out.grow hB)
            rw [HNB.out] at hnq
            have Hnq := Lib.hid hnq
            clear hnq
            clear hB
            refine hK.out _ _ ?_ (fun hHeld => ?_)
            · exact ⟨HP.out.2.1, HP.out.2.2.1, HQ.out.2.1, HQ.out.2.2.1⟩
            clear hK K
            refine wpAnyH_ready (rs := [5]) (by kernel_rfl) (by simp) ?_
            refine AllReadyH.cons (o := _) rfl (fun K hK => ?_) ?_
            · clear hHeld
              go_simp
              refine (vbits_calls _ nb _ Hnq.out HNBM.out).mono ?_
              rintro e W19 ⟨uy, rfl, huy, hB⟩
              replace HT := Lib.hid (fun j hj => keep_below hB _ _ (HT.out j hj))
              replace Hvp := Lib.hid (Hvp.out.keep (keep_below hB))
              replace Hvq := Lib.hid (Hvq.out.keep (keep_below hB))
              replace HP := Lib.hid (HP.out.below hB)
              replace HQ := Lib.hid (HQ.out.below hB)
              replace HW0 := Lib.hid (HW0.out.trans (hB.mono HW0.out.size))
              replace HRV := Lib.hid (HRV.out.below hB)
              replace Hnp := Lib.hid (Hnp.out.keep (keep_below hB))
              replace Hux := Lib.hid (Hux.out.grow hB)
              replace Hnq := Lib.hid (Hnq.out.keep (keep_below hB))
              have Huy := Lib.hid (IsV.any huy)
              have hsuy := huy.store
              clear huy
              clear hB
              refine hK.out _ _ ?_ (fun hHeld => ?_)
              · exact ⟨HP.out.2.1, HP.out.2.2.1, HQ.out.2.1, HQ.out.2.2.1⟩
              clear hK K
              refine wpAnyH_ready (rs := [6]) (by kernel_rfl) (by simp) ?_
              refine AllReadyH.cons (o := _) rfl (fun K hK => ?_) ?_
              · clear hHeld
                go_simp
                refine (loapply_calls 24 _ _ (.bits na) (.bits nb) _ Hux.out Huy.out HNAM.out HNBM.out trivial trivial HT.out).mono ?_
                rintro e W20 ⟨u7, rfl, hu7, hB⟩
                replace HT := Lib.hid (fun j hj => keep_below hB _ _ (HT.out j hj))
                replace Hvp := Lib.hid (Hvp.out.keep (keep_below hB))
                replace Hvq := Lib.hid (Hvq.out.keep (keep_below hB))
                replace HP := Lib.hid (HP.out.below hB)
                replace HQ := Lib.hid (HQ.out.below hB)
                replace HW0 := Lib.hid (HW0.out.trans (hB.mono HW0.out.size))
                replace HRV := Lib.hid (HRV.out.below hB)
                replace Hnp := Lib.hid (Hnp.out.keep (keep_below hB))
                replace Hux := Lib.hid (Hux.out.grow hB)
                replace Hnq := Lib.hid (Hnq.out.keep (keep_below hB))
                replace Huy := Lib.hid (Huy.out.grow hB)
                rw [HZ4.out.1]
                rw [HZ4.out.2] at hu7
                have HU7 := Lib.hid (IsV.any hu7)
                have hsu7 := hu7.store
                clear hu7
                clear hB
                refine hK.out _ _ ?_ (fun hHeld => ?_)
                · exact ⟨HP.out.2.1, HP.out.2.2.1, HQ.out.2.1, HQ.out.2.2.1⟩
                clear hK K
                refine wpAnyH_take (i := 7) (v := ?_) rfl (by kernel_rfl) (by kernel_rfl) (by kernel_rfl) (fun _ _ _ h => absurd h.1 (by simp)) (Or.inl ⟨by rfl, ?_⟩) (by assumption) ?_
                rotate_left
                · (intro w hSw; (try dsimp only at hSw); go_simp; try with_reducible rfl)
                simp only [Act.put, List.getElem_toArray, List.getElem_cons_succ, List.getElem_cons_zero, List.setIfInBounds_toArray, List.set_cons_zero, List.set_cons_succ]
                refine wpAnyH_take (i := 8) (v := ?_) rfl (by kernel_rfl) (by kernel_rfl) (by kernel_rfl) (fun _ _ _ h => absurd h.1 (by simp)) (Or.inl ⟨by rfl, ?_⟩) (by assumption) ?_
                rotate_left
                · (intro w hSw; (try dsimp only at hSw); go_simp; try with_reducible rfl)
                simp only [Act.put, List.getElem_toArray, List.getElem_cons_succ, List.getElem_cons_zero, List.setIfInBounds_toArray, List.set_cons_zero, List.set_cons_succ]
                refine wpAnyH_take (i := 9) (v := ?_) rfl (by kernel_rfl) (by kernel_rfl) (by kernel_rfl) (fun _ _ _ h => absurd h.1 (by simp)) (Or.inl ⟨by rfl, ?_⟩) (by assumption) ?_
                rotate_left
                · (intro w hSw; (try dsimp only at hSw); go_simp; try with_reducible rfl)
                simp only [Act.put, List.getElem_toArray, List.getElem_cons_succ, List.getElem_cons_zero, List.setIfInBounds_toArray, List.set_cons_zero, List.set_cons_succ]
                refine wpAnyH_ready (rs := [11]) (by kernel_rfl) (by simp) ?_
                refine AllReadyH.cons (o := _) rfl (fun K hK => ?_) ?_
                · clear hHeld
                  have s0 := HRV.out.2.1
                  have t0 := HRV.out.2.2 0
                  go_simp
                  clear s0 t0
                  obtain ⟨W21, hWn⟩ : ∃ xw9, W20.setCell ⟨r7, 0, none⟩ u7 = xw9 := ⟨_, rfl⟩
                  rw [hWn]
                  replace HU7 := Lib.hid (show IsV W21 (fun _ => True) u7 (.bits X) by rw [← hWn]; exact HU7.out.bits_set HRV.out.2.1 (.inl rfl) _)
                  replace HW0 := Lib.hid (show Below w6.heap.size w6 W21 by rw [← hWn]; exact HW0.out.setCell HBK.out _)
                  replace HP := Lib.hid (show At2 W21 pb _ _ by rw [← hWn]; exact HP.out.grown (grown_setCell _ ⟨r7, 0, none⟩ _) (by have := HBK.out; have := HPQ.out.1; simp; omega))
                  replace HQ := Lib.hid (show At2 W21 qb _ _ by rw [← hWn]; exact HQ.out.grown (grown_setCell _ ⟨r7, 0, none⟩ _) (by have := HBK.out; have := HPQ.out.2; simp; omega))
                  replace HRV := Lib.hid (show At1 W21 r7 u7 by rw [← hWn]; exact At1.put1L HRV.out _)
                  clear hWn
                  refine hK.out _ _ ?_ (fun hHeld => ?_)
                  · exact ⟨HP.out.2.1, HP.out.2.2.1, HQ.out.2.1, HQ.out.2.2.1⟩
                  clear hK K
                  refine wpAnyH_take (i := 12) (v := ?_) rfl (by kernel_rfl) (by kernel_rfl) (by kernel_rfl) (fun _ _ _ h => absurd h.1 (by simp)) (Or.inl ⟨by rfl, ?_⟩) (by assumption) ?_
                  rotate_left
                  · (intro w hSw; (try dsimp only at hSw); go_simp; try with_reducible rfl)
                  simp only [Act.put, List.getElem_toArray, List.getElem_cons_succ, List.getElem_cons_zero, List.setIfInBounds_toArray, List.set_cons_zero, List.set_cons_succ]
                  refine wpAnyH_done (by kernel_rfl) ?_ _
                  clear hHeld
                  refine ⟨rfl, ux, uy, np, nq, u7, r7, ?_, HU7.out, HRV.out, HW0.out⟩
                  first | rfl | kernel_rfl
                exact AllReadyH.nil
              exact AllReadyH.nil
            exact AllReadyH.nil
          exact AllReadyH.nil
        exact AllReadyH.nil
      exact AllReadyH.nil
    exact AllReadyH.nil
  rintro _ w7 ⟨ux, uy, np, nq, u7, r7, rfl, hU7, hA7, hB⟩
  have HU7 := Lib.hid hU7
  have HA7 := Lib.hid hA7
  have hsu7 := hU7.store
  clear hU7 hA7
  replace HB := Lib.hid (HB.out.trans (hB.mono HB.out.size))
  replace HT := Lib.hid (fun j hj => keep_below hB _ _ (HT.out j hj))
  replace Hvp := Lib.hid (Hvp.out.keep (keep_below hB))
  replace Hvq := Lib.hid (Hvq.out.keep (keep_below hB))
  replace HP := Lib.hid (HP.out.below hB)
  replace HQ := Lib.hid (HQ.out.below hB)
  replace HU4 := Lib.hid (HU4.out.grow hB)
  replace HA4 := Lib.hid (HA4.out.below hB)
  replace HU5 := Lib.hid (HU5.out.grow hB)
  replace HA5 := Lib.hid (HA5.out.below hB)
  replace HU6 := Lib.hid (HU6.out.grow hB)
  replace HA6 := Lib.hid (HA6.out.below hB)
  clear hB
  simp only [Act.put, List.setIfInBounds_toArray, List.set_cons_zero, List.set_cons_succ]
  have cHP0 := HP.out.2.1
  have cHP1 := HP.out.2.2.1
  have cHQ0 := HQ.out.2.1
  have cHQ1 := HQ.out.2.2.1
  have cHA40 := HA4.out.2.1
  have cHA50 := HA5.out.2.1
  have cHA60 := HA6.out.2.1
  have cHA70 := HA7.out.2.1
  go_wp2_with fail
  refine (vpacked_calls _ (.bits X) _ HU4.out).mono ?_
  rintro e W14 ⟨vx, rfl, hvx, hB⟩
  clear cHP0 cHP1 cHQ0 cHQ1 cHA40 cHA50 cHA60 cHA70
  replace HB := Lib.hid (HB.out.trans (hB.mono HB.out.size))
  replace HT := Lib.hid (fun j hj => keep_below hB _ _ (HT.out j hj))
  replace Hvp := Lib.hid (Hvp.out.keep (keep_below hB))
  replace Hvq := Lib.hid (Hvq.out.keep (keep_below hB))
  replace HP := Lib.hid (HP.out.below hB)
  replace HQ := Lib.hid (HQ.out.below hB)
  replace HU4 := Lib.hid (HU4.out.grow hB)
  replace HA4 := Lib.hid (HA4.out.below hB)
  replace HU5 := Lib.hid (HU5.out.grow hB)
  replace HA5 := Lib.hid (HA5.out.below hB)
  replace HU6 := Lib.hid (HU6.out.grow hB)
  replace HA6 := Lib.hid (HA6.out.below hB)
  replace HU7 := Lib.hid (HU7.out.grow hB)
  replace HA7 := Lib.hid (HA7.out.below hB)
  have Hvx := Lib.hid (show IsBits W14 vx X from hvx)
  obtain ⟨ax, cx, rfl, hcx⟩ := Hvx.out.opened
  clear hvx hcx
  clear hB
  obtain ⟨W15, hWn⟩ : ∃ xw9, W14.alloc (.cells #[.int .i64 X.length, .slice ax ((X.length + 63) / 64) cx] 43) = xw9 := ⟨_, rfl⟩
  have hB : Below W14.heap.size W14 W15 := by rw [← hWn]; exact below_new _ _
  have hNB : At2 W15 W14.heap.size (.int .i64 X.length) (.slice ax ((X.length + 63) / 64) cx) := by rw [← hWn]; exact At2.new _ _ _ _
  replace HB := Lib.hid (HB.out.trans (hB.mono HB.out.size))
  replace HT := Lib.hid (fun j hj => keep_below hB _ _ (HT.out j hj))
  replace Hvp := Lib.hid (Hvp.out.keep (keep_below hB))
  replace Hvq := Lib.hid (Hvq.out.keep (keep_below hB))
  replace HP := Lib.hid (HP.out.below hB)
  replace HQ := Lib.hid (HQ.out.below hB)
  replace HU4 := Lib.hid (HU4.out.grow hB)
  replace HA4 := Lib.hid (HA4.out.below hB)
  replace HU5 := Lib.hid (HU5.out.grow hB)
  replace HA5 := Lib.hid (HA5.out.below hB)
  replace HU6 := Lib.hid (HU6.out.grow hB)
  replace HA6 := Lib.hid (HA6.out.below hB)
  replace HU7 := Lib.hid (HU7.out.grow hB)
  replace HA7 := Lib.hid (HA7.out.below hB)
  replace Hvx := Lib.hid (Hvx.out.keep (keep_below hB))
  have Hx := Lib.hid hNB
  clear hNB hB
  have cHP0 := HP.out.2.1
  have cHP1 := HP.out.2.2.1
  have cHQ0 := HQ.out.2.1
  have cHQ1 := HQ.out.2.2.1
  have cHA40 := HA4.out.2.1
  have cHA50 := HA5.out.2.1
  have cHA60 := HA6.out.2.1
  have cHA70 := HA7.out.2.1
  have cHx0 := Hx.out.2.1
  have cHx1 := Hx.out.2.2.1
  go_wp2_with fail
  clear hWn
  refine (vpacked_calls _ (.bits Y) _ HU5.out).mono ?_
  rintro e W16 ⟨vy, rfl, hvy, hB⟩
  clear cHP0 cHP1 cHQ0 cHQ1 cHA40 cHA50 cHA60 cHA70 cHx0 cHx1
  replace HB := Lib.hid (HB.out.trans (hB.mono HB.out.size))
  replace HT := Lib.hid (fun j hj => keep_below hB _ _ (HT.out j hj))
  replace Hvp := Lib.hid (Hvp.out.keep (keep_below hB))
  replace Hvq := Lib.hid (Hvq.out.keep (keep_below hB))
  replace HP := Lib.hid (HP.out.below hB)
  replace HQ := Lib.hid (HQ.out.below hB)
  replace HU4 := Lib.hid (HU4.out.grow hB)
  replace HA4 := Lib.hid (HA4.out.below hB)
  replace HU5 := Lib.hid (HU5.out.grow hB)
  replace HA5 := Lib.hid (HA5.out.below hB)
  replace HU6 := Lib.hid (HU6.out.grow hB)
  replace HA6 := Lib.hid (HA6.out.below hB)
  replace HU7 := Lib.hid (HU7.out.grow hB)
  replace HA7 := Lib.hid (HA7.out.below hB)
  replace Hvx := Lib.hid (Hvx.out.keep (keep_below hB))
  replace Hx := Lib.hid (Hx.out.below hB)
  have Hvy := Lib.hid (show IsBits W16 vy Y from hvy)
  obtain ⟨ay, cy, rfl, hcy⟩ := Hvy.out.opened
  clear hvy hcy
  clear hB
  obtain ⟨W17, hWn⟩ : ∃ xw9, W16.alloc (.cells #[.int .i64 Y.length, .slice ay ((Y.length + 63) / 64) cy] 43) = xw9 := ⟨_, rfl⟩
  have hB : Below W16.heap.size W16 W17 := by rw [← hWn]; exact below_new _ _
  have hNB : At2 W17 W16.heap.size (.int .i64 Y.length) (.slice ay ((Y.length + 63) / 64) cy) := by rw [← hWn]; exact At2.new _ _ _ _
  replace HB := Lib.hid (HB.out.trans (hB.mono HB.out.size))
  replace HT := Lib.hid (fun j hj => keep_below hB _ _ (HT.out j hj))
  replace Hvp := Lib.hid (Hvp.out.keep (keep_below hB))
  replace Hvq := Lib.hid (Hvq.out.keep (keep_below hB))
  replace HP := Lib.hid (HP.out.below hB)
  replace HQ := Lib.hid (HQ.out.below hB)
  replace HU4 := Lib.hid (HU4.out.grow hB)
  replace HA4 := Lib.hid (HA4.out.below hB)
  replace HU5 := Lib.hid (HU5.out.grow hB)
  replace HA5 := Lib.hid (HA5.out.below hB)
  replace HU6 := Lib.hid (HU6.out.grow hB)
  replace HA6 := Lib.hid (HA6.out.below hB)
  replace HU7 := Lib.hid (HU7.out.grow hB)
  replace HA7 := Lib.hid (HA7.out.below hB)
  replace Hvx := Lib.hid (Hvx.out.keep (keep_below hB))
  replace Hx := Lib.hid (Hx.out.below hB)
  replace Hvy := Lib.hid (Hvy.out.keep (keep_below hB))
  have Hy := Lib.hid hNB
  clear hNB hB
  have cHP0 := HP.out.2.1
  have cHP1 := HP.out.2.2.1
  have cHQ0 := HQ.out.2.1
  have cHQ1 := HQ.out.2.2.1
  have cHA40 := HA4.out.2.1
  have cHA50 := HA5.out.2.1
  have cHA60 := HA6.out.2.1
  have cHA70 := HA7.out.2.1
  have cHx0 := Hx.out.2.1
  have cHx1 := Hx.out.2.2.1
  have cHy0 := Hy.out.2.1
  have cHy1 := Hy.out.2.2.1
  go_wp2_with fail
  clear hWn
  refine (vpacked_calls _ (.bits Y) _ HU6.out).mono ?_
  rintro e W18 ⟨vz, rfl, hvz, hB⟩
  clear cHP0 cHP1 cHQ0 cHQ1 cHA40 cHA50 cHA60 cHA70 cHx0 cHx1 cHy0 cHy1
  replace HB := Lib.hid (HB.out.trans (hB.mono HB.out.size))
  replace HT := Lib.hid (fun j hj => keep_below hB _ _ (HT.out j hj))
  replace Hvp := Lib.hid (Hvp.out.keep (keep_below hB))
  replace Hvq := Lib.hid (Hvq.out.keep (keep_below hB))
  replace HP := Lib.hid (HP.out.below hB)
  replace HQ := Lib.hid (HQ.out.below hB)
  replace HU4 := Lib.hid (HU4.out.grow hB)
  replace HA4 := Lib.hid (HA4.out.below hB)
  replace HU5 := Lib.hid (HU5.out.grow hB)
  replace HA5 := Lib.hid (HA5.out.below hB)
  replace HU6 := Lib.hid (HU6.out.grow hB)
  replace HA6 := Lib.hid (HA6.out.below hB)
  replace HU7 := Lib.hid (HU7.out.grow hB)
  replace HA7 := Lib.hid (HA7.out.below hB)
  replace Hvx := Lib.hid (Hvx.out.keep (keep_below hB))
  replace Hx := Lib.hid (Hx.out.below hB)
  replace Hvy := Lib.hid (Hvy.out.keep (keep_below hB))
  replace Hy := Lib.hid (Hy.out.below hB)
  have Hvz := Lib.hid (show IsBits W18 vz Y from hvz)
  obtain ⟨az, cz, rfl, hcz⟩ := Hvz.out.opened
  clear hvz hcz
  clear hB
  obtain ⟨W19, hWn⟩ : ∃ xw9, W18.alloc (.cells #[.int .i64 Y.length, .slice az ((Y.length + 63) / 64) cz] 43) = xw9 := ⟨_, rfl⟩
  have hB : Below W18.heap.size W18 W19 := by rw [← hWn]; exact below_new _ _
  have hNB : At2 W19 W18.heap.size (.int .i64 Y.length) (.slice az ((Y.length + 63) / 64) cz) := by rw [← hWn]; exact At2.new _ _ _ _
  replace HB := Lib.hid (HB.out.trans (hB.mono HB.out.size))
  replace HT := Lib.hid (fun j hj => keep_below hB _ _ (HT.out j hj))
  replace Hvp := Lib.hid (Hvp.out.keep (keep_below hB))
  replace Hvq := Lib.hid (Hvq.out.keep (keep_below hB))
  replace HP := Lib.hid (HP.out.below hB)
  replace HQ := Lib.hid (HQ.out.below hB)
  replace HU4 := Lib.hid (HU4.out.grow hB)
  replace HA4 := Lib.hid (HA4.out.below hB)
  replace HU5 := Lib.hid (HU5.out.grow hB)
  replace HA5 := Lib.hid (HA5.out.below hB)
  replace HU6 := Lib.hid (HU6.out.grow hB)
  replace HA6 := Lib.hid (HA6.out.below hB)
  replace HU7 := Lib.hid (HU7.out.grow hB)
  replace HA7 := Lib.hid (HA7.out.below hB)
  replace Hvx := Lib.hid (Hvx.out.keep (keep_below hB))
  replace Hx := Lib.hid (Hx.out.below hB)
  replace Hvy := Lib.hid (Hvy.out.keep (keep_below hB))
  replace Hy := Lib.hid (Hy.out.below hB)
  replace Hvz := Lib.hid (Hvz.out.keep (keep_below hB))
  have Hz := Lib.hid hNB
  clear hNB hB
  have cHP0 := HP.out.2.1
  have cHP1 := HP.out.2.2.1
  have cHQ0 := HQ.out.2.1
  have cHQ1 := HQ.out.2.2.1
  have cHA40 := HA4.out.2.1
  have cHA50 := HA5.out.2.1
  have cHA60 := HA6.out.2.1
  have cHA70 := HA7.out.2.1
  have cHx0 := Hx.out.2.1
  have cHx1 := Hx.out.2.2.1
  have cHy0 := Hy.out.2.1
  have cHy1 := Hy.out.2.2.1
  have cHz0 := Hz.out.2.1
  have cHz1 := Hz.out.2.2.1
  go_wp2_with fail
  clear hWn
  refine (vpacked_calls _ (.bits X) _ HU7.out).mono ?_
  rintro e W20 ⟨vk, rfl, hvk, hB⟩
  clear cHP0 cHP1 cHQ0 cHQ1 cHA40 cHA50 cHA60 cHA70 cHx0 cHx1 cHy0 cHy1 cHz0 cHz1
  replace HB := Lib.hid (HB.out.trans (hB.mono HB.out.size))
  replace HT := Lib.hid (fun j hj => keep_below hB _ _ (HT.out j hj))
  replace Hvp := Lib.hid (Hvp.out.keep (keep_below hB))
  replace Hvq := Lib.hid (Hvq.out.keep (keep_below hB))
  replace HP := Lib.hid (HP.out.below hB)
  replace HQ := Lib.hid (HQ.out.below hB)
  replace HU4 := Lib.hid (HU4.out.grow hB)
  replace HA4 := Lib.hid (HA4.out.below hB)
  replace HU5 := Lib.hid (HU5.out.grow hB)
  replace HA5 := Lib.hid (HA5.out.below hB)
  replace HU6 := Lib.hid (HU6.out.grow hB)
  replace HA6 := Lib.hid (HA6.out.below hB)
  replace HU7 := Lib.hid (HU7.out.grow hB)
  replace HA7 := Lib.hid (HA7.out.below hB)
  replace Hvx := Lib.hid (Hvx.out.keep (keep_below hB))
  replace Hx := Lib.hid (Hx.out.below hB)
  replace Hvy := Lib.hid (Hvy.out.keep (keep_below hB))
  replace Hy := Lib.hid (Hy.out.below hB)
  replace Hvz := Lib.hid (Hvz.out.keep (keep_below hB))
  replace Hz := Lib.hid (Hz.out.below hB)
  have Hvk := Lib.hid (show IsBits W20 vk X from hvk)
  obtain ⟨ak, ck, rfl, hck⟩ := Hvk.out.opened
  clear hvk hck
  clear hB
  obtain ⟨W21, hWn⟩ : ∃ xw9, W20.alloc (.cells #[.int .i64 X.length, .slice ak ((X.length + 63) / 64) ck] 43) = xw9 := ⟨_, rfl⟩
  have hB : Below W20.heap.size W20 W21 := by rw [← hWn]; exact below_new _ _
  have hNB : At2 W21 W20.heap.size (.int .i64 X.length) (.slice ak ((X.length + 63) / 64) ck) := by rw [← hWn]; exact At2.new _ _ _ _
  replace HB := Lib.hid (HB.out.trans (hB.mono HB.out.size))
  replace HT := Lib.hid (fun j hj => keep_below hB _ _ (HT.out j hj))
  replace Hvp := Lib.hid (Hvp.out.keep (keep_below hB))
  replace Hvq := Lib.hid (Hvq.out.keep (keep_below hB))
  replace HP := Lib.hid (HP.out.below hB)
  replace HQ := Lib.hid (HQ.out.below hB)
  replace HU4 := Lib.hid (HU4.out.grow hB)
  replace HA4 := Lib.hid (HA4.out.below hB)
  replace HU5 := Lib.hid (HU5.out.grow hB)
  replace HA5 := Lib.hid (HA5.out.below hB)
  replace HU6 := Lib.hid (HU6.out.grow hB)
  replace HA6 := Lib.hid (HA6.out.below hB)
  replace HU7 := Lib.hid (HU7.out.grow hB)
  replace HA7 := Lib.hid (HA7.out.below hB)
  replace Hvx := Lib.hid (Hvx.out.keep (keep_below hB))
  replace Hx := Lib.hid (Hx.out.below hB)
  replace Hvy := Lib.hid (Hvy.out.keep (keep_below hB))
  replace Hy := Lib.hid (Hy.out.below hB)
  replace Hvz := Lib.hid (Hvz.out.keep (keep_below hB))
  replace Hz := Lib.hid (Hz.out.below hB)
  replace Hvk := Lib.hid (Hvk.out.keep (keep_below hB))
  have Hk := Lib.hid hNB
  clear hNB hB
  have cHP0 := HP.out.2.1
  have cHP1 := HP.out.2.2.1
  have cHQ0 := HQ.out.2.1
  have cHQ1 := HQ.out.2.2.1
  have cHA40 := HA4.out.2.1
  have cHA50 := HA5.out.2.1
  have cHA60 := HA6.out.2.1
  have cHA70 := HA7.out.2.1
  have cHx0 := Hx.out.2.1
  have cHx1 := Hx.out.2.2.1
  have cHy0 := Hy.out.2.1
  have cHy1 := Hy.out.2.2.1
  have cHz0 := Hz.out.2.1
  have cHz1 := Hz.out.2.2.1
  have cHk0 := Hk.out.2.1
  have cHk1 := Hk.out.2.2.1
  go_wp2_with fail
  clear hWn
  clear cHP0 cHP1 cHQ0 cHQ1 cHA40 cHA50 cHA60 cHA70 cHx0 cHx1 cHy0 cHy1 cHz0 cHz1 cHk0 cHk1
  obtain ⟨C, hC⟩ : ∃ C, cnt (sq a) a.length = C := ⟨_, rfl⟩
  have HC := Lib.hid hC
  have HAB := Lib.hid (show (decide (cnt (sq a) a.length = a.length)) = ((C : Int) == (a.length : Int)) by rw [hC, Bool.eq_iff_iff]; simp; omega)
  have HAC := Lib.hid (show (decide (firstOf a < a.length)) = decide (0 < C) by rw [Bool.eq_iff_iff]; simp only [decide_eq_true_eq]; rw [first_lt, hC])
  obtain ⟨q1, hq1⟩ : ∃ q1, ((C : Int) == (a.length : Int)) = q1 := ⟨_, rfl⟩
  obtain ⟨q2, hq2⟩ : ∃ q2, decide (0 < C) = q2 := ⟨_, rfl⟩
  rw [hq1] at HAB
  rw [hq2] at HAC
  have hn1 : (q1 != q1) = false := by simp
  have hn2 : (q2 != q2) = false := by simp
  clear hC
  obtain ⟨W22, hWD⟩ : ∃ xw9, W21.drew = xw9 := ⟨_, rfl⟩
  have hB : Below W21.heap.size W21 W22 := by rw [← hWD]; exact Below.drewN' (Below.refl _ _) 1
  replace HB := Lib.hid (HB.out.trans (hB.mono HB.out.size))
  replace HT := Lib.hid (fun j hj => keep_below hB _ _ (HT.out j hj))
  replace Hvp := Lib.hid (Hvp.out.keep (keep_below hB))
  replace Hvq := Lib.hid (Hvq.out.keep (keep_below hB))
  replace HP := Lib.hid (HP.out.below hB)
  replace HQ := Lib.hid (HQ.out.below hB)
  replace HU4 := Lib.hid (HU4.out.grow hB)
  replace HA4 := Lib.hid (HA4.out.below hB)
  replace HU5 := Lib.hid (HU5.out.grow hB)
  replace HA5 := Lib.hid (HA5.out.below hB)
  replace HU6 := Lib.hid (HU6.out.grow hB)
  replace HA6 := Lib.hid (HA6.out.below hB)
  replace HU7 := Lib.hid (HU7.out.grow hB)
  replace HA7 := Lib.hid (HA7.out.below hB)
  replace Hvx := Lib.hid (Hvx.out.keep (keep_below hB))
  replace Hx := Lib.hid (Hx.out.below hB)
  replace Hvy := Lib.hid (Hvy.out.keep (keep_below hB))
  replace Hy := Lib.hid (Hy.out.below hB)
  replace Hvz := Lib.hid (Hvz.out.keep (keep_below hB))
  replace Hz := Lib.hid (Hz.out.below hB)
  replace Hvk := Lib.hid (Hvk.out.keep (keep_below hB))
  replace Hk := Lib.hid (Hk.out.below hB)
  clear hB
  refine wp_region_held_drew (S := fun w' => w'.cell? ⟨pb, 0, none⟩ = some (.int .i64 a.length) ∧ w'.cell? ⟨pb, 1, none⟩ = some (.slice ap ((a.length + 63) / 64) cp)) (by kernel_rfl) (by rw [hWD]; exact ⟨HP.out.2.1, HP.out.2.2.1⟩) (fun hHeld => ?_)
  rw [hWD] at hHeld ⊢
  clear hWD
  refine wpAnyH_take (i := 0) (v := ?_) rfl (by kernel_rfl) (by kernel_rfl) (by kernel_rfl) (fun _ _ _ h => h) (Or.inl ⟨by rfl, ?_⟩) (by assumption) ?_
  rotate_left
  · (intro w hSw; (try dsimp only at hSw); go_simp; try with_reducible rfl)
  simp only [Act.put, List.getElem_toArray, List.getElem_cons_zero, List.setIfInBounds_toArray, List.set_cons_zero, List.set_cons_succ]
  refine wpAnyH_take (i := 1) (v := ?_) rfl (by kernel_rfl) (by kernel_rfl) (by kernel_rfl) (fun _ _ _ h => h) (Or.inl ⟨by rfl, ?_⟩) (by assumption) ?_
  rotate_left
  · (intro w hSw; (try dsimp only at hSw); go_simp; try with_reducible rfl)
  simp only [Act.put, List.getElem_toArray, List.getElem_cons_succ, List.getElem_cons_zero, List.setIfInBounds_toArray, List.set_cons_zero, List.set_cons_succ]
  refine wpAnyH_take (i := 2) (v := ?_) rfl (by kernel_rfl) (by kernel_rfl) (by kernel_rfl) (fun _ _ _ h => h) (Or.inl ⟨by rfl, ?_⟩) (by assumption) ?_
  rotate_left
  · (intro w hSw; (try dsimp only at hSw); go_simp; try with_reducible rfl)
  simp only [Act.put, List.getElem_toArray, List.getElem_cons_succ, List.getElem_cons_zero, List.setIfInBounds_toArray, List.set_cons_zero, List.set_cons_succ]
  refine wpAnyH_take (i := 3) (v := ?_) rfl (by kernel_rfl) (by kernel_rfl) (by kernel_rfl) (fun _ _ _ h => h) (Or.inl ⟨by rfl, ?_⟩) (by assumption) ?_
  rotate_left
  · (intro w hSw; (try dsimp only at hSw); go_simp; try with_reducible rfl)
  simp only [Act.put, List.getElem_toArray, List.getElem_cons_succ, List.getElem_cons_zero, List.setIfInBounds_toArray, List.set_cons_zero, List.set_cons_succ]
  refine wpAnyH_take (i := 4) (v := ?_) rfl (by kernel_rfl) (by kernel_rfl) (by kernel_rfl) (fun _ _ _ h => h) (Or.inl ⟨by rfl, ?_⟩) (by assumption) ?_
  rotate_left
  · (intro w hSw; (try dsimp only at hSw); go_simp; try with_reducible rfl)
  simp only [Act.put, List.getElem_toArray, List.getElem_cons_succ, List.getElem_cons_zero, List.setIfInBounds_toArray, List.set_cons_zero, List.set_cons_succ]
  refine wpAnyH_take (i := 5) (v := ?_) rfl (by kernel_rfl) (by kernel_rfl) (by kernel_rfl) (fun _ _ _ h => h) (Or.inl ⟨by rfl, ?_⟩) (by assumption) ?_
  rotate_left
  · (intro w hSw; (try dsimp only at hSw); go_simp; try with_reducible rfl)
  simp only [Act.put, List.getElem_toArray, List.getElem_cons_succ, List.getElem_cons_zero, List.setIfInBounds_toArray, List.set_cons_zero, List.set_cons_succ]
  refine wpAnyH_take (i := 6) (v := ?_) rfl (by kernel_rfl) (by kernel_rfl) (by kernel_rfl) (fun _ _ _ h => h) (Or.inl ⟨by rfl, ?_⟩) (by assumption) ?_
  rotate_left
  · (intro w hSw; (try dsimp only at hSw); go_simp; try with_reducible rfl)
  simp only [Act.put, List.getElem_toArray, List.getElem_cons_succ, List.getElem_cons_zero, List.setIfInBounds_toArray, List.set_cons_zero, List.set_cons_succ]
  refine wpAnyH_take (i := 7) (v := ?_) rfl (by kernel_rfl) (by kernel_rfl) (by kernel_rfl) (fun _ _ _ h => h) (Or.inl ⟨by rfl, ?_⟩) (by assumption) ?_
  rotate_left
  · (intro w hSw; (try dsimp only at hSw); go_simp; try with_reducible rfl)
  simp only [Act.put, List.getElem_toArray, List.getElem_cons_succ, List.getElem_cons_zero, List.setIfInBounds_toArray, List.set_cons_zero, List.set_cons_succ]
  refine wpAnyH_take (i := 8) (v := ?_) rfl (by kernel_rfl) (by kernel_rfl) (by kernel_rfl) (fun _ _ _ h => h) (Or.inl ⟨by rfl, ?_⟩) (by assumption) ?_
  rotate_left
  · (intro w hSw; (try dsimp only at hSw); go_simp; try with_reducible rfl)
  simp only [Act.put, List.getElem_toArray, List.getElem_cons_succ, List.getElem_cons_zero, List.setIfInBounds_toArray, List.set_cons_zero, List.set_cons_succ]
  refine wpAnyH_take (i := 9) (v := ?_) rfl (by kernel_rfl) (by kernel_rfl) (by kernel_rfl) (fun _ _ _ h => h) (Or.inl ⟨by rfl, ?_⟩) (by assumption) ?_
  rotate_left
  · (intro w hSw; (try dsimp only at hSw); go_simp; try with_reducible rfl)
  simp only [Act.put, List.getElem_toArray, List.getElem_cons_succ, List.getElem_cons_zero, List.setIfInBounds_toArray, List.set_cons_zero, List.set_cons_succ]
  refine wpAnyH_take (i := 10) (v := ?_) rfl (by kernel_rfl) (by kernel_rfl) (by kernel_rfl) (fun _ _ _ h => h) (Or.inl ⟨by rfl, ?_⟩) (by assumption) ?_
  rotate_left
  · (intro w hSw; (try dsimp only at hSw); go_simp; try with_reducible rfl)
  simp only [Act.put, List.getElem_toArray, List.getElem_cons_succ, List.getElem_cons_zero, List.setIfInBounds_toArray, List.set_cons_zero, List.set_cons_succ]
  refine wpAnyH_take (i := 11) (v := ?_) rfl (by kernel_rfl) (by kernel_rfl) (by kernel_rfl) (fun _ _ _ h => h) (Or.inl ⟨by rfl, ?_⟩) (by assumption) ?_
  rotate_left
  · (intro w hSw; (try dsimp only at hSw); go_simp; try with_reducible rfl)
  simp only [Act.put, List.getElem_toArray, List.getElem_cons_succ, List.getElem_cons_zero, List.setIfInBounds_toArray, List.set_cons_zero, List.set_cons_succ]
  refine wpAnyH_take (i := 12) (v := ?_) rfl (by kernel_rfl) (by kernel_rfl) (by kernel_rfl) (fun _ _ _ h => h) (Or.inl ⟨by rfl, ?_⟩) (by assumption) ?_
  rotate_left
  · (intro w hSw; (try dsimp only at hSw); go_simp; try with_reducible rfl)
  simp only [Act.put, List.getElem_toArray, List.getElem_cons_succ, List.getElem_cons_zero, List.setIfInBounds_toArray, List.set_cons_zero, List.set_cons_succ]
  refine wpAnyH_take (i := 13) (v := ?_) rfl (by kernel_rfl) (by kernel_rfl) (by kernel_rfl) (fun _ _ _ h => h) (Or.inl ⟨by rfl, ?_⟩) (by assumption) ?_
  rotate_left
  · (intro w hSw; (try dsimp only at hSw); go_simp; try with_reducible rfl)
  simp only [Act.put, List.getElem_toArray, List.getElem_cons_succ, List.getElem_cons_zero, List.setIfInBounds_toArray, List.set_cons_zero, List.set_cons_succ]
  refine wpAnyH_take (i := 14) (v := ?_) rfl (by kernel_rfl) (by kernel_rfl) (by kernel_rfl) (fun _ _ _ h => h) (Or.inl ⟨by rfl, ?_⟩) (by assumption) ?_
  rotate_left
  · (intro w hSw; (try dsimp only at hSw); go_simp; try with_reducible rfl)
  simp only [Act.put, List.getElem_toArray, List.getElem_cons_succ, List.getElem_cons_zero, List.setIfInBounds_toArray, List.set_cons_zero, List.set_cons_succ]
  refine wpAnyH_take (i := 15) (v := ?_) rfl (by kernel_rfl) (by kernel_rfl) (by kernel_rfl) (fun _ _ _ h => h) (Or.inl ⟨by rfl, ?_⟩) (by assumption) ?_
  rotate_left
  · (intro w hSw; (try dsimp only at hSw); go_simp; try with_reducible rfl)
  simp only [Act.put, List.getElem_toArray, List.getElem_cons_succ, List.getElem_cons_zero, List.setIfInBounds_toArray, List.set_cons_zero, List.set_cons_succ]
  refine wpAnyH_take (i := 16) (v := ?_) rfl (by kernel_rfl) (by kernel_rfl) (by kernel_rfl) (fun _ _ _ h => h) (Or.inl ⟨by rfl, ?_⟩) (by assumption) ?_
  rotate_left
  · (intro w hSw; (try dsimp only at hSw); go_simp; try with_reducible rfl)
  simp only [Act.put, List.getElem_toArray, List.getElem_cons_succ, List.getElem_cons_zero, List.setIfInBounds_toArray, List.set_cons_zero, List.set_cons_succ]
  refine wpAnyH_take (i := 17) (v := ?_) rfl (by kernel_rfl) (by kernel_rfl) (by kernel_rfl) (fun _ _ _ h => h) (Or.inl ⟨by rfl, ?_⟩) (by assumption) ?_
  rotate_left
  · (intro w hSw; (try dsimp only at hSw); go_simp; try with_reducible rfl)
  simp only [Act.put, List.getElem_toArray, List.getElem_cons_succ, List.getElem_cons_zero, List.setIfInBounds_toArray, List.set_cons_zero, List.set_cons_succ]
  refine wpAnyH_take (i := 18) (v := ?_) rfl (by kernel_rfl) (by kernel_rfl) (by kernel_rfl) (fun _ _ _ h => h) (Or.inl ⟨by rfl, ?_⟩) (by assumption) ?_
  rotate_left
  · (intro w hSw; (try dsimp only at hSw); go_simp; try with_reducible rfl)
  simp only [Act.put, List.getElem_toArray, List.getElem_cons_succ, List.getElem_cons_zero, List.setIfInBounds_toArray, List.set_cons_zero, List.set_cons_succ]
  refine wpAnyH_take (i := 20) (v := ?_) rfl (by kernel_rfl) (by kernel_rfl) (by kernel_rfl) (fun _ _ _ h => h) (Or.inl ⟨by rfl, ?_⟩) (by assumption) ?_
  rotate_left
  · (intro w hSw; (try dsimp only at hSw); go_simp; try with_reducible rfl)
  simp only [Act.put, List.getElem_toArray, List.getElem_cons_succ, List.getElem_cons_zero, List.setIfInBounds_toArray, List.set_cons_zero, List.set_cons_succ]
  refine wpAnyH_take (i := 22) (v := ?_) rfl (by kernel_rfl) (by kernel_rfl) (by kernel_rfl) (fun _ _ _ h => h) (Or.inl ⟨by rfl, ?_⟩) (by assumption) ?_
  rotate_left
  · (intro w hSw; (try dsimp only at hSw); go_simp; try with_reducible rfl)
  simp only [Act.put, List.getElem_toArray, List.getElem_cons_succ, List.getElem_cons_zero, List.setIfInBounds_toArray, List.set_cons_zero, List.set_cons_succ]
  refine wpAnyH_take (i := 23) (v := ?_) rfl (by kernel_rfl) (by kernel_rfl) (by kernel_rfl) (fun _ _ _ h => h) (Or.inl ⟨by rfl, ?_⟩) (by assumption) ?_
  rotate_left
  · (intro w hSw; (try dsimp only at hSw); go_simp; try with_reducible rfl)
  simp only [Act.put, List.getElem_toArray, List.getElem_cons_succ, List.getElem_cons_zero, List.setIfInBounds_toArray, List.set_cons_zero, List.set_cons_succ]
  refine wpAnyH_ready (rs := [19]) (by kernel_rfl) (by simp) ?_
  refine AllReadyH.cons (o := _) rfl (fun K hK => ?_) ?_
  · clear hHeld
    go_simp
    refine (loall_calls _ a _ Hvp.out HLA.out).mono ?_
    rintro e W23 ⟨rfl, hB⟩
    replace HB := Lib.hid (HB.out.trans (hB.mono HB.out.size))
    replace HT := Lib.hid (fun j hj => keep_below hB _ _ (HT.out j hj))
    replace Hvp := Lib.hid (Hvp.out.keep (keep_below hB))
    replace Hvq := Lib.hid (Hvq.out.keep (keep_below hB))
    replace HP := Lib.hid (HP.out.below hB)
    replace HQ := Lib.hid (HQ.out.below hB)
    replace HU4 := Lib.hid (HU4.out.grow hB)
    replace HA4 := Lib.hid (HA4.out.below hB)
    replace HU5 := Lib.hid (HU5.out.grow hB)
    replace HA5 := Lib.hid (HA5.out.below hB)
    replace HU6 := Lib.hid (HU6.out.grow hB)
    replace HA6 := Lib.hid (HA6.out.below hB)
    replace HU7 := Lib.hid (HU7.out.grow hB)
    replace HA7 := Lib.hid (HA7.out.below hB)
    replace Hvx := Lib.hid (Hvx.out.keep (keep_below hB))
    replace Hx := Lib.hid (Hx.out.below hB)
    replace Hvy := Lib.hid (Hvy.out.keep (keep_below hB))
    replace Hy := Lib.hid (Hy.out.below hB)
    replace Hvz := Lib.hid (Hvz.out.keep (keep_below hB))
    replace Hz := Lib.hid (Hz.out.below hB)
    replace Hvk := Lib.hid (Hvk.out.keep (keep_below hB))
    replace Hk := Lib.hid (Hk.out.below hB)
    rw [HAB.out]
    clear hB
    refine hK.out _ _ ?_ (fun hHeld => ?_)
    · exact ⟨HP.out.2.1, HP.out.2.2.1⟩
    clear hK K
    refine wpAnyH_ready (rs := [21]) (by kernel_rfl) (by simp) ?_
    refine AllReadyH.cons (o := _) rfl (fun K hK => ?_) ?_
    · clear hHeld
      go_simp
      refine (count_calls _ a _ Hvp.out HLA.out).mono ?_
      rintro e W24 ⟨rfl, hB⟩
      replace HB := Lib.hid (HB.out.trans (hB.mono HB.out.size))
      replace HT := Lib.hid (fun j hj => keep_below hB _ _ (HT.out j hj))
      replace Hvp := Lib.hid (Hvp.out.keep (keep_below hB))
      replace Hvq := Lib.hid (Hvq.out.keep (keep_below hB))
      replace HP := Lib.hid (HP.out.below hB)
      replace HQ := Lib.hid (HQ.out.below hB)
      replace HU4 := Lib.hid (HU4.out.grow hB)
      replace HA4 := Lib.hid (HA4.out.below hB)
      replace HU5 := Lib.hid (HU5.out.grow hB)
      replace HA5 := Lib.hid (HA5.out.below hB)
      replace HU6 := Lib.hid (HU6.out.grow hB)
      replace HA6 := Lib.hid (HA6.out.below hB)
      replace HU7 := Lib.hid (HU7.out.grow hB)
      replace HA7 := Lib.hid (HA7.out.below hB)
      replace Hvx := Lib.hid (Hvx.out.keep (keep_below hB))
      replace Hx := Lib.hid (Hx.out.below hB)
      replace Hvy := Lib.hid (Hvy.out.keep (keep_below hB))
      replace Hy := Lib.hid (Hy.out.below hB)
      replace Hvz := Lib.hid (Hvz.out.keep (keep_below hB))
      replace Hz := Lib.hid (Hz.out.below hB)
      replace Hvk := Lib.hid (Hvk.out.keep (keep_below hB))
      replace Hk := Lib.hid (Hk.out.below hB)
      rw [HC.out]
      clear hB
      refine hK.out _ _ ?_ (fun hHeld => ?_)
      · exact ⟨HP.out.2.1, HP.out.2.2.1⟩
      clear hK K
      refine wpAnyH_take (i := 24) (v := ?_) rfl (by kernel_rfl) (by kernel_rfl) (by kernel_rfl) (fun _ _ _ h => h) (Or.inl ⟨by rfl, ?_⟩) (by assumption) ?_
      rotate_left
      · (intro w hSw; (try dsimp only at hSw); go_simp; try with_reducible rfl)
      simp only [Act.put, List.getElem_toArray, List.getElem_cons_succ, List.getElem_cons_zero, List.setIfInBounds_toArray, List.set_cons_zero, List.set_cons_succ]
      refine wpAnyH_take (i := 25) (v := ?_) rfl (by kernel_rfl) (by kernel_rfl) (by kernel_rfl) (fun _ _ _ h => h) (Or.inl ⟨by rfl, ?_⟩) (by assumption) ?_
      rotate_left
      · (intro w hSw; (try dsimp only at hSw); go_simp; try with_reducible rfl)
      simp only [Act.put, List.getElem_toArray, List.getElem_cons_succ, List.getElem_cons_zero, List.setIfInBounds_toArray, List.set_cons_zero, List.set_cons_succ]
      refine wpAnyH_take (i := 26) (v := ?_) rfl (by kernel_rfl) (by kernel_rfl) (by kernel_rfl) (fun _ _ _ h => h) (Or.inl ⟨by rfl, ?_⟩) (by assumption) ?_
      rotate_left
      · (intro w hSw; (try dsimp only at hSw); go_simp; try with_reducible rfl)
      simp only [Act.put, List.getElem_toArray, List.getElem_cons_succ, List.getElem_cons_zero, List.setIfInBounds_toArray, List.set_cons_zero, List.set_cons_succ]
      refine wpAnyH_take (i := 27) (v := ?_) rfl (by kernel_rfl) (by kernel_rfl) (by kernel_rfl) (fun _ _ _ h => h) (Or.inl ⟨by rfl, ?_⟩) (by assumption) ?_
      rotate_left
      · (intro w hSw; (try dsimp only at hSw); go_simp; try with_reducible rfl)
      simp only [Act.put, List.getElem_toArray, List.getElem_cons_succ, List.getElem_cons_zero, List.setIfInBounds_toArray, List.set_cons_zero, List.set_cons_succ]
      refine wpAnyH_take (i := 28) (v := ?_) rfl (by kernel_rfl) (by kernel_rfl) (by kernel_rfl) (fun _ _ _ h => h) (Or.inl ⟨by rfl, ?_⟩) (by assumption) ?_
      rotate_left
      · (intro w hSw; (try dsimp only at hSw); go_simp; try with_reducible rfl)
      simp only [Act.put, List.getElem_toArray, List.getElem_cons_succ, List.getElem_cons_zero, List.setIfInBounds_toArray, List.set_cons_zero, List.set_cons_succ]
      refine wpAnyH_take (i := 30) (v := ?_) rfl (by kernel_rfl) (by kernel_rfl) (by kernel_rfl) (fun _ _ _ h => h) (Or.inl ⟨by rfl, ?_⟩) (by assumption) ?_
      rotate_left
      · (intro w hSw; (try dsimp only at hSw); go_simp; try with_reducible rfl)
      simp only [Act.put, List.getElem_toArray, List.getElem_cons_succ, List.getElem_cons_zero, List.setIfInBounds_toArray, List.set_cons_zero, List.set_cons_succ]
      refine wpAnyH_ready (rs := [29]) (by kernel_rfl) (by simp) ?_
      refine AllReadyH.cons (o := _) rfl (fun K hK => ?_) ?_
      · clear hHeld
        go_simp
        refine (loany_calls _ a _ Hvp.out HLA.out HT.out).mono ?_
        rintro e W25 ⟨rfl, hB⟩
        replace HB := Lib.hid (HB.out.trans (hB.mono HB.out.size))
        replace HT := Lib.hid (fun j hj => keep_below hB _ _ (HT.out j hj))
        replace Hvp := Lib.hid (Hvp.out.keep (keep_below hB))
        replace Hvq := Lib.hid (Hvq.out.keep (keep_below hB))
        replace HP := Lib.hid (HP.out.below hB)
        replace HQ := Lib.hid (HQ.out.below hB)
        replace HU4 := Lib.hid (HU4.out.grow hB)
        replace HA4 := Lib.hid (HA4.out.below hB)
        replace HU5 := Lib.hid (HU5.out.grow hB)
        replace HA5 := Lib.hid (HA5.out.below hB)
        replace HU6 := Lib.hid (HU6.out.grow hB)
        replace HA6 := Lib.hid (HA6.out.below hB)
        replace HU7 := Lib.hid (HU7.out.grow hB)
        replace HA7 := Lib.hid (HA7.out.below hB)
        replace Hvx := Lib.hid (Hvx.out.keep (keep_below hB))
        replace Hx := Lib.hid (Hx.out.below hB)
        replace Hvy := Lib.hid (Hvy.out.keep (keep_below hB))
        replace Hy := Lib.hid (Hy.out.below hB)
        replace Hvz := Lib.hid (Hvz.out.keep (keep_below hB))
        replace Hz := Lib.hid (Hz.out.below hB)
        replace Hvk := Lib.hid (Hvk.out.keep (keep_below hB))
        replace Hk := Lib.hid (Hk.out.below hB)
        rw [HAC.out]
        clear hB
        refine hK.out _ _ ?_ (fun hHeld => ?_)
        · exact ⟨HP.out.2.1, HP.out.2.2.1⟩
        clear hK K
        refine wpAnyH_ready (rs := [31]) (by kernel_rfl) (by simp) ?_
        refine AllReadyH.cons (o := _) rfl (fun K hK => ?_) ?_
        · clear hHeld
          go_simp
          refine (count_calls _ a _ Hvp.out HLA.out).mono ?_
          rintro e W26 ⟨rfl, hB⟩
          replace HB := Lib.hid (HB.out.trans (hB.mono HB.out.size))
          replace HT := Lib.hid (fun j hj => keep_below hB _ _ (HT.out j hj))
          replace Hvp := Lib.hid (Hvp.out.keep (keep_below hB))
          replace Hvq := Lib.hid (Hvq.out.keep (keep_below hB))
          replace HP := Lib.hid (HP.out.below hB)
          replace HQ := Lib.hid (HQ.out.below hB)
          replace HU4 := Lib.hid (HU4.out.grow hB)
          replace HA4 := Lib.hid (HA4.out.below hB)
          replace HU5 := Lib.hid (HU5.out.grow hB)
          replace HA5 := Lib.hid (HA5.out.below hB)
          replace HU6 := Lib.hid (HU6.out.grow hB)
          replace HA6 := Lib.hid (HA6.out.below hB)
          replace HU7 := Lib.hid (HU7.out.grow hB)
          replace HA7 := Lib.hid (HA7.out.below hB)
          replace Hvx := Lib.hid (Hvx.out.keep (keep_below hB))
          replace Hx := Lib.hid (Hx.out.below hB)
          replace Hvy := Lib.hid (Hvy.out.keep (keep_below hB))
          replace Hy := Lib.hid (Hy.out.below hB)
          replace Hvz := Lib.hid (Hvz.out.keep (keep_below hB))
          replace Hz := Lib.hid (Hz.out.below hB)
          replace Hvk := Lib.hid (Hvk.out.keep (keep_below hB))
          replace Hk := Lib.hid (Hk.out.below hB)
          rw [HC.out]
          clear hB
          refine hK.out _ _ ?_ (fun hHeld => ?_)
          · exact ⟨HP.out.2.1, HP.out.2.2.1⟩
          clear hK K
          refine wpAnyH_take (i := 32) (v := ?_) rfl (by kernel_rfl) (by kernel_rfl) (by kernel_rfl) (fun _ _ _ h => h) (Or.inl ⟨by rfl, ?_⟩) (by assumption) ?_
          rotate_left
          · (intro w hSw; (try dsimp only at hSw); go_simp; try with_reducible rfl)
          simp only [Act.put, List.getElem_toArray, List.getElem_cons_succ, List.getElem_cons_zero, List.setIfInBounds_toArray, List.set_cons_zero, List.set_cons_succ]
          refine wpAnyH_take (i := 33) (v := ?_) rfl (by kernel_rfl) (by kernel_rfl) (by kernel_rfl) (fun _ _ _ h => h) (Or.inl ⟨by rfl, ?_⟩) (by assumption) ?_
          rotate_left
          · (intro w hSw; (try dsimp only at hSw); go_simp; try with_reducible rfl)
          simp only [Act.put, List.getElem_toArray, List.getElem_cons_succ, List.getElem_cons_zero, List.setIfInBounds_toArray, List.set_cons_zero, List.set_cons_succ]
          refine wpAnyH_take (i := 34) (v := ?_) rfl (by kernel_rfl) (by kernel_rfl) (by kernel_rfl) (fun _ _ _ h => h) (Or.inl ⟨by rfl, ?_⟩) (by assumption) ?_
          rotate_left
          · (intro w hSw; (try dsimp only at hSw); go_simp; try with_reducible rfl)
          simp only [Act.put, List.getElem_toArray, List.getElem_cons_succ, List.getElem_cons_zero, List.setIfInBounds_toArray, List.set_cons_zero, List.set_cons_succ]
          refine wpAnyH_done (by kernel_rfl) ?_ _
          clear hHeld
          have cHx0 := Hx.out.2.1
          have cHx1 := Hx.out.2.2.1
          have cHy0 := Hy.out.2.1
          have cHy1 := Hy.out.2.2.1
          have cHz0 := Hz.out.2.1
          have cHz1 := Hz.out.2.2.1
          have cHk0 := Hk.out.2.1
          have cHk1 := Hk.out.2.2.1
          go_wp2_with fail
          clear cHx0 cHx1 cHy0 cHy1 cHz0 cHz1 cHk0 cHk1
          obtain ⟨W27, hWD⟩ : ∃ xw9, W26.drew = xw9 := ⟨_, rfl⟩
          have hB : Below W26.heap.size W26 W27 := by rw [← hWD]; exact Below.drewN' (Below.refl _ _) 1
          replace HB := Lib.hid (HB.out.trans (hB.mono HB.out.size))
          replace HT := Lib.hid (fun j hj => keep_below hB _ _ (HT.out j hj))
          replace Hvx := Lib.hid (Hvx.out.keep (keep_below hB))
          replace Hx := Lib.hid (Hx.out.below hB)
          replace Hvy := Lib.hid (Hvy.out.keep (keep_below hB))
          replace Hy := Lib.hid (Hy.out.below hB)
          replace Hvz := Lib.hid (Hvz.out.keep (keep_below hB))
          replace Hz := Lib.hid (Hz.out.below hB)
          replace Hvk := Lib.hid (Hvk.out.keep (keep_below hB))
          replace Hk := Lib.hid (Hk.out.below hB)
          clear hB
          refine wp_region_held_drew (S := fun w' => w'.cell? ⟨W14.heap.size, 0, none⟩ = some (.int .i64 X.length) ∧ w'.cell? ⟨W14.heap.size, 1, none⟩ = some (.slice ax ((X.length + 63) / 64) cx) ∧ w'.cell? ⟨W16.heap.size, 0, none⟩ = some (.int .i64 Y.length) ∧ w'.cell? ⟨W16.heap.size, 1, none⟩ = some (.slice ay ((Y.length + 63) / 64) cy) ∧ w'.cell? ⟨W18.heap.size, 0, none⟩ = some (.int .i64 Y.length) ∧ w'.cell? ⟨W18.heap.size, 1, none⟩ = some (.slice az ((Y.length + 63) / 64) cz) ∧ w'.cell? ⟨W20.heap.size, 0, none⟩ = some (.int .i64 X.length) ∧ w'.cell? ⟨W20.heap.size, 1, none⟩ = some (.slice ak ((X.length + 63) / 64) ck)) (by kernel_rfl) (by rw [hWD]; exact ⟨Hx.out.2.1, Hx.out.2.2.1, Hy.out.2.1, Hy.out.2.2.1, Hz.out.2.1, Hz.out.2.2.1, Hk.out.2.1, Hk.out.2.2.1⟩) (fun hHeld => ?_)
          rw [hWD] at hHeld ⊢
          clear hWD
          refine wpAnyH_take (i := 0) (v := ?_) rfl (by kernel_rfl) (by kernel_rfl) (by kernel_rfl) (fun _ _ _ h => h) (Or.inl ⟨by rfl, ?_⟩) (by assumption) ?_
          rotate_left
          · (intro w hSw; (try dsimp only at hSw); go_simp; try with_reducible rfl)
          simp only [Act.put, List.getElem_toArray, List.getElem_cons_zero, List.setIfInBounds_toArray, List.set_cons_zero, List.set_cons_succ]
          refine wpAnyH_take (i := 2) (v := ?_) rfl (by kernel_rfl) (by kernel_rfl) (by kernel_rfl) (fun _ _ _ h => h) (Or.inl ⟨by rfl, ?_⟩) (by assumption) ?_
          rotate_left
          · (intro w hSw; (try dsimp only at hSw); go_simp; try with_reducible rfl)
          simp only [Act.put, List.getElem_toArray, List.getElem_cons_succ, List.getElem_cons_zero, List.setIfInBounds_toArray, List.set_cons_zero, List.set_cons_succ]
          refine wpAnyH_ready (rs := [1]) (by kernel_rfl) (by simp) ?_
          refine AllReadyH.cons (o := _) rfl (fun K hK => ?_) ?_
          · clear hHeld
            go_simp
            refine (not_calls _ X _ Hvx.out HXM.out).mono ?_
            rintro e W28 ⟨vn, rfl, hvn, hB⟩
            replace HB := Lib.hid (HB.out.trans (hB.mono HB.out.size))
            replace HT := Lib.hid (fun j hj => keep_below hB _ _ (HT.out j hj))
            replace Hvx := Lib.hid (Hvx.out.keep (keep_below hB))
            replace Hx := Lib.hid (Hx.out.below hB)
            replace Hvy := Lib.hid (Hvy.out.keep (keep_below hB))
            replace Hy := Lib.hid (Hy.out.below hB)
            replace Hvz := Lib.hid (Hvz.out.keep (keep_below hB))
            replace Hz := Lib.hid (Hz.out.below hB)
            replace Hvk := Lib.hid (Hvk.out.keep (keep_below hB))
            replace Hk := Lib.hid (Hk.out.below hB)
            rw [HYE.out] at hvn
            have Hvn := Lib.hid hvn
            clear hvn
            clear hB
            refine hK.out _ _ ?_ (fun hHeld => ?_)
            · exact ⟨Hx.out.2.1, Hx.out.2.2.1, Hy.out.2.1, Hy.out.2.2.1, Hz.out.2.1, Hz.out.2.2.1, Hk.out.2.1, Hk.out.2.2.1⟩
            clear hK K
            refine wpAnyH_ready (rs := [3]) (by kernel_rfl) (by simp) ?_
            refine AllReadyH.cons (o := _) rfl (fun K hK => ?_) ?_
            · clear hHeld
              go_simp
              refine (equal_calls _ _ Y Y _ Hvn.out Hvy.out HYM.out).mono ?_
              rintro e W29 ⟨rfl, hB⟩
              replace HB := Lib.hid (HB.out.trans (hB.mono HB.out.size))
              replace HT := Lib.hid (fun j hj => keep_below hB _ _ (HT.out j hj))
              replace Hvx := Lib.hid (Hvx.out.keep (keep_below hB))
              replace Hx := Lib.hid (Hx.out.below hB)
              replace Hvy := Lib.hid (Hvy.out.keep (keep_below hB))
              replace Hy := Lib.hid (Hy.out.below hB)
              replace Hvz := Lib.hid (Hvz.out.keep (keep_below hB))
              replace Hz := Lib.hid (Hz.out.below hB)
              replace Hvk := Lib.hid (Hvk.out.keep (keep_below hB))
              replace Hk := Lib.hid (Hk.out.below hB)
              replace Hvn := Lib.hid (Hvn.out.keep (keep_below hB))
              rw [beq_self_eq_true]
              clear hB
              refine hK.out _ _ ?_ (fun hHeld => ?_)
              · exact ⟨Hx.out.2.1, Hx.out.2.2.1, Hy.out.2.1, Hy.out.2.2.1, Hz.out.2.1, Hz.out.2.2.1, Hk.out.2.1, Hk.out.2.2.1⟩
              clear hK K
              refine wpAnyH_take (i := 4) (v := ?_) rfl (by kernel_rfl) (by kernel_rfl) (by kernel_rfl) (fun _ _ _ h => h) (Or.inl ⟨by rfl, ?_⟩) (by assumption) ?_
              rotate_left
              · (intro w hSw; (try dsimp only at hSw); go_simp; try with_reducible rfl)
              simp only [Act.put, List.getElem_toArray, List.getElem_cons_succ, List.getElem_cons_zero, List.setIfInBounds_toArray, List.set_cons_zero, List.set_cons_succ]
              refine wpAnyH_take (i := 5) (v := ?_) rfl (by kernel_rfl) (by kernel_rfl) (by kernel_rfl) (fun _ _ _ h => h) (Or.inl ⟨by rfl, ?_⟩) (by assumption) ?_
              rotate_left
              · (intro w hSw; (try dsimp only at hSw); go_simp; try with_reducible rfl)
              simp only [Act.put, List.getElem_toArray, List.getElem_cons_succ, List.getElem_cons_zero, List.setIfInBounds_toArray, List.set_cons_zero, List.set_cons_succ]
              refine wpAnyH_take (i := 6) (v := ?_) rfl (by kernel_rfl) (by kernel_rfl) (by kernel_rfl) (fun _ _ _ h => h) (Or.inl ⟨by rfl, ?_⟩) (by assumption) ?_
              rotate_left
              · (intro w hSw; (try dsimp only at hSw); go_simp; try with_reducible rfl)
              simp only [Act.put, List.getElem_toArray, List.getElem_cons_succ, List.getElem_cons_zero, List.setIfInBounds_toArray, List.set_cons_zero, List.set_cons_succ]
              refine wpAnyH_ready (rs := [7]) (by kernel_rfl) (by simp) ?_
              refine AllReadyH.cons (o := _) rfl (fun K hK => ?_) ?_
              · clear hHeld
                go_simp
                refine (equal_calls _ _ Y Y _ Hvy.out Hvz.out HYM.out).mono ?_
                rintro e W30 ⟨rfl, hB⟩
                replace HB := Lib.hid (HB.out.trans (hB.mono HB.out.size))
                replace HT := Lib.hid (fun j hj => keep_below hB _ _ (HT.out j hj))
                replace Hvx := Lib.hid (Hvx.out.keep (keep_below hB))
                replace Hx := Lib.hid (Hx.out.below hB)
                replace Hvy := Lib.hid (Hvy.out.keep (keep_below hB))
                replace Hy := Lib.hid (Hy.out.below hB)
                replace Hvz := Lib.hid (Hvz.out.keep (keep_below hB))
                replace Hz := Lib.hid (Hz.out.below hB)
                replace Hvk := Lib.hid (Hvk.out.keep (keep_below hB))
                replace Hk := Lib.hid (Hk.out.below hB)
                replace Hvn := Lib.hid (Hvn.out.keep (keep_below hB))
                rw [beq_self_eq_true]
                clear hB
                refine hK.out _ _ ?_ (fun hHeld => ?_)
                · exact ⟨Hx.out.2.1, Hx.out.2.2.1, Hy.out.2.1, Hy.out.2.2.1, Hz.out.2.1, Hz.out.2.2.1, Hk.out.2.1, Hk.out.2.2.1⟩
                clear hK K
                refine wpAnyH_take (i := 8) (v := ?_) rfl (by kernel_rfl) (by kernel_rfl) (by kernel_rfl) (fun _ _ _ h => h) (Or.inl ⟨by rfl, ?_⟩) (by assumption) ?_
                rotate_left
                · (intro w hSw; (try dsimp only at hSw); go_simp; try with_reducible rfl)
                simp only [Act.put, List.getElem_toArray, List.getElem_cons_succ, List.getElem_cons_zero, List.setIfInBounds_toArray, List.set_cons_zero, List.set_cons_succ]
                refine wpAnyH_take (i := 9) (v := ?_) rfl (by kernel_rfl) (by kernel_rfl) (by kernel_rfl) (fun _ _ _ h => h) (Or.inl ⟨by rfl, ?_⟩) (by assumption) ?_
                rotate_left
                · (intro w hSw; (try dsimp only at hSw); go_simp; try with_reducible rfl)
                simp only [Act.put, List.getElem_toArray, List.getElem_cons_succ, List.getElem_cons_zero, List.setIfInBounds_toArray, List.set_cons_zero, List.set_cons_succ]
                refine wpAnyH_take (i := 10) (v := ?_) rfl (by kernel_rfl) (by kernel_rfl) (by kernel_rfl) (fun _ _ _ h => h) (Or.inl ⟨by rfl, ?_⟩) (by assumption) ?_
                rotate_left
                · (intro w hSw; (try dsimp only at hSw); go_simp; try with_reducible rfl)
                simp only [Act.put, List.getElem_toArray, List.getElem_cons_succ, List.getElem_cons_zero, List.setIfInBounds_toArray, List.set_cons_zero, List.set_cons_succ]
                refine wpAnyH_take (i := 11) (v := ?_) rfl (by kernel_rfl) (by kernel_rfl) (by kernel_rfl) (fun _ _ _ h => h) (Or.inl ⟨by rfl, ?_⟩) (by assumption) ?_
                rotate_left
                · (intro w hSw; (try dsimp only at hSw); go_simp; try with_reducible rfl)
                simp only [Act.put, List.getElem_toArray, List.getElem_cons_succ, List.getElem_cons_zero, List.setIfInBounds_toArray, List.set_cons_zero, List.set_cons_succ]
                refine wpAnyH_ready (rs := [12]) (by kernel_rfl) (by simp) ?_
                refine AllReadyH.cons (o := _) rfl (fun K hK => ?_) ?_
                · clear hHeld
                  go_simp
                  refine (equal_calls _ _ X X _ Hvx.out Hvk.out HXM.out).mono ?_
                  rintro e W31 ⟨rfl, hB⟩
                  replace HB := Lib.hid (HB.out.trans (hB.mono HB.out.size))
                  replace HT := Lib.hid (fun j hj => keep_below hB _ _ (HT.out j hj))
                  replace Hvx := Lib.hid (Hvx.out.keep (keep_below hB))
                  replace Hx := Lib.hid (Hx.out.below hB)
                  replace Hvy := Lib.hid (Hvy.out.keep (keep_below hB))
                  replace Hy := Lib.hid (Hy.out.below hB)
                  replace Hvz := Lib.hid (Hvz.out.keep (keep_below hB))
                  replace Hz := Lib.hid (Hz.out.below hB)
                  replace Hvk := Lib.hid (Hvk.out.keep (keep_below hB))
                  replace Hk := Lib.hid (Hk.out.below hB)
                  replace Hvn := Lib.hid (Hvn.out.keep (keep_below hB))
                  rw [beq_self_eq_true]
                  clear hB
                  refine hK.out _ _ ?_ (fun hHeld => ?_)
                  · exact ⟨Hx.out.2.1, Hx.out.2.2.1, Hy.out.2.1, Hy.out.2.2.1, Hz.out.2.1, Hz.out.2.2.1, Hk.out.2.1, Hk.out.2.2.1⟩
                  clear hK K
                  refine wpAnyH_take (i := 13) (v := ?_) rfl (by kernel_rfl) (by kernel_rfl) (by kernel_rfl) (fun _ _ _ h => h) (Or.inl ⟨by rfl, ?_⟩) (by assumption) ?_
                  rotate_left
                  · (intro w hSw; (try dsimp only at hSw); go_simp; try with_reducible rfl)
                  simp only [Act.put, List.getElem_toArray, List.getElem_cons_succ, List.getElem_cons_zero, List.setIfInBounds_toArray, List.set_cons_zero, List.set_cons_succ]
                  refine wpAnyH_take (i := 14) (v := ?_) rfl (by kernel_rfl) (by kernel_rfl) (by kernel_rfl) (fun _ _ _ h => h) (Or.inl ⟨by rfl, ?_⟩) (by assumption) ?_
                  rotate_left
                  · (intro w hSw; (try dsimp only at hSw); go_simp; try with_reducible rfl)
                  simp only [Act.put, List.getElem_toArray, List.getElem_cons_succ, List.getElem_cons_zero, List.setIfInBounds_toArray, List.set_cons_zero, List.set_cons_succ]
                  refine wpAnyH_ready (rs := [15]) (by kernel_rfl) (by simp) ?_
                  refine AllReadyH.cons (o := _) rfl (fun K hK => ?_) ?_
                  · clear hHeld
                    go_simp
                    refine (awake12_calls _ HT.out).mono ?_
                    rintro e W32 ⟨rfl, hB⟩
                    replace HB := Lib.hid (HB.out.trans (hB.mono HB.out.size))
                    replace HT := Lib.hid (fun j hj => keep_below hB _ _ (HT.out j hj))
                    replace Hvx := Lib.hid (Hvx.out.keep (keep_below hB))
                    replace Hx := Lib.hid (Hx.out.below hB)
                    replace Hvy := Lib.hid (Hvy.out.keep (keep_below hB))
                    replace Hy := Lib.hid (Hy.out.below hB)
                    replace Hvz := Lib.hid (Hvz.out.keep (keep_below hB))
                    replace Hz := Lib.hid (Hz.out.below hB)
                    replace Hvk := Lib.hid (Hvk.out.keep (keep_below hB))
                    replace Hk := Lib.hid (Hk.out.below hB)
                    replace Hvn := Lib.hid (Hvn.out.keep (keep_below hB))
                    clear hB
                    refine hK.out _ _ ?_ (fun hHeld => ?_)
                    · exact ⟨Hx.out.2.1, Hx.out.2.2.1, Hy.out.2.1, Hy.out.2.2.1, Hz.out.2.1, Hz.out.2.2.1, Hk.out.2.1, Hk.out.2.2.1⟩
                    clear hK K
                    refine wpAnyH_take (i := 16) (v := ?_) rfl (by kernel_rfl) (by kernel_rfl) (by kernel_rfl) (fun _ _ _ h => h) (Or.inl ⟨by rfl, ?_⟩) (by assumption) ?_
                    rotate_left
                    · (intro w hSw; (try dsimp only at hSw); go_simp; try with_reducible rfl)
                    simp only [Act.put, List.getElem_toArray, List.getElem_cons_succ, List.getElem_cons_zero, List.setIfInBounds_toArray, List.set_cons_zero, List.set_cons_succ]
                    refine wpAnyH_take (i := 17) (v := ?_) rfl (by kernel_rfl) (by kernel_rfl) (by kernel_rfl) (fun _ _ _ h => h) (Or.inl ⟨by rfl, ?_⟩) (by assumption) ?_
                    rotate_left
                    · (intro w hSw; (try dsimp only at hSw); go_simp; try with_reducible rfl)
                    simp only [Act.put, List.getElem_toArray, List.getElem_cons_succ, List.getElem_cons_zero, List.setIfInBounds_toArray, List.set_cons_zero, List.set_cons_succ]
                    refine wpAnyH_done (by kernel_rfl) ?_ _
                    clear hHeld
                    go_wp2
                    go_ret
                    exact ⟨rfl, HB.out⟩
                  exact AllReadyH.nil
                exact AllReadyH.nil
              exact AllReadyH.nil
            exact AllReadyH.nil
          exact AllReadyH.nil
        exact AllReadyH.nil
      exact AllReadyH.nil
    exact AllReadyH.nil
  exact AllReadyH.nil

theorem logicTurns_frame (w : World) (va : Value) (a : List Bool) (ha : RowC w va (a.map Value.bool)) (hla : a.length ≤ maxLen) (vb : Value) (b : List Bool) (hb : RowC w vb (b.map Value.bool)) (hlb : b.length ≤ maxLen) (hT : TabAt w) :
    Calls Tryd.prog 6 #[va, vb] w fun e w' => e = .returned (.bool true) ∧ Below w.heap.size w w' :=
  logicTurns_walk va vb a b w (by have := ha.slc; rw [List.length_map] at this; exact this) (by have := hb.slc; rw [List.length_map] at this; exact this) hla hlb hT
end Go.Proofs.YtakbhiomhjmihaaDoor

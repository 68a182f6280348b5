/- Merged: ReI, ReJ, ReL. -/
import Derived.Test.YtfbecmnlbjhjaaaGreatDoorMgRe1
import Derived.Test.YtfbecmnlbjhjaaaGreatDoorMgFl1
/- Layer 11's reference: Apply, where not both are numbers, relation 13. -/
namespace Go.Proofs.YtfbecmnlbjhjaaaGreatDoor
set_option maxRecDepth 100000
open Go.RowKit Fl
set_option linter.unusedVariables false

set_option maxHeartbeats 8000000 in
theorem rr1301_calls {okA okB : Nat → Prop} (va vb : Value) (la lb : List PI) (w : World) (hva : Its w okA va la) (hvb : Its w okB vb lb) (hla : la.length ≤ 1048576) (hlb : lb.length ≤ 1048576) (fa : ∀ p ∈ la, Fnt p.2.1) (fb : ∀ p ∈ lb, Fnt p.2.1) (hg : goesA la.length lb.length) :
    Calls Tryz.prog 9 #[.int .i64 13, va, .int .i64 0, vb, .int .i64 1] w (Told (rrL 13 0 1 la lb) w) := by
  obtain ⟨n, hn⟩ : ∃ n, lenN la.length lb.length = n := ⟨_, rfl⟩
  obtain ⟨R, hR⟩ : ∃ R, rrL 13 0 1 la lb = R := ⟨_, rfl⟩
  have HRL := Lib.hid (show R.length = n by rw [← hR, ← hn]; exact rrL_len _ _ _ _ _)
  have HRT := Lib.hid (show ∀ k, k < n → R.take (k + 1) = R.take k ++ [rrV 13 0 1 (pk dI la k) (pk dI lb k)] by rw [← hR]; intro k hk; exact rrL_take (by rw [hn]; exact hk))
  have HIN := Lib.hid (show ∀ i, i < n → (la.length = 1 ∨ i < la.length) ∧ (lb.length = 1 ∨ i < lb.length) by
    intro i hi
    rw [← hn] at hi
    exact lenN_in hg hi)
  rw [hR]
  have HNL := Lib.hid (show n ≤ 1048576 by rw [← hn]; exact lenN_le hla hlb)
  have HN := Lib.hid hn
  have HG := Lib.hid hg
  have HFA := Lib.hid fa
  have HFB := Lib.hid fb
  have HLL := Lib.hid (And.intro hla hlb)
  have HVA := Lib.hid hva
  have HVB := Lib.hid hvb
  obtain ⟨ao, cap, rfl, _, _⟩ := hva.len
  obtain ⟨bo, cbp, rfl, _, _⟩ := hvb.len
  have hst := run_store_float
  clear hn hR hva hvb hla hlb fa fb hg
  obtain ⟨i0, hi, hz0, hz1, hz2⟩ := info_parts info_bool1
  have HI0 := Lib.hid (And.intro hi (And.intro hz0 (And.intro hz1 hz2)))
  clear hi hz0 hz1 hz2
  go_enter Tryz.func9, Tryz.ntmps9
  go_wp2_with (refine (ralen_yes _ _ _ HG.out).mono ?_; rintro e w' ⟨rfl, rfl⟩; rw [HN.out])
  go_loopw [13, 14] (fun v i wr => ∃ k : Nat, k ≤ n ∧ i = .int .i64 k ∧ wr.ownsRow w.heap.size 4 1 v k (bools (R.take k)) ∧ Below w.heap.size w wr) (fun _ i _ => n - (intOf i).toNat)
  case atStart => exact ⟨0, by omega, rfl, World.ownsRow_nil _ _ _ _, Below.refl _ _⟩
  case round =>
    obtain ⟨k, hk, rfl, hown, hB⟩ := hrel
    have HO := Lib.hid hown
    have HB := Lib.hid hB
    clear hown hB
    have hnm := HNL.out
    by_cases hlt : k < n
    · have HI := Lib.hid (HIN.out k hlt)
      have HL0 := Lib.hid (show 0 < la.length ∧ 0 < lb.length by have := HI.out; omega)
      have hl1 := HL0.out.1
      have hl2 := HL0.out.2
      have HVA := Lib.hid (HVA.out.grow HB.out)
      have HVB := Lib.hid (HVB.out.grow HB.out)
      have HTK := Lib.hid (HRT.out k hlt)
      have HLT := Lib.hid hlt
      obtain ⟨b0, o0, bo0, bc0, rfl, _, c0, c1, c2, c3, _⟩ := HVA.out.at (List.getElem?_eq_getElem HL0.out.1)
      obtain ⟨d0, p0, do0, dc0, rfl, _, e0, e1, e2, e3, _⟩ := HVB.out.at (List.getElem?_eq_getElem HL0.out.2)
      simp only [Nat.zero_mul, Nat.add_zero] at c0 c1 c2 c3 e0 e1 e2 e3
      obtain ⟨ia, hia⟩ : ∃ ia, la[0]'HL0.out.1 = ia := ⟨_, rfl⟩
      obtain ⟨ib, hib⟩ : ∃ ib, lb[0]'HL0.out.2 = ib := ⟨_, rfl⟩
      have HIA := Lib.hid hia
      have HIB := Lib.hid hib
      rw [hia] at c0 c1 c2 c3
      rw [hib] at e0 e1 e2 e3
      obtain ⟨sa, hsa⟩ : ∃ sa, Value.slice bo0 ia.2.2.2.length bc0 = sa := ⟨_, rfl⟩
      obtain ⟨sb, hsb⟩ : ∃ sb, Value.slice do0 ib.2.2.2.length dc0 = sb := ⟨_, rfl⟩
      have hna : (∀ (w : World) (a : Addr) (m : Mode), (store a sa m).run Tryz.prog w = stored Tryz.prog w a sa m) := by subst hsa; exact fun w a m => run_store Tryz.prog w a _ m rfl
      have hnb : (∀ (w : World) (a : Addr) (m : Mode), (store a sb m).run Tryz.prog w = stored Tryz.prog w a sb m) := by subst hsb; exact fun w a m => run_store Tryz.prog w a _ m rfl
      rw [hsa] at c3
      rw [hsb] at e3
      clear hia hib hsa hsb hlt
      have HC := Lib.hid (And.intro c0 (And.intro c1 (And.intro c2 (And.intro c3 (And.intro e0 (And.intro e1 (And.intro e2 e3)))))))
      go_wp2_with fail
      rw [show decide (k < n) = true from decide_eq_true HLT.out]
      clear c0 c1 c2 c3 e0 e1 e2 e3
      refine wp_mid (fun a a' w' => ∃ pb qb : Nat, a' = ((((((((a.put (some 59) (.slice (some ⟨b0, o0, none⟩) la.length cap)).put (some 60) (.pointer (some ⟨b0, o0, none⟩))).put (some 61) (.agg #[.int .i64 ia.1, .float .f64 ia.2.1, .int .i32 ia.2.2.1, sa])).put (some 62) (.slice (some ⟨d0, p0, none⟩) lb.length cbp)).put (some 63) (.pointer (some ⟨d0, p0, none⟩))).put (some 64) (.agg #[.int .i64 ib.1, .float .f64 ib.2.1, .int .i32 ib.2.2.1, sb])).put (some 15) (.pointer (some ⟨pb, 0, none⟩))).put (some 16) (.pointer (some ⟨qb, 0, none⟩))) ∧ Blk4 w' pb (.int .i64 ia.1) (.float .f64 ia.2.1) (.int .i32 ia.2.2.1) sa ∧ Blk4 w' qb (.int .i64 ib.1) (.float .f64 ib.2.1) (.int .i32 ib.2.2.1) sb ∧ pb ≠ qb ∧ wr.heap.size ≤ pb ∧ wr.heap.size ≤ qb ∧ Below wr.heap.size wr w') ?_ ?_
      · have HW0 := Lib.hid (Below.refl wr.heap.size wr)
        obtain ⟨W11, hWD⟩ : ∃ xw9, wr.drew = xw9 := ⟨_, rfl⟩
        have hB : Below wr.heap.size wr W11 := by rw [← hWD]; exact Below.drewN' (Below.refl _ _) 1
        replace HW0 := Lib.hid (HW0.out.trans (hB.mono HW0.out.size))
        clear hB
        refine wp_region_held_drew (S := fun w' => w'.cell? ⟨b0, o0, none⟩ = some (.int .i64 ia.1) ∧ w'.cell? ⟨b0, o0 + 1, none⟩ = some (.float .f64 ia.2.1) ∧ w'.cell? ⟨b0, o0 + 2, none⟩ = some (.int .i32 ia.2.2.1) ∧ w'.cell? ⟨b0, o0 + 3, none⟩ = some (sa) ∧ w'.cell? ⟨d0, p0, none⟩ = some (.int .i64 ib.1) ∧ w'.cell? ⟨d0, p0 + 1, none⟩ = some (.float .f64 ib.2.1) ∧ w'.cell? ⟨d0, p0 + 2, none⟩ = some (.int .i32 ib.2.2.1) ∧ w'.cell? ⟨d0, p0 + 3, none⟩ = some (sb)) (by kernel_rfl) (by rw [hWD]; exact ⟨keep_below HW0.out _ _ HC.out.1, keep_below HW0.out _ _ HC.out.2.1, keep_below HW0.out _ _ HC.out.2.2.1, keep_below HW0.out _ _ HC.out.2.2.2.1, keep_below HW0.out _ _ HC.out.2.2.2.2.1, keep_below HW0.out _ _ HC.out.2.2.2.2.2.1, keep_below HW0.out _ _ HC.out.2.2.2.2.2.2.1, keep_below HW0.out _ _ HC.out.2.2.2.2.2.2.2⟩) (fun hHeld => ?_)
        rw [hWD] at hHeld ⊢
        clear hWD
        refine wpAnyH_take (i := 0) (v := ?_) rfl (by kernel_rfl) (by kernel_rfl) (by kernel_rfl) (fun _ _ _ h => absurd h.1 (by simp)) (Or.inl ⟨by rfl, ?_⟩) (by assumption) ?_
        rotate_left
        · (intro w hSw; (try dsimp only at hSw); go_simp; try with_reducible rfl)
        simp only [Act.put, List.getElem_toArray, List.getElem_cons_zero, List.setIfInBounds_toArray, List.set_cons_zero, List.set_cons_succ]
        refine wpAnyH_take (i := 1) (v := ?_) rfl (by kernel_rfl) (by kernel_rfl) (by kernel_rfl) (fun _ _ _ h => absurd h.1 (by simp)) (Or.inl ⟨by rfl, ?_⟩) (by assumption) ?_
        rotate_left
        · (intro w hSw; (try dsimp only at hSw); go_simp; try with_reducible rfl)
        simp only [Act.put, List.getElem_toArray, List.getElem_cons_succ, List.getElem_cons_zero, List.setIfInBounds_toArray, List.set_cons_zero, List.set_cons_succ]
        refine wpAnyH_take (i := 2) (v := ?_) rfl (by kernel_rfl) (by kernel_rfl) (by kernel_rfl) (fun _ _ _ h => absurd h.1 (by simp)) (Or.inl ⟨by rfl, ?_⟩) (by assumption) ?_
        rotate_left
        · (intro w hSw; (try dsimp only at hSw); go_simp; try with_reducible rfl)
        simp only [Act.put, List.getElem_toArray, List.getElem_cons_succ, List.getElem_cons_zero, List.setIfInBounds_toArray, List.set_cons_zero, List.set_cons_succ]
        refine wpAnyH_take (i := 3) (v := ?_) rfl (by kernel_rfl) (by kernel_rfl) (by kernel_rfl) (fun _ _ _ h => absurd h.1 (by simp)) (Or.inl ⟨by rfl, ?_⟩) (by assumption) ?_
        rotate_left
        · (intro w hSw; (try dsimp only at hSw); go_simp; try with_reducible rfl)
        simp only [Act.put, List.getElem_toArray, List.getElem_cons_succ, List.getElem_cons_zero, List.setIfInBounds_toArray, List.set_cons_zero, List.set_cons_succ]
        refine wpAnyH_take (i := 4) (v := ?_) rfl (by kernel_rfl) (by kernel_rfl) (by kernel_rfl) (fun _ _ _ h => absurd h.1 (by simp)) (Or.inl ⟨by rfl, ?_⟩) (by assumption) ?_
        rotate_left
        · (intro w hSw; (try dsimp only at hSw); go_simp; try with_reducible rfl)
        simp only [Act.put, List.getElem_toArray, List.getElem_cons_succ, List.getElem_cons_zero, List.setIfInBounds_toArray, List.set_cons_zero, List.set_cons_succ]
        refine wpAnyH_take (i := 5) (v := ?_) rfl (by kernel_rfl) (by kernel_rfl) (by kernel_rfl) (fun _ _ _ h => absurd h.1 (by simp)) (Or.inl ⟨by rfl, ?_⟩) (by assumption) ?_
        rotate_left
        · (intro w hSw; (try dsimp only at hSw); go_simp; try with_reducible rfl)
        simp only [Act.put, List.getElem_toArray, List.getElem_cons_succ, List.getElem_cons_zero, List.setIfInBounds_toArray, List.set_cons_zero, List.set_cons_succ]
        refine wpAnyH_ready (rs := [6, 7]) (by kernel_rfl) (by simp) ?_
        refine AllReadyH.cons (o := _) rfl (fun K hK => ?_) ?_
        · clear hHeld
          go_simp
          obtain ⟨W12, hWn⟩ : ∃ xw9, W11.alloc (.cells #[.int .i64 0, .float .f64 0, .int .i32 0, .slice none 0 0] 58) = xw9 := ⟨_, rfl⟩
          have hB : Below W11.heap.size W11 W12 := by rw [← hWn]; exact below_new _ _
          have hNB : Blk4 W12 W11.heap.size (.int .i64 0) (.float .f64 0) (.int .i32 0) (.slice none 0 0) := by rw [← hWn]; exact Blk4.new _ _ _ _ _ _
          have hge : wr.heap.size ≤ W11.heap.size := HW0.out.size
          rw [hWn]
          clear hWn
          obtain ⟨pb, hnm⟩ : ∃ x, W11.heap.size = x := ⟨_, rfl⟩
          rw [hnm] at hNB hge ⊢
          replace HW0 := Lib.hid (HW0.out.trans (hB.mono HW0.out.size))
          have HP := Lib.hid hNB
          have HPG := Lib.hid hge
          clear hNB hB hnm hge
          refine hK.out _ _ ?_ (fun hHeld => ?_)
          · exact ⟨keep_below HW0.out _ _ HC.out.1, keep_below HW0.out _ _ HC.out.2.1, keep_below HW0.out _ _ HC.out.2.2.1, keep_below HW0.out _ _ HC.out.2.2.2.1, keep_below HW0.out _ _ HC.out.2.2.2.2.1, keep_below HW0.out _ _ HC.out.2.2.2.2.2.1, keep_below HW0.out _ _ HC.out.2.2.2.2.2.2.1, keep_below HW0.out _ _ HC.out.2.2.2.2.2.2.2⟩
          clear hK K
          refine wpAnyH_ready (rs := [7]) (by kernel_rfl) (by simp) ?_
          refine AllReadyH.cons (o := _) rfl (fun K hK => ?_) ?_
          · clear hHeld
            go_simp
            obtain ⟨W13, hWn⟩ : ∃ xw9, W12.alloc (.cells #[.int .i64 0, .float .f64 0, .int .i32 0, .slice none 0 0] 58) = xw9 := ⟨_, rfl⟩
            have hB : Below W12.heap.size W12 W13 := by rw [← hWn]; exact below_new _ _
            have hNB : Blk4 W13 W12.heap.size (.int .i64 0) (.float .f64 0) (.int .i32 0) (.slice none 0 0) := by rw [← hWn]; exact Blk4.new _ _ _ _ _ _
            have hge : wr.heap.size ≤ W12.heap.size := HW0.out.size
            rw [hWn]
            clear hWn
            obtain ⟨qb, hnm⟩ : ∃ x, W12.heap.size = x := ⟨_, rfl⟩
            rw [hnm] at hNB hge ⊢
            have HNE := Lib.hid (show pb ≠ qb by rw [← hnm]; exact Nat.ne_of_lt HP.out.1)
            replace HW0 := Lib.hid (HW0.out.trans (hB.mono HW0.out.size))
            replace HP := Lib.hid (HP.out.below hB)
            have HQ := Lib.hid hNB
            have HQG := Lib.hid hge
            clear hNB hB hnm hge
            refine hK.out _ _ ?_ (fun hHeld => ?_)
            · exact ⟨keep_below HW0.out _ _ HC.out.1, keep_below HW0.out _ _ HC.out.2.1, keep_below HW0.out _ _ HC.out.2.2.1, keep_below HW0.out _ _ HC.out.2.2.2.1, keep_below HW0.out _ _ HC.out.2.2.2.2.1, keep_below HW0.out _ _ HC.out.2.2.2.2.2.1, keep_below HW0.out _ _ HC.out.2.2.2.2.2.2.1, keep_below HW0.out _ _ HC.out.2.2.2.2.2.2.2⟩
            clear hK K
            refine wpAnyH_ready (rs := [8]) (by kernel_rfl) (by simp) ?_
            refine AllReadyH.cons (o := _) rfl (fun K hK => ?_) ?_
            · clear hHeld
              have s0 := HP.out.2.1
              have s1 := HP.out.2.2.1
              have s2 := HP.out.2.2.2.1
              have s3 := HP.out.2.2.2.2.1
              have z0 := HP.out.2.2.2.2.2 0
              have z1 := HP.out.2.2.2.2.2 1
              have z2 := HP.out.2.2.2.2.2 2
              have z3 := HP.out.2.2.2.2.2 3
              go_simp
              clear s0 s1 s2 s3 z0 z1 z2 z3
              obtain ⟨W14, hWn⟩ : ∃ xw9, ((((W13.setCell ⟨pb, 0, none⟩ (.int .i64 ia.1)).setCell ⟨pb, 1, none⟩ (.float .f64 ia.2.1)).setCell ⟨pb, 2, none⟩ (.int .i32 ia.2.2.1)).setCell ⟨pb, 3, none⟩ (sa)) = xw9 := ⟨_, rfl⟩
              rw [hWn]
              replace HP := Lib.hid (show Blk4 W14 pb (.int .i64 ia.1) (.float .f64 ia.2.1) (.int .i32 ia.2.2.1) (sa) by rw [← hWn]; exact ((((HP.out.set0 _).set1 _).set2 _).set3 _))
              replace HQ := Lib.hid (show Blk4 W14 qb _ _ _ _ by rw [← hWn]; exact ((((HQ.out.other ⟨pb, 0, none⟩ (Ne.symm HNE.out) _).other ⟨pb, 1, none⟩ (Ne.symm HNE.out) _).other ⟨pb, 2, none⟩ (Ne.symm HNE.out) _).other ⟨pb, 3, none⟩ (Ne.symm HNE.out) _))
              replace HW0 := Lib.hid (show Below wr.heap.size wr W14 by rw [← hWn]; exact ((((HW0.out.setCell (p := ⟨pb, 0, none⟩) HPG.out _).setCell (p := ⟨pb, 1, none⟩) HPG.out _).setCell (p := ⟨pb, 2, none⟩) HPG.out _).setCell (p := ⟨pb, 3, none⟩) HPG.out _))
              clear hWn
              refine hK.out _ _ ?_ (fun hHeld => ?_)
              · exact ⟨keep_below HW0.out _ _ HC.out.1, keep_below HW0.out _ _ HC.out.2.1, keep_below HW0.out _ _ HC.out.2.2.1, keep_below HW0.out _ _ HC.out.2.2.2.1, keep_below HW0.out _ _ HC.out.2.2.2.2.1, keep_below HW0.out _ _ HC.out.2.2.2.2.2.1, keep_below HW0.out _ _ HC.out.2.2.2.2.2.2.1, keep_below HW0.out _ _ HC.out.2.2.2.2.2.2.2⟩
              clear hK K
              refine wpAnyH_ready (rs := [9]) (by kernel_rfl) (by simp) ?_
              refine AllReadyH.cons (o := _) rfl (fun K hK => ?_) ?_
              · clear hHeld
                have s0 := HQ.out.2.1
                have s1 := HQ.out.2.2.1
                have s2 := HQ.out.2.2.2.1
                have s3 := HQ.out.2.2.2.2.1
                have z0 := HQ.out.2.2.2.2.2 0
                have z1 := HQ.out.2.2.2.2.2 1
                have z2 := HQ.out.2.2.2.2.2 2
                have z3 := HQ.out.2.2.2.2.2 3
                go_simp
                clear s0 s1 s2 s3 z0 z1 z2 z3
                obtain ⟨W15, hWn⟩ : ∃ xw9, ((((W14.setCell ⟨qb, 0, none⟩ (.int .i64 ib.1)).setCell ⟨qb, 1, none⟩ (.float .f64 ib.2.1)).setCell ⟨qb, 2, none⟩ (.int .i32 ib.2.2.1)).setCell ⟨qb, 3, none⟩ (sb)) = xw9 := ⟨_, rfl⟩
                rw [hWn]
                replace HQ := Lib.hid (show Blk4 W15 qb (.int .i64 ib.1) (.float .f64 ib.2.1) (.int .i32 ib.2.2.1) (sb) by rw [← hWn]; exact ((((HQ.out.set0 _).set1 _).set2 _).set3 _))
                replace HP := Lib.hid (show Blk4 W15 pb _ _ _ _ by rw [← hWn]; exact ((((HP.out.other ⟨qb, 0, none⟩ HNE.out _).other ⟨qb, 1, none⟩ HNE.out _).other ⟨qb, 2, none⟩ HNE.out _).other ⟨qb, 3, none⟩ HNE.out _))
                replace HW0 := Lib.hid (show Below wr.heap.size wr W15 by rw [← hWn]; exact ((((HW0.out.setCell (p := ⟨qb, 0, none⟩) HQG.out _).setCell (p := ⟨qb, 1, none⟩) HQG.out _).setCell (p := ⟨qb, 2, none⟩) HQG.out _).setCell (p := ⟨qb, 3, none⟩) HQG.out _))
                clear hWn
                refine hK.out _ _ ?_ (fun hHeld => ?_)
                · exact ⟨keep_below HW0.out _ _ HC.out.1, keep_below HW0.out _ _ HC.out.2.1, keep_below HW0.out _ _ HC.out.2.2.1, keep_below HW0.out _ _ HC.out.2.2.2.1, keep_below HW0.out _ _ HC.out.2.2.2.2.1, keep_below HW0.out _ _ HC.out.2.2.2.2.2.1, keep_below HW0.out _ _ HC.out.2.2.2.2.2.2.1, keep_below HW0.out _ _ HC.out.2.2.2.2.2.2.2⟩
                clear hK K
                refine wpAnyH_done (by kernel_rfl) ?_ _
                clear hHeld
                refine ⟨rfl, pb, qb, ?_, HP.out, HQ.out, HNE.out, HPG.out, HQG.out, HW0.out⟩
                rfl
              exact AllReadyH.nil
            exact AllReadyH.nil
          exact AllReadyH.nil
        refine AllReadyH.cons (o := _) rfl (fun K hK => ?_) ?_
        · clear hHeld
          go_simp
          obtain ⟨W12, hWn⟩ : ∃ xw9, W11.alloc (.cells #[.int .i64 0, .float .f64 0, .int .i32 0, .slice none 0 0] 58) = xw9 := ⟨_, rfl⟩
          have hB : Below W11.heap.size W11 W12 := by rw [← hWn]; exact below_new _ _
          have hNB : Blk4 W12 W11.heap.size (.int .i64 0) (.float .f64 0) (.int .i32 0) (.slice none 0 0) := by rw [← hWn]; exact Blk4.new _ _ _ _ _ _
          have hge : wr.heap.size ≤ W11.heap.size := HW0.out.size
          rw [hWn]
          clear hWn
          obtain ⟨qb, hnm⟩ : ∃ x, W11.heap.size = x := ⟨_, rfl⟩
          rw [hnm] at hNB hge ⊢
          replace HW0 := Lib.hid (HW0.out.trans (hB.mono HW0.out.size))
          have HQ := Lib.hid hNB
          have HQG := Lib.hid hge
          clear hNB hB hnm hge
          refine hK.out _ _ ?_ (fun hHeld => ?_)
          · exact ⟨keep_below HW0.out _ _ HC.out.1, keep_below HW0.out _ _ HC.out.2.1, keep_below HW0.out _ _ HC.out.2.2.1, keep_below HW0.out _ _ HC.out.2.2.2.1, keep_below HW0.out _ _ HC.out.2.2.2.2.1, keep_below HW0.out _ _ HC.out.2.2.2.2.2.1, keep_below HW0.out _ _ HC.out.2.2.2.2.2.2.1, keep_below HW0.out _ _ HC.out.2.2.2.2.2.2.2⟩
          clear hK K
          refine wpAnyH_ready (rs := [6]) (by kernel_rfl) (by simp) ?_
          refine AllReadyH.cons (o := _) rfl (fun K hK => ?_) ?_
          · clear hHeld
            go_simp
            obtain ⟨W13, hWn⟩ : ∃ xw9, W12.alloc (.cells #[.int .i64 0, .float .f64 0, .int .i32 0, .slice none 0 0] 58) = xw9 := ⟨_, rfl⟩
            have hB : Below W12.heap.size W12 W13 := by rw [← hWn]; exact below_new _ _
            have hNB : Blk4 W13 W12.heap.size (.int .i64 0) (.float .f64 0) (.int .i32 0) (.slice none 0 0) := by rw [← hWn]; exact Blk4.new _ _ _ _ _ _
            have hge : wr.heap.size ≤ W12.heap.size := HW0.out.size
            rw [hWn]
            clear hWn
            obtain ⟨pb, hnm⟩ : ∃ x, W12.heap.size = x := ⟨_, rfl⟩
            rw [hnm] at hNB hge ⊢
            have HNE := Lib.hid (show qb ≠ pb by rw [← hnm]; exact Nat.ne_of_lt HQ.out.1)
            replace HW0 := Lib.hid (HW0.out.trans (hB.mono HW0.out.size))
            replace HQ := Lib.hid (HQ.out.below hB)
            have HP := Lib.hid hNB
            have HPG := Lib.hid hge
            clear hNB hB hnm hge
            refine hK.out _ _ ?_ (fun hHeld => ?_)
            · exact ⟨keep_below HW0.out _ _ HC.out.1, keep_below HW0.out _ _ HC.out.2.1, keep_below HW0.out _ _ HC.out.2.2.1, keep_below HW0.out _ _ HC.out.2.2.2.1, keep_below HW0.out _ _ HC.out.2.2.2.2.1, keep_below HW0.out _ _ HC.out.2.2.2.2.2.1, keep_below HW0.out _ _ HC.out.2.2.2.2.2.2.1, keep_below HW0.out _ _ HC.out.2.2.2.2.2.2.2⟩
            clear hK K
            refine wpAnyH_ready (rs := [8]) (by kernel_rfl) (by simp) ?_
            refine AllReadyH.cons (o := _) rfl (fun K hK => ?_) ?_
            · clear hHeld
              have s0 := HP.out.2.1
              have s1 := HP.out.2.2.1
              have s2 := HP.out.2.2.2.1
              have s3 := HP.out.2.2.2.2.1
              have z0 := HP.out.2.2.2.2.2 0
              have z1 := HP.out.2.2.2.2.2 1
              have z2 := HP.out.2.2.2.2.2 2
              have z3 := HP.out.2.2.2.2.2 3
              go_simp
              clear s0 s1 s2 s3 z0 z1 z2 z3
              obtain ⟨W14, hWn⟩ : ∃ xw9, ((((W13.setCell ⟨pb, 0, none⟩ (.int .i64 ia.1)).setCell ⟨pb, 1, none⟩ (.float .f64 ia.2.1)).setCell ⟨pb, 2, none⟩ (.int .i32 ia.2.2.1)).setCell ⟨pb, 3, none⟩ (sa)) = xw9 := ⟨_, rfl⟩
              rw [hWn]
              replace HP := Lib.hid (show Blk4 W14 pb (.int .i64 ia.1) (.float .f64 ia.2.1) (.int .i32 ia.2.2.1) (sa) by rw [← hWn]; exact ((((HP.out.set0 _).set1 _).set2 _).set3 _))
              replace HQ := Lib.hid (show Blk4 W14 qb _ _ _ _ by rw [← hWn]; exact ((((HQ.out.other ⟨pb, 0, none⟩ HNE.out _).other ⟨pb, 1, none⟩ HNE.out _).other ⟨pb, 2, none⟩ HNE.out _).other ⟨pb, 3, none⟩ HNE.out _))
              replace HW0 := Lib.hid (show Below wr.heap.size wr W14 by rw [← hWn]; exact ((((HW0.out.setCell (p := ⟨pb, 0, none⟩) HPG.out _).setCell (p := ⟨pb, 1, none⟩) HPG.out _).setCell (p := ⟨pb, 2, none⟩) HPG.out _).setCell (p := ⟨pb, 3, none⟩) HPG.out _))
              clear hWn
              refine hK.out _ _ ?_ (fun hHeld => ?_)
              · exact ⟨keep_below HW0.out _ _ HC.out.1, keep_below HW0.out _ _ HC.out.2.1, keep_below HW0.out _ _ HC.out.2.2.1, keep_below HW0.out _ _ HC.out.2.2.2.1, keep_below HW0.out _ _ HC.out.2.2.2.2.1, keep_below HW0.out _ _ HC.out.2.2.2.2.2.1, keep_below HW0.out _ _ HC.out.2.2.2.2.2.2.1, keep_below HW0.out _ _ HC.out.2.2.2.2.2.2.2⟩
              clear hK K
              refine wpAnyH_ready (rs := [9]) (by kernel_rfl) (by simp) ?_
              refine AllReadyH.cons (o := _) rfl (fun K hK => ?_) ?_
              · clear hHeld
                have s0 := HQ.out.2.1
                have s1 := HQ.out.2.2.1
                have s2 := HQ.out.2.2.2.1
                have s3 := HQ.out.2.2.2.2.1
                have z0 := HQ.out.2.2.2.2.2 0
                have z1 := HQ.out.2.2.2.2.2 1
                have z2 := HQ.out.2.2.2.2.2 2
                have z3 := HQ.out.2.2.2.2.2 3
                go_simp
                clear s0 s1 s2 s3 z0 z1 z2 z3
                obtain ⟨W15, hWn⟩ : ∃ xw9, ((((W14.setCell ⟨qb, 0, none⟩ (.int .i64 ib.1)).setCell ⟨qb, 1, none⟩ (.float .f64 ib.2.1)).setCell ⟨qb, 2, none⟩ (.int .i32 ib.2.2.1)).setCell ⟨qb, 3, none⟩ (sb)) = xw9 := ⟨_, rfl⟩
                rw [hWn]
                replace HQ := Lib.hid (show Blk4 W15 qb (.int .i64 ib.1) (.float .f64 ib.2.1) (.int .i32 ib.2.2.1) (sb) by rw [← hWn]; exact ((((HQ.out.set0 _).set1 _).set2 _).set3 _))
                replace HP := Lib.hid (show Blk4 W15 pb _ _ _ _ by rw [← hWn]; exact ((((HP.out.other ⟨qb, 0, none⟩ (Ne.symm HNE.out) _).other ⟨qb, 1, none⟩ (Ne.symm HNE.out) _).other ⟨qb, 2, none⟩ (Ne.symm HNE.out) _).other ⟨qb, 3, none⟩ (Ne.symm HNE.out) _))
                replace HW0 := Lib.hid (show Below wr.heap.size wr W15 by rw [← hWn]; exact ((((HW0.out.setCell (p := ⟨qb, 0, none⟩) HQG.out _).setCell (p := ⟨qb, 1, none⟩) HQG.out _).setCell (p := ⟨qb, 2, none⟩) HQG.out _).setCell (p := ⟨qb, 3, none⟩) HQG.out _))
                clear hWn
                refine hK.out _ _ ?_ (fun hHeld => ?_)
                · exact ⟨keep_below HW0.out _ _ HC.out.1, keep_below HW0.out _ _ HC.out.2.1, keep_below HW0.out _ _ HC.out.2.2.1, keep_below HW0.out _ _ HC.out.2.2.2.1, keep_below HW0.out _ _ HC.out.2.2.2.2.1, keep_below HW0.out _ _ HC.out.2.2.2.2.2.1, keep_below HW0.out _ _ HC.out.2.2.2.2.2.2.1, keep_below HW0.out _ _ HC.out.2.2.2.2.2.2.2⟩
                clear hK K
                refine wpAnyH_done (by kernel_rfl) ?_ _
                clear hHeld
                refine ⟨rfl, pb, qb, ?_, HP.out, HQ.out, (Ne.symm HNE.out), HPG.out, HQG.out, HW0.out⟩
                rfl
              exact AllReadyH.nil
            exact AllReadyH.nil
          exact AllReadyH.nil
        exact AllReadyH.nil
      rintro _ W2 ⟨pb, qb, rfl, hp, hq, hne, hpg, hqg, hB⟩
      have HP := Lib.hid hp
      have HQ := Lib.hid hq
      have HNE := Lib.hid hne
      have HPG := Lib.hid hpg
      have HQG := Lib.hid hqg
      have HB2 := Lib.hid hB
      have HVA2 := Lib.hid (HVA.out.grow hB)
      have HVB2 := Lib.hid (HVB.out.grow hB)
      simp only [Act.put, List.setIfInBounds_toArray, List.set_cons_zero, List.set_cons_succ]
      clear hp hq hne hpg hqg hB HC
      by_cases ha1 : la.length = 1
      · by_cases hb1 : lb.length = 1
        · have h1a : ¬ 1 < la.length := by omega
          have HPKa := Lib.hid (show pk dI la k = ia by unfold pk; rw [if_pos ha1, List.getD_eq_getElem?_getD, List.getElem?_eq_getElem HL0.out.1, HIA.out]; rfl)
          have HFNa := Lib.hid (show Fnt ia.2.1 by rw [← HIA.out]; exact HFA.out _ (List.getElem_mem _))
          clear ha1
          have h1b : ¬ 1 < lb.length := by omega
          have HPKb := Lib.hid (show pk dI lb k = ib by unfold pk; rw [if_pos hb1, List.getD_eq_getElem?_getD, List.getElem?_eq_getElem HL0.out.2, HIB.out]; rfl)
          have HFNb := Lib.hid (show Fnt ib.2.1 by rw [← HIB.out]; exact HFB.out _ (List.getElem_mem _))
          clear hb1
          have p1 := HP.out.2.2.1
          have p2 := HP.out.2.2.2.1
          have q1 := HQ.out.2.2.1
          have q2 := HQ.out.2.2.2.1
          have HO9 := Lib.hid (owns_below HO.out HB2.out)
          have HB9 := Lib.hid (HB.out.trans (HB2.out.mono HB.out.size))
          have HSW := Lib.hid HB9.out.size
          rw [HPKa.out, HPKb.out] at HTK
          go_wp2_with fail
          refine (rrone_calls 13 ia.2.1 ib.2.1 _ HFNa.out HFNb.out).mono ?_
          rintro e w' ⟨rfl, rfl⟩
          have HRV := Lib.hid (show rrV 13 0 1 ia ib = false by unfold rrV; rw [if_neg (by decide)]; rfl)
          rw [HRV.out] at HTK
          have HM1 : Hid (k + 1 ≤ maxLen) := Lib.hid (by have := HLT.out; unfold maxLen; omega)
          go_wp2_with (at_builtin; refine wpList_append_own _ rfl _ _ 37 rfl w.heap.size 4 i0 (.bool false) 1 1 Tryz.underlying37 HI0.out.1 HI0.out.2.1 HI0.out.2.2.1 HI0.out.2.2.2 rfl (by decide) _ _ _ rfl (HO9.out.alloc _) ⟨W2.heap.size, 0, none⟩ 1 1 [.bool false] rfl rfl ?c1 ?c2 HM1.out ?c4 ?c5 ?_)
          case c1 =>
            intro j u hj
            match j, hj with
            | 0, hj => simp at hj; subst hj; simp [Addr.add]
          case c2 => intro u hu; simp at hu; subst hu; rfl
          case c4 => omega
          case c5 => have := HSW.out; simp <;> omega
          intro v' w3 hown' hgrow _
          have HO3 := Lib.hid hown'
          have HB3 := Lib.hid (grown_below (HB9.out.alloc HSW.out _) (HO9.out.alloc _) (Nat.le_refl _) (by have := HSW.out; simp <;> omega) hgrow)
          have hlt := HLT.out
          clear hown' hgrow
          go_wp2
          go_roundw
          case rel =>
            refine ⟨k + 1, by omega, by go_num, ?_, HB3.out⟩
            have := HO3.out
            rw [HTK.out]
            simpa [bools] using this
          case measure => simp [intOf]; omega
        · have h1a : ¬ 1 < la.length := by omega
          have HPKa := Lib.hid (show pk dI la k = ia by unfold pk; rw [if_pos ha1, List.getD_eq_getElem?_getD, List.getElem?_eq_getElem HL0.out.1, HIA.out]; rfl)
          have HFNa := Lib.hid (show Fnt ia.2.1 by rw [← HIA.out]; exact HFA.out _ (List.getElem_mem _))
          clear ha1
          have h1b : 1 < lb.length := by have := HL0.out; omega
          have hkb : k < lb.length := by have := HI.out; omega
          obtain ⟨bb, ob, bob, bcb, hbe, _, cb0, cb1, cb2, cb3, _⟩ := HVB2.out.at (List.getElem?_eq_getElem hkb)
          cases hbe
          obtain ⟨xb, hxb⟩ : ∃ x, lb[k]'hkb = x := ⟨_, rfl⟩
          have HPKb := Lib.hid (show pk dI lb k = xb by unfold pk; rw [if_neg hb1, List.getD_eq_getElem?_getD, List.getElem?_eq_getElem hkb, hxb]; rfl)
          have HFNb := Lib.hid (show Fnt xb.2.1 by rw [← hxb]; exact HFB.out _ (List.getElem_mem _))
          rw [hxb] at cb0 cb1 cb2 cb3
          obtain ⟨sb2, hsb2⟩ : ∃ s, Value.slice bob xb.2.2.2.length bcb = s := ⟨_, rfl⟩
          have hnb2 : (∀ (w : World) (a : Addr) (m : Mode), (store a sb2 m).run Tryz.prog w = stored Tryz.prog w a sb2 m) := by subst hsb2; exact fun w a m => run_store Tryz.prog w a _ m rfl
          rw [hsb2] at cb3
          clear hxb hsb2 hb1
          have tb0 := HQ.out.2.1
          have tb1 := HQ.out.2.2.1
          have tb2 := HQ.out.2.2.2.1
          have tb3 := HQ.out.2.2.2.2.1
          have zb0 := HQ.out.2.2.2.2.2 0
          have zb1 := HQ.out.2.2.2.2.2 1
          have zb2 := HQ.out.2.2.2.2.2 2
          have zb3 := HQ.out.2.2.2.2.2 3
          obtain ⟨W4, hWW4⟩ : ∃ xw9, ((((W2.setCell ⟨qb, 0, none⟩ (.int .i64 xb.1)).setCell ⟨qb, 1, none⟩ (.float .f64 xb.2.1)).setCell ⟨qb, 2, none⟩ (.int .i32 xb.2.2.1)).setCell ⟨qb, 3, none⟩ (sb2)) = xw9 := ⟨_, rfl⟩
          replace HQ := Lib.hid (show Blk4 W4 qb (.int .i64 xb.1) (.float .f64 xb.2.1) (.int .i32 xb.2.2.1) (sb2) by rw [← hWW4]; exact ((((HQ.out.set0 _).set1 _).set2 _).set3 _))
          replace HP := Lib.hid (show Blk4 W4 pb _ _ _ _ by rw [← hWW4]; exact ((((HP.out.other ⟨qb, 0, none⟩ HNE.out _).other ⟨qb, 1, none⟩ HNE.out _).other ⟨qb, 2, none⟩ HNE.out _).other ⟨qb, 3, none⟩ HNE.out _))
          replace HB2 := Lib.hid (show Below wr.heap.size wr W4 by rw [← hWW4]; exact ((((HB2.out.setCell (p := ⟨qb, 0, none⟩) HQG.out _).setCell (p := ⟨qb, 1, none⟩) HQG.out _).setCell (p := ⟨qb, 2, none⟩) HQG.out _).setCell (p := ⟨qb, 3, none⟩) HQG.out _))
          replace HVA2 := Lib.hid (HVA.out.grow HB2.out)
          replace HVB2 := Lib.hid (HVB.out.grow HB2.out)
          have p1 := HP.out.2.2.1
          have p2 := HP.out.2.2.2.1
          have q1 := HQ.out.2.2.1
          have q2 := HQ.out.2.2.2.1
          have HO9 := Lib.hid (owns_below HO.out HB2.out)
          have HB9 := Lib.hid (HB.out.trans (HB2.out.mono HB.out.size))
          have HSW := Lib.hid HB9.out.size
          rw [HPKa.out, HPKb.out] at HTK
          go_wp2_with fail
          refine (rrone_calls 13 ia.2.1 xb.2.1 _ HFNa.out HFNb.out).mono ?_
          rintro e w' ⟨rfl, rfl⟩
          have HRV := Lib.hid (show rrV 13 0 1 ia xb = false by unfold rrV; rw [if_neg (by decide)]; rfl)
          rw [HRV.out] at HTK
          have HM1 : Hid (k + 1 ≤ maxLen) := Lib.hid (by have := HLT.out; unfold maxLen; omega)
          go_wp2_with (at_builtin; refine wpList_append_own _ rfl _ _ 37 rfl w.heap.size 4 i0 (.bool false) 1 1 Tryz.underlying37 HI0.out.1 HI0.out.2.1 HI0.out.2.2.1 HI0.out.2.2.2 rfl (by decide) _ _ _ rfl (HO9.out.alloc _) ⟨W4.heap.size, 0, none⟩ 1 1 [.bool false] rfl rfl ?c1 ?c2 HM1.out ?c4 ?c5 ?_)
          case c1 =>
            intro j u hj
            match j, hj with
            | 0, hj => simp at hj; subst hj; simp [Addr.add]
          case c2 => intro u hu; simp at hu; subst hu; rfl
          case c4 => omega
          case c5 => have := HSW.out; simp <;> omega
          intro v' w3 hown' hgrow _
          have HO3 := Lib.hid hown'
          have HB3 := Lib.hid (grown_below (HB9.out.alloc HSW.out _) (HO9.out.alloc _) (Nat.le_refl _) (by have := HSW.out; simp <;> omega) hgrow)
          have hlt := HLT.out
          clear hown' hgrow
          go_wp2
          go_roundw
          case rel =>
            refine ⟨k + 1, by omega, by go_num, ?_, HB3.out⟩
            have := HO3.out
            rw [HTK.out]
            simpa [bools] using this
          case measure => simp [intOf]; omega
      · by_cases hb1 : lb.length = 1
        · have h1a : 1 < la.length := by have := HL0.out; omega
          have hka : k < la.length := by have := HI.out; omega
          obtain ⟨ba, oa, boa, bca, hbe, _, ca0, ca1, ca2, ca3, _⟩ := HVA2.out.at (List.getElem?_eq_getElem hka)
          cases hbe
          obtain ⟨xa, hxa⟩ : ∃ x, la[k]'hka = x := ⟨_, rfl⟩
          have HPKa := Lib.hid (show pk dI la k = xa by unfold pk; rw [if_neg ha1, List.getD_eq_getElem?_getD, List.getElem?_eq_getElem hka, hxa]; rfl)
          have HFNa := Lib.hid (show Fnt xa.2.1 by rw [← hxa]; exact HFA.out _ (List.getElem_mem _))
          rw [hxa] at ca0 ca1 ca2 ca3
          obtain ⟨sa2, hsa2⟩ : ∃ s, Value.slice boa xa.2.2.2.length bca = s := ⟨_, rfl⟩
          have hna2 : (∀ (w : World) (a : Addr) (m : Mode), (store a sa2 m).run Tryz.prog w = stored Tryz.prog w a sa2 m) := by subst hsa2; exact fun w a m => run_store Tryz.prog w a _ m rfl
          rw [hsa2] at ca3
          clear hxa hsa2 ha1
          have ta0 := HP.out.2.1
          have ta1 := HP.out.2.2.1
          have ta2 := HP.out.2.2.2.1
          have ta3 := HP.out.2.2.2.2.1
          have za0 := HP.out.2.2.2.2.2 0
          have za1 := HP.out.2.2.2.2.2 1
          have za2 := HP.out.2.2.2.2.2 2
          have za3 := HP.out.2.2.2.2.2 3
          obtain ⟨W3, hWW3⟩ : ∃ xw9, ((((W2.setCell ⟨pb, 0, none⟩ (.int .i64 xa.1)).setCell ⟨pb, 1, none⟩ (.float .f64 xa.2.1)).setCell ⟨pb, 2, none⟩ (.int .i32 xa.2.2.1)).setCell ⟨pb, 3, none⟩ (sa2)) = xw9 := ⟨_, rfl⟩
          replace HP := Lib.hid (show Blk4 W3 pb (.int .i64 xa.1) (.float .f64 xa.2.1) (.int .i32 xa.2.2.1) (sa2) by rw [← hWW3]; exact ((((HP.out.set0 _).set1 _).set2 _).set3 _))
          replace HQ := Lib.hid (show Blk4 W3 qb _ _ _ _ by rw [← hWW3]; exact ((((HQ.out.other ⟨pb, 0, none⟩ (Ne.symm HNE.out) _).other ⟨pb, 1, none⟩ (Ne.symm HNE.out) _).other ⟨pb, 2, none⟩ (Ne.symm HNE.out) _).other ⟨pb, 3, none⟩ (Ne.symm HNE.out) _))
          replace HB2 := Lib.hid (show Below wr.heap.size wr W3 by rw [← hWW3]; exact ((((HB2.out.setCell (p := ⟨pb, 0, none⟩) HPG.out _).setCell (p := ⟨pb, 1, none⟩) HPG.out _).setCell (p := ⟨pb, 2, none⟩) HPG.out _).setCell (p := ⟨pb, 3, none⟩) HPG.out _))
          replace HVA2 := Lib.hid (HVA.out.grow HB2.out)
          replace HVB2 := Lib.hid (HVB.out.grow HB2.out)
          have h1b : ¬ 1 < lb.length := by omega
          have HPKb := Lib.hid (show pk dI lb k = ib by unfold pk; rw [if_pos hb1, List.getD_eq_getElem?_getD, List.getElem?_eq_getElem HL0.out.2, HIB.out]; rfl)
          have HFNb := Lib.hid (show Fnt ib.2.1 by rw [← HIB.out]; exact HFB.out _ (List.getElem_mem _))
          clear hb1
          have p1 := HP.out.2.2.1
          have p2 := HP.out.2.2.2.1
          have q1 := HQ.out.2.2.1
          have q2 := HQ.out.2.2.2.1
          have HO9 := Lib.hid (owns_below HO.out HB2.out)
          have HB9 := Lib.hid (HB.out.trans (HB2.out.mono HB.out.size))
          have HSW := Lib.hid HB9.out.size
          rw [HPKa.out, HPKb.out] at HTK
          go_wp2_with fail
          refine (rrone_calls 13 xa.2.1 ib.2.1 _ HFNa.out HFNb.out).mono ?_
          rintro e w' ⟨rfl, rfl⟩
          have HRV := Lib.hid (show rrV 13 0 1 xa ib = false by unfold rrV; rw [if_neg (by decide)]; rfl)
          rw [HRV.out] at HTK
          have HM1 : Hid (k + 1 ≤ maxLen) := Lib.hid (by have := HLT.out; unfold maxLen; omega)
          go_wp2_with (at_builtin; refine wpList_append_own _ rfl _ _ 37 rfl w.heap.size 4 i0 (.bool false) 1 1 Tryz.underlying37 HI0.out.1 HI0.out.2.1 HI0.out.2.2.1 HI0.out.2.2.2 rfl (by decide) _ _ _ rfl (HO9.out.alloc _) ⟨W3.heap.size, 0, none⟩ 1 1 [.bool false] rfl rfl ?c1 ?c2 HM1.out ?c4 ?c5 ?_)
          case c1 =>
            intro j u hj
            match j, hj with
            | 0, hj => simp at hj; subst hj; simp [Addr.add]
          case c2 => intro u hu; simp at hu; subst hu; rfl
          case c4 => omega
          case c5 => have := HSW.out; simp <;> omega
          intro v' w3 hown' hgrow _
          have HO3 := Lib.hid hown'
          have HB3 := Lib.hid (grown_below (HB9.out.alloc HSW.out _) (HO9.out.alloc _) (Nat.le_refl _) (by have := HSW.out; simp <;> omega) hgrow)
          have hlt := HLT.out
          clear hown' hgrow
          go_wp2
          go_roundw
          case rel =>
            refine ⟨k + 1, by omega, by go_num, ?_, HB3.out⟩
            have := HO3.out
            rw [HTK.out]
            simpa [bools] using this
          case measure => simp [intOf]; omega
        · have h1a : 1 < la.length := by have := HL0.out; omega
          have hka : k < la.length := by have := HI.out; omega
          obtain ⟨ba, oa, boa, bca, hbe, _, ca0, ca1, ca2, ca3, _⟩ := HVA2.out.at (List.getElem?_eq_getElem hka)
          cases hbe
          obtain ⟨xa, hxa⟩ : ∃ x, la[k]'hka = x := ⟨_, rfl⟩
          have HPKa := Lib.hid (show pk dI la k = xa by unfold pk; rw [if_neg ha1, List.getD_eq_getElem?_getD, List.getElem?_eq_getElem hka, hxa]; rfl)
          have HFNa := Lib.hid (show Fnt xa.2.1 by rw [← hxa]; exact HFA.out _ (List.getElem_mem _))
          rw [hxa] at ca0 ca1 ca2 ca3
          obtain ⟨sa2, hsa2⟩ : ∃ s, Value.slice boa xa.2.2.2.length bca = s := ⟨_, rfl⟩
          have hna2 : (∀ (w : World) (a : Addr) (m : Mode), (store a sa2 m).run Tryz.prog w = stored Tryz.prog w a sa2 m) := by subst hsa2; exact fun w a m => run_store Tryz.prog w a _ m rfl
          rw [hsa2] at ca3
          clear hxa hsa2 ha1
          have ta0 := HP.out.2.1
          have ta1 := HP.out.2.2.1
          have ta2 := HP.out.2.2.2.1
          have ta3 := HP.out.2.2.2.2.1
          have za0 := HP.out.2.2.2.2.2 0
          have za1 := HP.out.2.2.2.2.2 1
          have za2 := HP.out.2.2.2.2.2 2
          have za3 := HP.out.2.2.2.2.2 3
          obtain ⟨W3, hWW3⟩ : ∃ xw9, ((((W2.setCell ⟨pb, 0, none⟩ (.int .i64 xa.1)).setCell ⟨pb, 1, none⟩ (.float .f64 xa.2.1)).setCell ⟨pb, 2, none⟩ (.int .i32 xa.2.2.1)).setCell ⟨pb, 3, none⟩ (sa2)) = xw9 := ⟨_, rfl⟩
          replace HP := Lib.hid (show Blk4 W3 pb (.int .i64 xa.1) (.float .f64 xa.2.1) (.int .i32 xa.2.2.1) (sa2) by rw [← hWW3]; exact ((((HP.out.set0 _).set1 _).set2 _).set3 _))
          replace HQ := Lib.hid (show Blk4 W3 qb _ _ _ _ by rw [← hWW3]; exact ((((HQ.out.other ⟨pb, 0, none⟩ (Ne.symm HNE.out) _).other ⟨pb, 1, none⟩ (Ne.symm HNE.out) _).other ⟨pb, 2, none⟩ (Ne.symm HNE.out) _).other ⟨pb, 3, none⟩ (Ne.symm HNE.out) _))
          replace HB2 := Lib.hid (show Below wr.heap.size wr W3 by rw [← hWW3]; exact ((((HB2.out.setCell (p := ⟨pb, 0, none⟩) HPG.out _).setCell (p := ⟨pb, 1, none⟩) HPG.out _).setCell (p := ⟨pb, 2, none⟩) HPG.out _).setCell (p := ⟨pb, 3, none⟩) HPG.out _))
          replace HVA2 := Lib.hid (HVA.out.grow HB2.out)
          replace HVB2 := Lib.hid (HVB.out.grow HB2.out)
          have h1b : 1 < lb.length := by have := HL0.out; omega
          have hkb : k < lb.length := by have := HI.out; omega
          obtain ⟨bb, ob, bob, bcb, hbe, _, cb0, cb1, cb2, cb3, _⟩ := HVB2.out.at (List.getElem?_eq_getElem hkb)
          cases hbe
          obtain ⟨xb, hxb⟩ : ∃ x, lb[k]'hkb = x := ⟨_, rfl⟩
          have HPKb := Lib.hid (show pk dI lb k = xb by unfold pk; rw [if_neg hb1, List.getD_eq_getElem?_getD, List.getElem?_eq_getElem hkb, hxb]; rfl)
          have HFNb := Lib.hid (show Fnt xb.2.1 by rw [← hxb]; exact HFB.out _ (List.getElem_mem _))
          rw [hxb] at cb0 cb1 cb2 cb3
          obtain ⟨sb2, hsb2⟩ : ∃ s, Value.slice bob xb.2.2.2.length bcb = s := ⟨_, rfl⟩
          have hnb2 : (∀ (w : World) (a : Addr) (m : Mode), (store a sb2 m).run Tryz.prog w = stored Tryz.prog w a sb2 m) := by subst hsb2; exact fun w a m => run_store Tryz.prog w a _ m rfl
          rw [hsb2] at cb3
          clear hxb hsb2 hb1
          have tb0 := HQ.out.2.1
          have tb1 := HQ.out.2.2.1
          have tb2 := HQ.out.2.2.2.1
          have tb3 := HQ.out.2.2.2.2.1
          have zb0 := HQ.out.2.2.2.2.2 0
          have zb1 := HQ.out.2.2.2.2.2 1
          have zb2 := HQ.out.2.2.2.2.2 2
          have zb3 := HQ.out.2.2.2.2.2 3
          obtain ⟨W4, hWW4⟩ : ∃ xw9, ((((W3.setCell ⟨qb, 0, none⟩ (.int .i64 xb.1)).setCell ⟨qb, 1, none⟩ (.float .f64 xb.2.1)).setCell ⟨qb, 2, none⟩ (.int .i32 xb.2.2.1)).setCell ⟨qb, 3, none⟩ (sb2)) = xw9 := ⟨_, rfl⟩
          replace HQ := Lib.hid (show Blk4 W4 qb (.int .i64 xb.1) (.float .f64 xb.2.1) (.int .i32 xb.2.2.1) (sb2) by rw [← hWW4]; exact ((((HQ.out.set0 _).set1 _).set2 _).set3 _))
          replace HP := Lib.hid (show Blk4 W4 pb _ _ _ _ by rw [← hWW4]; exact ((((HP.out.other ⟨qb, 0, none⟩ HNE.out _).other ⟨qb, 1, none⟩ HNE.out _).other ⟨qb, 2, none⟩ HNE.out _).other ⟨qb, 3, none⟩ HNE.out _))
          replace HB2 := Lib.hid (show Below wr.heap.size wr W4 by rw [← hWW4]; exact ((((HB2.out.setCell (p := ⟨qb, 0, none⟩) HQG.out _).setCell (p := ⟨qb, 1, none⟩) HQG.out _).setCell (p := ⟨qb, 2, none⟩) HQG.out _).setCell (p := ⟨qb, 3, none⟩) HQG.out _))
          replace HVA2 := Lib.hid (HVA.out.grow HB2.out)
          replace HVB2 := Lib.hid (HVB.out.grow HB2.out)
          have p1 := HP.out.2.2.1
          have p2 := HP.out.2.2.2.1
          have q1 := HQ.out.2.2.1
          have q2 := HQ.out.2.2.2.1
          have HO9 := Lib.hid (owns_below HO.out HB2.out)
          have HB9 := Lib.hid (HB.out.trans (HB2.out.mono HB.out.size))
          have HSW := Lib.hid HB9.out.size
          rw [HPKa.out, HPKb.out] at HTK
          go_wp2_with fail
          refine (rrone_calls 13 xa.2.1 xb.2.1 _ HFNa.out HFNb.out).mono ?_
          rintro e w' ⟨rfl, rfl⟩
          have HRV := Lib.hid (show rrV 13 0 1 xa xb = false by unfold rrV; rw [if_neg (by decide)]; rfl)
          rw [HRV.out] at HTK
          have HM1 : Hid (k + 1 ≤ maxLen) := Lib.hid (by have := HLT.out; unfold maxLen; omega)
          go_wp2_with (at_builtin; refine wpList_append_own _ rfl _ _ 37 rfl w.heap.size 4 i0 (.bool false) 1 1 Tryz.underlying37 HI0.out.1 HI0.out.2.1 HI0.out.2.2.1 HI0.out.2.2.2 rfl (by decide) _ _ _ rfl (HO9.out.alloc _) ⟨W4.heap.size, 0, none⟩ 1 1 [.bool false] rfl rfl ?c1 ?c2 HM1.out ?c4 ?c5 ?_)
          case c1 =>
            intro j u hj
            match j, hj with
            | 0, hj => simp at hj; subst hj; simp [Addr.add]
          case c2 => intro u hu; simp at hu; subst hu; rfl
          case c4 => omega
          case c5 => have := HSW.out; simp <;> omega
          intro v' w3 hown' hgrow _
          have HO3 := Lib.hid hown'
          have HB3 := Lib.hid (grown_below (HB9.out.alloc HSW.out _) (HO9.out.alloc _) (Nat.le_refl _) (by have := HSW.out; simp <;> omega) hgrow)
          have hlt := HLT.out
          clear hown' hgrow
          go_wp2
          go_roundw
          case rel =>
            refine ⟨k + 1, by omega, by go_num, ?_, HB3.out⟩
            have := HO3.out
            rw [HTK.out]
            simpa [bools] using this
          case measure => simp [intOf]; omega
    · have hkn : k = n := by omega
      have HTA := Lib.hid (show bools (R.take k) = bools R by rw [hkn, List.take_of_length_le (Nat.le_of_eq HRL.out)])
      have HKN := Lib.hid hkn
      clear hkn
      go_wp2
      go_ret2
      refine ⟨_, rfl, ?_, HB.out⟩
      have := Slc.owned HO.out
      rw [HTA.out, HKN.out] at this
      rw [HRL.out]
      exact this
set_option maxHeartbeats 8000000 in
theorem rr1310_calls {okA okB : Nat → Prop} (va vb : Value) (la lb : List PI) (w : World) (hva : Its w okA va la) (hvb : Its w okB vb lb) (hla : la.length ≤ 1048576) (hlb : lb.length ≤ 1048576) (fa : ∀ p ∈ la, Fnt p.2.1) (fb : ∀ p ∈ lb, Fnt p.2.1) (hg : goesA la.length lb.length) :
    Calls Tryz.prog 9 #[.int .i64 13, va, .int .i64 1, vb, .int .i64 0] w (Told (rrL 13 1 0 la lb) w) := by
  obtain ⟨n, hn⟩ : ∃ n, lenN la.length lb.length = n := ⟨_, rfl⟩
  obtain ⟨R, hR⟩ : ∃ R, rrL 13 1 0 la lb = R := ⟨_, rfl⟩
  have HRL := Lib.hid (show R.length = n by rw [← hR, ← hn]; exact rrL_len _ _ _ _ _)
  have HRT := Lib.hid (show ∀ k, k < n → R.take (k + 1) = R.take k ++ [rrV 13 1 0 (pk dI la k) (pk dI lb k)] by rw [← hR]; intro k hk; exact rrL_take (by rw [hn]; exact hk))
  have HIN := Lib.hid (show ∀ i, i < n → (la.length = 1 ∨ i < la.length) ∧ (lb.length = 1 ∨ i < lb.length) by
    intro i hi
    rw [← hn] at hi
    exact lenN_in hg hi)
  rw [hR]
  have HNL := Lib.hid (show n ≤ 1048576 by rw [← hn]; exact lenN_le hla hlb)
  have HN := Lib.hid hn
  have HG := Lib.hid hg
  have HFA := Lib.hid fa
  have HFB := Lib.hid fb
  have HLL := Lib.hid (And.intro hla hlb)
  have HVA := Lib.hid hva
  have HVB := Lib.hid hvb
  obtain ⟨ao, cap, rfl, _, _⟩ := hva.len
  obtain ⟨bo, cbp, rfl, _, _⟩ := hvb.len
  have hst := run_store_float
  clear hn hR hva hvb hla hlb fa fb hg
  obtain ⟨i0, hi, hz0, hz1, hz2⟩ := info_parts info_bool1
  have HI0 := Lib.hid (And.intro hi (And.intro hz0 (And.intro hz1 hz2)))
  clear hi hz0 hz1 hz2
  go_enter Tryz.func9, Tryz.ntmps9
  go_wp2_with (refine (ralen_yes _ _ _ HG.out).mono ?_; rintro e w' ⟨rfl, rfl⟩; rw [HN.out])
  go_loopw [13, 14] (fun v i wr => ∃ k : Nat, k ≤ n ∧ i = .int .i64 k ∧ wr.ownsRow w.heap.size 4 1 v k (bools (R.take k)) ∧ Below w.heap.size w wr) (fun _ i _ => n - (intOf i).toNat)
  case atStart => exact ⟨0, by omega, rfl, World.ownsRow_nil _ _ _ _, Below.refl _ _⟩
  case round =>
    obtain ⟨k, hk, rfl, hown, hB⟩ := hrel
    have HO := Lib.hid hown
    have HB := Lib.hid hB
    clear hown hB
    have hnm := HNL.out
    by_cases hlt : k < n
    · have HI := Lib.hid (HIN.out k hlt)
      have HL0 := Lib.hid (show 0 < la.length ∧ 0 < lb.length by have := HI.out; omega)
      have hl1 := HL0.out.1
      have hl2 := HL0.out.2
      have HVA := Lib.hid (HVA.out.grow HB.out)
      have HVB := Lib.hid (HVB.out.grow HB.out)
      have HTK := Lib.hid (HRT.out k hlt)
      have HLT := Lib.hid hlt
      obtain ⟨b0, o0, bo0, bc0, rfl, _, c0, c1, c2, c3, _⟩ := HVA.out.at (List.getElem?_eq_getElem HL0.out.1)
      obtain ⟨d0, p0, do0, dc0, rfl, _, e0, e1, e2, e3, _⟩ := HVB.out.at (List.getElem?_eq_getElem HL0.out.2)
      simp only [Nat.zero_mul, Nat.add_zero] at c0 c1 c2 c3 e0 e1 e2 e3
      obtain ⟨ia, hia⟩ : ∃ ia, la[0]'HL0.out.1 = ia := ⟨_, rfl⟩
      obtain ⟨ib, hib⟩ : ∃ ib, lb[0]'HL0.out.2 = ib := ⟨_, rfl⟩
      have HIA := Lib.hid hia
      have HIB := Lib.hid hib
      rw [hia] at c0 c1 c2 c3
      rw [hib] at e0 e1 e2 e3
      obtain ⟨sa, hsa⟩ : ∃ sa, Value.slice bo0 ia.2.2.2.length bc0 = sa := ⟨_, rfl⟩
      obtain ⟨sb, hsb⟩ : ∃ sb, Value.slice do0 ib.2.2.2.length dc0 = sb := ⟨_, rfl⟩
      have hna : (∀ (w : World) (a : Addr) (m : Mode), (store a sa m).run Tryz.prog w = stored Tryz.prog w a sa m) := by subst hsa; exact fun w a m => run_store Tryz.prog w a _ m rfl
      have hnb : (∀ (w : World) (a : Addr) (m : Mode), (store a sb m).run Tryz.prog w = stored Tryz.prog w a sb m) := by subst hsb; exact fun w a m => run_store Tryz.prog w a _ m rfl
      rw [hsa] at c3
      rw [hsb] at e3
      clear hia hib hsa hsb hlt
      have HC := Lib.hid (And.intro c0 (And.intro c1 (And.intro c2 (And.intro c3 (And.intro e0 (And.intro e1 (And.intro e2 e3)))))))
      go_wp2_with fail
      rw [show decide (k < n) = true from decide_eq_true HLT.out]
      clear c0 c1 c2 c3 e0 e1 e2 e3
      refine wp_mid (fun a a' w' => ∃ pb qb : Nat, a' = ((((((((a.put (some 59) (.slice (some ⟨b0, o0, none⟩) la.length cap)).put (some 60) (.pointer (some ⟨b0, o0, none⟩))).put (some 61) (.agg #[.int .i64 ia.1, .float .f64 ia.2.1, .int .i32 ia.2.2.1, sa])).put (some 62) (.slice (some ⟨d0, p0, none⟩) lb.length cbp)).put (some 63) (.pointer (some ⟨d0, p0, none⟩))).put (some 64) (.agg #[.int .i64 ib.1, .float .f64 ib.2.1, .int .i32 ib.2.2.1, sb])).put (some 15) (.pointer (some ⟨pb, 0, none⟩))).put (some 16) (.pointer (some ⟨qb, 0, none⟩))) ∧ Blk4 w' pb (.int .i64 ia.1) (.float .f64 ia.2.1) (.int .i32 ia.2.2.1) sa ∧ Blk4 w' qb (.int .i64 ib.1) (.float .f64 ib.2.1) (.int .i32 ib.2.2.1) sb ∧ pb ≠ qb ∧ wr.heap.size ≤ pb ∧ wr.heap.size ≤ qb ∧ Below wr.heap.size wr w') ?_ ?_
      · have HW0 := Lib.hid (Below.refl wr.heap.size wr)
        obtain ⟨W11, hWD⟩ : ∃ xw9, wr.drew = xw9 := ⟨_, rfl⟩
        have hB : Below wr.heap.size wr W11 := by rw [← hWD]; exact Below.drewN' (Below.refl _ _) 1
        replace HW0 := Lib.hid (HW0.out.trans (hB.mono HW0.out.size))
        clear hB
        refine wp_region_held_drew (S := fun w' => w'.cell? ⟨b0, o0, none⟩ = some (.int .i64 ia.1) ∧ w'.cell? ⟨b0, o0 + 1, none⟩ = some (.float .f64 ia.2.1) ∧ w'.cell? ⟨b0, o0 + 2, none⟩ = some (.int .i32 ia.2.2.1) ∧ w'.cell? ⟨b0, o0 + 3, none⟩ = some (sa) ∧ w'.cell? ⟨d0, p0, none⟩ = some (.int .i64 ib.1) ∧ w'.cell? ⟨d0, p0 + 1, none⟩ = some (.float .f64 ib.2.1) ∧ w'.cell? ⟨d0, p0 + 2, none⟩ = some (.int .i32 ib.2.2.1) ∧ w'.cell? ⟨d0, p0 + 3, none⟩ = some (sb)) (by kernel_rfl) (by rw [hWD]; exact ⟨keep_below HW0.out _ _ HC.out.1, keep_below HW0.out _ _ HC.out.2.1, keep_below HW0.out _ _ HC.out.2.2.1, keep_below HW0.out _ _ HC.out.2.2.2.1, keep_below HW0.out _ _ HC.out.2.2.2.2.1, keep_below HW0.out _ _ HC.out.2.2.2.2.2.1, keep_below HW0.out _ _ HC.out.2.2.2.2.2.2.1, keep_below HW0.out _ _ HC.out.2.2.2.2.2.2.2⟩) (fun hHeld => ?_)
        rw [hWD] at hHeld ⊢
        clear hWD
        refine wpAnyH_take (i := 0) (v := ?_) rfl (by kernel_rfl) (by kernel_rfl) (by kernel_rfl) (fun _ _ _ h => absurd h.1 (by simp)) (Or.inl ⟨by rfl, ?_⟩) (by assumption) ?_
        rotate_left
        · (intro w hSw; (try dsimp only at hSw); go_simp; try with_reducible rfl)
        simp only [Act.put, List.getElem_toArray, List.getElem_cons_zero, List.setIfInBounds_toArray, List.set_cons_zero, List.set_cons_succ]
        refine wpAnyH_take (i := 1) (v := ?_) rfl (by kernel_rfl) (by kernel_rfl) (by kernel_rfl) (fun _ _ _ h => absurd h.1 (by simp)) (Or.inl ⟨by rfl, ?_⟩) (by assumption) ?_
        rotate_left
        · (intro w hSw; (try dsimp only at hSw); go_simp; try with_reducible rfl)
        simp only [Act.put, List.getElem_toArray, List.getElem_cons_succ, List.getElem_cons_zero, List.setIfInBounds_toArray, List.set_cons_zero, List.set_cons_succ]
        refine wpAnyH_take (i := 2) (v := ?_) rfl (by kernel_rfl) (by kernel_rfl) (by kernel_rfl) (fun _ _ _ h => absurd h.1 (by simp)) (Or.inl ⟨by rfl, ?_⟩) (by assumption) ?_
        rotate_left
        · (intro w hSw; (try dsimp only at hSw); go_simp; try with_reducible rfl)
        simp only [Act.put, List.getElem_toArray, List.getElem_cons_succ, List.getElem_cons_zero, List.setIfInBounds_toArray, List.set_cons_zero, List.set_cons_succ]
        refine wpAnyH_take (i := 3) (v := ?_) rfl (by kernel_rfl) (by kernel_rfl) (by kernel_rfl) (fun _ _ _ h => absurd h.1 (by simp)) (Or.inl ⟨by rfl, ?_⟩) (by assumption) ?_
        rotate_left
        · (intro w hSw; (try dsimp only at hSw); go_simp; try with_reducible rfl)
        simp only [Act.put, List.getElem_toArray, List.getElem_cons_succ, List.getElem_cons_zero, List.setIfInBounds_toArray, List.set_cons_zero, List.set_cons_succ]
        refine wpAnyH_take (i := 4) (v := ?_) rfl (by kernel_rfl) (by kernel_rfl) (by kernel_rfl) (fun _ _ _ h => absurd h.1 (by simp)) (Or.inl ⟨by rfl, ?_⟩) (by assumption) ?_
        rotate_left
        · (intro w hSw; (try dsimp only at hSw); go_simp; try with_reducible rfl)
        simp only [Act.put, List.getElem_toArray, List.getElem_cons_succ, List.getElem_cons_zero, List.setIfInBounds_toArray, List.set_cons_zero, List.set_cons_succ]
        refine wpAnyH_take (i := 5) (v := ?_) rfl (by kernel_rfl) (by kernel_rfl) (by kernel_rfl) (fun _ _ _ h => absurd h.1 (by simp)) (Or.inl ⟨by rfl, ?_⟩) (by assumption) ?_
        rotate_left
        · (intro w hSw; (try dsimp only at hSw); go_simp; try with_reducible rfl)
        simp only [Act.put, List.getElem_toArray, List.getElem_cons_succ, List.getElem_cons_zero, List.setIfInBounds_toArray, List.set_cons_zero, List.set_cons_succ]
        refine wpAnyH_ready (rs := [6, 7]) (by kernel_rfl) (by simp) ?_
        refine AllReadyH.cons (o := _) rfl (fun K hK => ?_) ?_
        · clear hHeld
          go_simp
          obtain ⟨W12, hWn⟩ : ∃ xw9, W11.alloc (.cells #[.int .i64 0, .float .f64 0, .int .i32 0, .slice none 0 0] 58) = xw9 := ⟨_, rfl⟩
          have hB : Below W11.heap.size W11 W12 := by rw [← hWn]; exact below_new _ _
          have hNB : Blk4 W12 W11.heap.size (.int .i64 0) (.float .f64 0) (.int .i32 0) (.slice none 0 0) := by rw [← hWn]; exact Blk4.new _ _ _ _ _ _
          have hge : wr.heap.size ≤ W11.heap.size := HW0.out.size
          rw [hWn]
          clear hWn
          obtain ⟨pb, hnm⟩ : ∃ x, W11.heap.size = x := ⟨_, rfl⟩
          rw [hnm] at hNB hge ⊢
          replace HW0 := Lib.hid (HW0.out.trans (hB.mono HW0.out.size))
          have HP := Lib.hid hNB
          have HPG := Lib.hid hge
          clear hNB hB hnm hge
          refine hK.out _ _ ?_ (fun hHeld => ?_)
          · exact ⟨keep_below HW0.out _ _ HC.out.1, keep_below HW0.out _ _ HC.out.2.1, keep_below HW0.out _ _ HC.out.2.2.1, keep_below HW0.out _ _ HC.out.2.2.2.1, keep_below HW0.out _ _ HC.out.2.2.2.2.1, keep_below HW0.out _ _ HC.out.2.2.2.2.2.1, keep_below HW0.out _ _ HC.out.2.2.2.2.2.2.1, keep_below HW0.out _ _ HC.out.2.2.2.2.2.2.2⟩
          clear hK K
          refine wpAnyH_ready (rs := [7]) (by kernel_rfl) (by simp) ?_
          refine AllReadyH.cons (o := _) rfl (fun K hK => ?_) ?_
          · clear hHeld
            go_simp
            obtain ⟨W13, hWn⟩ : ∃ xw9, W12.alloc (.cells #[.int .i64 0, .float .f64 0, .int .i32 0, .slice none 0 0] 58) = xw9 := ⟨_, rfl⟩
            have hB : Below W12.heap.size W12 W13 := by rw [← hWn]; exact below_new _ _
            have hNB : Blk4 W13 W12.heap.size (.int .i64 0) (.float .f64 0) (.int .i32 0) (.slice none 0 0) := by rw [← hWn]; exact Blk4.new _ _ _ _ _ _
            have hge : wr.heap.size ≤ W12.heap.size := HW0.out.size
            rw [hWn]
            clear hWn
            obtain ⟨qb, hnm⟩ : ∃ x, W12.heap.size = x := ⟨_, rfl⟩
            rw [hnm] at hNB hge ⊢
            have HNE := Lib.hid (show pb ≠ qb by rw [← hnm]; exact Nat.ne_of_lt HP.out.1)
            replace HW0 := Lib.hid (HW0.out.trans (hB.mono HW0.out.size))
            replace HP := Lib.hid (HP.out.below hB)
            have HQ := Lib.hid hNB
            have HQG := Lib.hid hge
            clear hNB hB hnm hge
            refine hK.out _ _ ?_ (fun hHeld => ?_)
            · exact ⟨keep_below HW0.out _ _ HC.out.1, keep_below HW0.out _ _ HC.out.2.1, keep_below HW0.out _ _ HC.out.2.2.1, keep_below HW0.out _ _ HC.out.2.2.2.1, keep_below HW0.out _ _ HC.out.2.2.2.2.1, keep_below HW0.out _ _ HC.out.2.2.2.2.2.1, keep_below HW0.out _ _ HC.out.2.2.2.2.2.2.1, keep_below HW0.out _ _ HC.out.2.2.2.2.2.2.2⟩
            clear hK K
            refine wpAnyH_ready (rs := [8]) (by kernel_rfl) (by simp) ?_
            refine AllReadyH.cons (o := _) rfl (fun K hK => ?_) ?_
            · clear hHeld
              have s0 := HP.out.2.1
              have s1 := HP.out.2.2.1
              have s2 := HP.out.2.2.2.1
              have s3 := HP.out.2.2.2.2.1
              have z0 := HP.out.2.2.2.2.2 0
              have z1 := HP.out.2.2.2.2.2 1
              have z2 := HP.out.2.2.2.2.2 2
              have z3 := HP.out.2.2.2.2.2 3
              go_simp
              clear s0 s1 s2 s3 z0 z1 z2 z3
              obtain ⟨W14, hWn⟩ : ∃ xw9, ((((W13.setCell ⟨pb, 0, none⟩ (.int .i64 ia.1)).setCell ⟨pb, 1, none⟩ (.float .f64 ia.2.1)).setCell ⟨pb, 2, none⟩ (.int .i32 ia.2.2.1)).setCell ⟨pb, 3, none⟩ (sa)) = xw9 := ⟨_, rfl⟩
              rw [hWn]
              replace HP := Lib.hid (show Blk4 W14 pb (.int .i64 ia.1) (.float .f64 ia.2.1) (.int .i32 ia.2.2.1) (sa) by rw [← hWn]; exact ((((HP.out.set0 _).set1 _).set2 _).set3 _))
              replace HQ := Lib.hid (show Blk4 W14 qb _ _ _ _ by rw [← hWn]; exact ((((HQ.out.other ⟨pb, 0, none⟩ (Ne.symm HNE.out) _).other ⟨pb, 1, none⟩ (Ne.symm HNE.out) _).other ⟨pb, 2, none⟩ (Ne.symm HNE.out) _).other ⟨pb, 3, none⟩ (Ne.symm HNE.out) _))
              replace HW0 := Lib.hid (show Below wr.heap.size wr W14 by rw [← hWn]; exact ((((HW0.out.setCell (p := ⟨pb, 0, none⟩) HPG.out _).setCell (p := ⟨pb, 1, none⟩) HPG.out _).setCell (p := ⟨pb, 2, none⟩) HPG.out _).setCell (p := ⟨pb, 3, none⟩) HPG.out _))
              clear hWn
              refine hK.out _ _ ?_ (fun hHeld => ?_)
              · exact ⟨keep_below HW0.out _ _ HC.out.1, keep_below HW0.out _ _ HC.out.2.1, keep_below HW0.out _ _ HC.out.2.2.1, keep_below HW0.out _ _ HC.out.2.2.2.1, keep_below HW0.out _ _ HC.out.2.2.2.2.1, keep_below HW0.out _ _ HC.out.2.2.2.2.2.1, keep_below HW0.out _ _ HC.out.2.2.2.2.2.2.1, keep_below HW0.out _ _ HC.out.2.2.2.2.2.2.2⟩
              clear hK K
              refine wpAnyH_ready (rs := [9]) (by kernel_rfl) (by simp) ?_
              refine AllReadyH.cons (o := _) rfl (fun K hK => ?_) ?_
              · clear hHeld
                have s0 := HQ.out.2.1
                have s1 := HQ.out.2.2.1
                have s2 := HQ.out.2.2.2.1
                have s3 := HQ.out.2.2.2.2.1
                have z0 := HQ.out.2.2.2.2.2 0
                have z1 := HQ.out.2.2.2.2.2 1
                have z2 := HQ.out.2.2.2.2.2 2
                have z3 := HQ.out.2.2.2.2.2 3
                go_simp
                clear s0 s1 s2 s3 z0 z1 z2 z3
                obtain ⟨W15, hWn⟩ : ∃ xw9, ((((W14.setCell ⟨qb, 0, none⟩ (.int .i64 ib.1)).setCell ⟨qb, 1, none⟩ (.float .f64 ib.2.1)).setCell ⟨qb, 2, none⟩ (.int .i32 ib.2.2.1)).setCell ⟨qb, 3, none⟩ (sb)) = xw9 := ⟨_, rfl⟩
                rw [hWn]
                replace HQ := Lib.hid (show Blk4 W15 qb (.int .i64 ib.1) (.float .f64 ib.2.1) (.int .i32 ib.2.2.1) (sb) by rw [← hWn]; exact ((((HQ.out.set0 _).set1 _).set2 _).set3 _))
                replace HP := Lib.hid (show Blk4 W15 pb _ _ _ _ by rw [← hWn]; exact ((((HP.out.other ⟨qb, 0, none⟩ HNE.out _).other ⟨qb, 1, none⟩ HNE.out _).other ⟨qb, 2, none⟩ HNE.out _).other ⟨qb, 3, none⟩ HNE.out _))
                replace HW0 := Lib.hid (show Below wr.heap.size wr W15 by rw [← hWn]; exact ((((HW0.out.setCell (p := ⟨qb, 0, none⟩) HQG.out _).setCell (p := ⟨qb, 1, none⟩) HQG.out _).setCell (p := ⟨qb, 2, none⟩) HQG.out _).setCell (p := ⟨qb, 3, none⟩) HQG.out _))
                clear hWn
                refine hK.out _ _ ?_ (fun hHeld => ?_)
                · exact ⟨keep_below HW0.out _ _ HC.out.1, keep_below HW0.out _ _ HC.out.2.1, keep_below HW0.out _ _ HC.out.2.2.1, keep_below HW0.out _ _ HC.out.2.2.2.1, keep_below HW0.out _ _ HC.out.2.2.2.2.1, keep_below HW0.out _ _ HC.out.2.2.2.2.2.1, keep_below HW0.out _ _ HC.out.2.2.2.2.2.2.1, keep_below HW0.out _ _ HC.out.2.2.2.2.2.2.2⟩
                clear hK K
                refine wpAnyH_done (by kernel_rfl) ?_ _
                clear hHeld
                refine ⟨rfl, pb, qb, ?_, HP.out, HQ.out, HNE.out, HPG.out, HQG.out, HW0.out⟩
                rfl
              exact AllReadyH.nil
            exact AllReadyH.nil
          exact AllReadyH.nil
        refine AllReadyH.cons (o := _) rfl (fun K hK => ?_) ?_
        · clear hHeld
          go_simp
          obtain ⟨W12, hWn⟩ : ∃ xw9, W11.alloc (.cells #[.int .i64 0, .float .f64 0, .int .i32 0, .slice none 0 0] 58) = xw9 := ⟨_, rfl⟩
          have hB : Below W11.heap.size W11 W12 := by rw [← hWn]; exact below_new _ _
          have hNB : Blk4 W12 W11.heap.size (.int .i64 0) (.float .f64 0) (.int .i32 0) (.slice none 0 0) := by rw [← hWn]; exact Blk4.new _ _ _ _ _ _
          have hge : wr.heap.size ≤ W11.heap.size := HW0.out.size
          rw [hWn]
          clear hWn
          obtain ⟨qb, hnm⟩ : ∃ x, W11.heap.size = x := ⟨_, rfl⟩
          rw [hnm] at hNB hge ⊢
          replace HW0 := Lib.hid (HW0.out.trans (hB.mono HW0.out.size))
          have HQ := Lib.hid hNB
          have HQG := Lib.hid hge
          clear hNB hB hnm hge
          refine hK.out _ _ ?_ (fun hHeld => ?_)
          · exact ⟨keep_below HW0.out _ _ HC.out.1, keep_below HW0.out _ _ HC.out.2.1, keep_below HW0.out _ _ HC.out.2.2.1, keep_below HW0.out _ _ HC.out.2.2.2.1, keep_below HW0.out _ _ HC.out.2.2.2.2.1, keep_below HW0.out _ _ HC.out.2.2.2.2.2.1, keep_below HW0.out _ _ HC.out.2.2.2.2.2.2.1, keep_below HW0.out _ _ HC.out.2.2.2.2.2.2.2⟩
          clear hK K
          refine wpAnyH_ready (rs := [6]) (by kernel_rfl) (by simp) ?_
          refine AllReadyH.cons (o := _) rfl (fun K hK => ?_) ?_
          · clear hHeld
            go_simp
            obtain ⟨W13, hWn⟩ : ∃ xw9, W12.alloc (.cells #[.int .i64 0, .float .f64 0, .int .i32 0, .slice none 0 0] 58) = xw9 := ⟨_, rfl⟩
            have hB : Below W12.heap.size W12 W13 := by rw [← hWn]; exact below_new _ _
            have hNB : Blk4 W13 W12.heap.size (.int .i64 0) (.float .f64 0) (.int .i32 0) (.slice none 0 0) := by rw [← hWn]; exact Blk4.new _ _ _ _ _ _
            have hge : wr.heap.size ≤ W12.heap.size := HW0.out.size
            rw [hWn]
            clear hWn
            obtain ⟨pb, hnm⟩ : ∃ x, W12.heap.size = x := ⟨_, rfl⟩
            rw [hnm] at hNB hge ⊢
            have HNE := Lib.hid (show qb ≠ pb by rw [← hnm]; exact Nat.ne_of_lt HQ.out.1)
            replace HW0 := Lib.hid (HW0.out.trans (hB.mono HW0.out.size))
            replace HQ := Lib.hid (HQ.out.below hB)
            have HP := Lib.hid hNB
            have HPG := Lib.hid hge
            clear hNB hB hnm hge
            refine hK.out _ _ ?_ (fun hHeld => ?_)
            · exact ⟨keep_below HW0.out _ _ HC.out.1, keep_below HW0.out _ _ HC.out.2.1, keep_below HW0.out _ _ HC.out.2.2.1, keep_below HW0.out _ _ HC.out.2.2.2.1, keep_below HW0.out _ _ HC.out.2.2.2.2.1, keep_below HW0.out _ _ HC.out.2.2.2.2.2.1, keep_below HW0.out _ _ HC.out.2.2.2.2.2.2.1, keep_below HW0.out _ _ HC.out.2.2.2.2.2.2.2⟩
            clear hK K
            refine wpAnyH_ready (rs := [8]) (by kernel_rfl) (by simp) ?_
            refine AllReadyH.cons (o := _) rfl (fun K hK => ?_) ?_
            · clear hHeld
              have s0 := HP.out.2.1
              have s1 := HP.out.2.2.1
              have s2 := HP.out.2.2.2.1
              have s3 := HP.out.2.2.2.2.1
              have z0 := HP.out.2.2.2.2.2 0
              have z1 := HP.out.2.2.2.2.2 1
              have z2 := HP.out.2.2.2.2.2 2
              have z3 := HP.out.2.2.2.2.2 3
              go_simp
              clear s0 s1 s2 s3 z0 z1 z2 z3
              obtain ⟨W14, hWn⟩ : ∃ xw9, ((((W13.setCell ⟨pb, 0, none⟩ (.int .i64 ia.1)).setCell ⟨pb, 1, none⟩ (.float .f64 ia.2.1)).setCell ⟨pb, 2, none⟩ (.int .i32 ia.2.2.1)).setCell ⟨pb, 3, none⟩ (sa)) = xw9 := ⟨_, rfl⟩
              rw [hWn]
              replace HP := Lib.hid (show Blk4 W14 pb (.int .i64 ia.1) (.float .f64 ia.2.1) (.int .i32 ia.2.2.1) (sa) by rw [← hWn]; exact ((((HP.out.set0 _).set1 _).set2 _).set3 _))
              replace HQ := Lib.hid (show Blk4 W14 qb _ _ _ _ by rw [← hWn]; exact ((((HQ.out.other ⟨pb, 0, none⟩ HNE.out _).other ⟨pb, 1, none⟩ HNE.out _).other ⟨pb, 2, none⟩ HNE.out _).other ⟨pb, 3, none⟩ HNE.out _))
              replace HW0 := Lib.hid (show Below wr.heap.size wr W14 by rw [← hWn]; exact ((((HW0.out.setCell (p := ⟨pb, 0, none⟩) HPG.out _).setCell (p := ⟨pb, 1, none⟩) HPG.out _).setCell (p := ⟨pb, 2, none⟩) HPG.out _).setCell (p := ⟨pb, 3, none⟩) HPG.out _))
              clear hWn
              refine hK.out _ _ ?_ (fun hHeld => ?_)
              · exact ⟨keep_below HW0.out _ _ HC.out.1, keep_below HW0.out _ _ HC.out.2.1, keep_below HW0.out _ _ HC.out.2.2.1, keep_below HW0.out _ _ HC.out.2.2.2.1, keep_below HW0.out _ _ HC.out.2.2.2.2.1, keep_below HW0.out _ _ HC.out.2.2.2.2.2.1, keep_below HW0.out _ _ HC.out.2.2.2.2.2.2.1, keep_below HW0.out _ _ HC.out.2.2.2.2.2.2.2⟩
              clear hK K
              refine wpAnyH_ready (rs := [9]) (by kernel_rfl) (by simp) ?_
              refine AllReadyH.cons (o := _) rfl (fun K hK => ?_) ?_
              · clear hHeld
                have s0 := HQ.out.2.1
                have s1 := HQ.out.2.2.1
                have s2 := HQ.out.2.2.2.1
                have s3 := HQ.out.2.2.2.2.1
                have z0 := HQ.out.2.2.2.2.2 0
                have z1 := HQ.out.2.2.2.2.2 1
                have z2 := HQ.out.2.2.2.2.2 2
                have z3 := HQ.out.2.2.2.2.2 3
                go_simp
                clear s0 s1 s2 s3 z0 z1 z2 z3
                obtain ⟨W15, hWn⟩ : ∃ xw9, ((((W14.setCell ⟨qb, 0, none⟩ (.int .i64 ib.1)).setCell ⟨qb, 1, none⟩ (.float .f64 ib.2.1)).setCell ⟨qb, 2, none⟩ (.int .i32 ib.2.2.1)).setCell ⟨qb, 3, none⟩ (sb)) = xw9 := ⟨_, rfl⟩
                rw [hWn]
                replace HQ := Lib.hid (show Blk4 W15 qb (.int .i64 ib.1) (.float .f64 ib.2.1) (.int .i32 ib.2.2.1) (sb) by rw [← hWn]; exact ((((HQ.out.set0 _).set1 _).set2 _).set3 _))
                replace HP := Lib.hid (show Blk4 W15 pb _ _ _ _ by rw [← hWn]; exact ((((HP.out.other ⟨qb, 0, none⟩ (Ne.symm HNE.out) _).other ⟨qb, 1, none⟩ (Ne.symm HNE.out) _).other ⟨qb, 2, none⟩ (Ne.symm HNE.out) _).other ⟨qb, 3, none⟩ (Ne.symm HNE.out) _))
                replace HW0 := Lib.hid (show Below wr.heap.size wr W15 by rw [← hWn]; exact ((((HW0.out.setCell (p := ⟨qb, 0, none⟩) HQG.out _).setCell (p := ⟨qb, 1, none⟩) HQG.out _).setCell (p := ⟨qb, 2, none⟩) HQG.out _).setCell (p := ⟨qb, 3, none⟩) HQG.out _))
                clear hWn
                refine hK.out _ _ ?_ (fun hHeld => ?_)
                · exact ⟨keep_below HW0.out _ _ HC.out.1, keep_below HW0.out _ _ HC.out.2.1, keep_below HW0.out _ _ HC.out.2.2.1, keep_below HW0.out _ _ HC.out.2.2.2.1, keep_below HW0.out _ _ HC.out.2.2.2.2.1, keep_below HW0.out _ _ HC.out.2.2.2.2.2.1, keep_below HW0.out _ _ HC.out.2.2.2.2.2.2.1, keep_below HW0.out _ _ HC.out.2.2.2.2.2.2.2⟩
                clear hK K
                refine wpAnyH_done (by kernel_rfl) ?_ _
                clear hHeld
                refine ⟨rfl, pb, qb, ?_, HP.out, HQ.out, (Ne.symm HNE.out), HPG.out, HQG.out, HW0.out⟩
                rfl
              exact AllReadyH.nil
            exact AllReadyH.nil
          exact AllReadyH.nil
        exact AllReadyH.nil
      rintro _ W2 ⟨pb, qb, rfl, hp, hq, hne, hpg, hqg, hB⟩
      have HP := Lib.hid hp
      have HQ := Lib.hid hq
      have HNE := Lib.hid hne
      have HPG := Lib.hid hpg
      have HQG := Lib.hid hqg
      have HB2 := Lib.hid hB
      have HVA2 := Lib.hid (HVA.out.grow hB)
      have HVB2 := Lib.hid (HVB.out.grow hB)
      simp only [Act.put, List.setIfInBounds_toArray, List.set_cons_zero, List.set_cons_succ]
      clear hp hq hne hpg hqg hB HC
      by_cases ha1 : la.length = 1
      · by_cases hb1 : lb.length = 1
        · have h1a : ¬ 1 < la.length := by omega
          have HPKa := Lib.hid (show pk dI la k = ia by unfold pk; rw [if_pos ha1, List.getD_eq_getElem?_getD, List.getElem?_eq_getElem HL0.out.1, HIA.out]; rfl)
          have HFNa := Lib.hid (show Fnt ia.2.1 by rw [← HIA.out]; exact HFA.out _ (List.getElem_mem _))
          clear ha1
          have h1b : ¬ 1 < lb.length := by omega
          have HPKb := Lib.hid (show pk dI lb k = ib by unfold pk; rw [if_pos hb1, List.getD_eq_getElem?_getD, List.getElem?_eq_getElem HL0.out.2, HIB.out]; rfl)
          have HFNb := Lib.hid (show Fnt ib.2.1 by rw [← HIB.out]; exact HFB.out _ (List.getElem_mem _))
          clear hb1
          have p1 := HP.out.2.2.1
          have p2 := HP.out.2.2.2.1
          have q1 := HQ.out.2.2.1
          have q2 := HQ.out.2.2.2.1
          have HO9 := Lib.hid (owns_below HO.out HB2.out)
          have HB9 := Lib.hid (HB.out.trans (HB2.out.mono HB.out.size))
          have HSW := Lib.hid HB9.out.size
          rw [HPKa.out, HPKb.out] at HTK
          go_wp2_with fail
          refine (rrone_calls 13 ia.2.1 ib.2.1 _ HFNa.out HFNb.out).mono ?_
          rintro e w' ⟨rfl, rfl⟩
          have HRV := Lib.hid (show rrV 13 1 0 ia ib = false by unfold rrV; rw [if_neg (by decide)]; rfl)
          rw [HRV.out] at HTK
          have HM1 : Hid (k + 1 ≤ maxLen) := Lib.hid (by have := HLT.out; unfold maxLen; omega)
          go_wp2_with (at_builtin; refine wpList_append_own _ rfl _ _ 37 rfl w.heap.size 4 i0 (.bool false) 1 1 Tryz.underlying37 HI0.out.1 HI0.out.2.1 HI0.out.2.2.1 HI0.out.2.2.2 rfl (by decide) _ _ _ rfl (HO9.out.alloc _) ⟨W2.heap.size, 0, none⟩ 1 1 [.bool false] rfl rfl ?c1 ?c2 HM1.out ?c4 ?c5 ?_)
          case c1 =>
            intro j u hj
            match j, hj with
            | 0, hj => simp at hj; subst hj; simp [Addr.add]
          case c2 => intro u hu; simp at hu; subst hu; rfl
          case c4 => omega
          case c5 => have := HSW.out; simp <;> omega
          intro v' w3 hown' hgrow _
          have HO3 := Lib.hid hown'
          have HB3 := Lib.hid (grown_below (HB9.out.alloc HSW.out _) (HO9.out.alloc _) (Nat.le_refl _) (by have := HSW.out; simp <;> omega) hgrow)
          have hlt := HLT.out
          clear hown' hgrow
          go_wp2
          go_roundw
          case rel =>
            refine ⟨k + 1, by omega, by go_num, ?_, HB3.out⟩
            have := HO3.out
            rw [HTK.out]
            simpa [bools] using this
          case measure => simp [intOf]; omega
        · have h1a : ¬ 1 < la.length := by omega
          have HPKa := Lib.hid (show pk dI la k = ia by unfold pk; rw [if_pos ha1, List.getD_eq_getElem?_getD, List.getElem?_eq_getElem HL0.out.1, HIA.out]; rfl)
          have HFNa := Lib.hid (show Fnt ia.2.1 by rw [← HIA.out]; exact HFA.out _ (List.getElem_mem _))
          clear ha1
          have h1b : 1 < lb.length := by have := HL0.out; omega
          have hkb : k < lb.length := by have := HI.out; omega
          obtain ⟨bb, ob, bob, bcb, hbe, _, cb0, cb1, cb2, cb3, _⟩ := HVB2.out.at (List.getElem?_eq_getElem hkb)
          cases hbe
          obtain ⟨xb, hxb⟩ : ∃ x, lb[k]'hkb = x := ⟨_, rfl⟩
          have HPKb := Lib.hid (show pk dI lb k = xb by unfold pk; rw [if_neg hb1, List.getD_eq_getElem?_getD, List.getElem?_eq_getElem hkb, hxb]; rfl)
          have HFNb := Lib.hid (show Fnt xb.2.1 by rw [← hxb]; exact HFB.out _ (List.getElem_mem _))
          rw [hxb] at cb0 cb1 cb2 cb3
          obtain ⟨sb2, hsb2⟩ : ∃ s, Value.slice bob xb.2.2.2.length bcb = s := ⟨_, rfl⟩
          have hnb2 : (∀ (w : World) (a : Addr) (m : Mode), (store a sb2 m).run Tryz.prog w = stored Tryz.prog w a sb2 m) := by subst hsb2; exact fun w a m => run_store Tryz.prog w a _ m rfl
          rw [hsb2] at cb3
          clear hxb hsb2 hb1
          have tb0 := HQ.out.2.1
          have tb1 := HQ.out.2.2.1
          have tb2 := HQ.out.2.2.2.1
          have tb3 := HQ.out.2.2.2.2.1
          have zb0 := HQ.out.2.2.2.2.2 0
          have zb1 := HQ.out.2.2.2.2.2 1
          have zb2 := HQ.out.2.2.2.2.2 2
          have zb3 := HQ.out.2.2.2.2.2 3
          obtain ⟨W4, hWW4⟩ : ∃ xw9, ((((W2.setCell ⟨qb, 0, none⟩ (.int .i64 xb.1)).setCell ⟨qb, 1, none⟩ (.float .f64 xb.2.1)).setCell ⟨qb, 2, none⟩ (.int .i32 xb.2.2.1)).setCell ⟨qb, 3, none⟩ (sb2)) = xw9 := ⟨_, rfl⟩
          replace HQ := Lib.hid (show Blk4 W4 qb (.int .i64 xb.1) (.float .f64 xb.2.1) (.int .i32 xb.2.2.1) (sb2) by rw [← hWW4]; exact ((((HQ.out.set0 _).set1 _).set2 _).set3 _))
          replace HP := Lib.hid (show Blk4 W4 pb _ _ _ _ by rw [← hWW4]; exact ((((HP.out.other ⟨qb, 0, none⟩ HNE.out _).other ⟨qb, 1, none⟩ HNE.out _).other ⟨qb, 2, none⟩ HNE.out _).other ⟨qb, 3, none⟩ HNE.out _))
          replace HB2 := Lib.hid (show Below wr.heap.size wr W4 by rw [← hWW4]; exact ((((HB2.out.setCell (p := ⟨qb, 0, none⟩) HQG.out _).setCell (p := ⟨qb, 1, none⟩) HQG.out _).setCell (p := ⟨qb, 2, none⟩) HQG.out _).setCell (p := ⟨qb, 3, none⟩) HQG.out _))
          replace HVA2 := Lib.hid (HVA.out.grow HB2.out)
          replace HVB2 := Lib.hid (HVB.out.grow HB2.out)
          have p1 := HP.out.2.2.1
          have p2 := HP.out.2.2.2.1
          have q1 := HQ.out.2.2.1
          have q2 := HQ.out.2.2.2.1
          have HO9 := Lib.hid (owns_below HO.out HB2.out)
          have HB9 := Lib.hid (HB.out.trans (HB2.out.mono HB.out.size))
          have HSW := Lib.hid HB9.out.size
          rw [HPKa.out, HPKb.out] at HTK
          go_wp2_with fail
          refine (rrone_calls 13 ia.2.1 xb.2.1 _ HFNa.out HFNb.out).mono ?_
          rintro e w' ⟨rfl, rfl⟩
          have HRV := Lib.hid (show rrV 13 1 0 ia xb = false by unfold rrV; rw [if_neg (by decide)]; rfl)
          rw [HRV.out] at HTK
          have HM1 : Hid (k + 1 ≤ maxLen) := Lib.hid (by have := HLT.out; unfold maxLen; omega)
          go_wp2_with (at_builtin; refine wpList_append_own _ rfl _ _ 37 rfl w.heap.size 4 i0 (.bool false) 1 1 Tryz.underlying37 HI0.out.1 HI0.out.2.1 HI0.out.2.2.1 HI0.out.2.2.2 rfl (by decide) _ _ _ rfl (HO9.out.alloc _) ⟨W4.heap.size, 0, none⟩ 1 1 [.bool false] rfl rfl ?c1 ?c2 HM1.out ?c4 ?c5 ?_)
          case c1 =>
            intro j u hj
            match j, hj with
            | 0, hj => simp at hj; subst hj; simp [Addr.add]
          case c2 => intro u hu; simp at hu; subst hu; rfl
          case c4 => omega
          case c5 => have := HSW.out; simp <;> omega
          intro v' w3 hown' hgrow _
          have HO3 := Lib.hid hown'
          have HB3 := Lib.hid (grown_below (HB9.out.alloc HSW.out _) (HO9.out.alloc _) (Nat.le_refl _) (by have := HSW.out; simp <;> omega) hgrow)
          have hlt := HLT.out
          clear hown' hgrow
          go_wp2
          go_roundw
          case rel =>
            refine ⟨k + 1, by omega, by go_num, ?_, HB3.out⟩
            have := HO3.out
            rw [HTK.out]
            simpa [bools] using this
          case measure => simp [intOf]; omega
      · by_cases hb1 : lb.length = 1
        · have h1a : 1 < la.length := by have := HL0.out; omega
          have hka : k < la.length := by have := HI.out; omega
          obtain ⟨ba, oa, boa, bca, hbe, _, ca0, ca1, ca2, ca3, _⟩ := HVA2.out.at (List.getElem?_eq_getElem hka)
          cases hbe
          obtain ⟨xa, hxa⟩ : ∃ x, la[k]'hka = x := ⟨_, rfl⟩
          have HPKa := Lib.hid (show pk dI la k = xa by unfold pk; rw [if_neg ha1, List.getD_eq_getElem?_getD, List.getElem?_eq_getElem hka, hxa]; rfl)
          have HFNa := Lib.hid (show Fnt xa.2.1 by rw [← hxa]; exact HFA.out _ (List.getElem_mem _))
          rw [hxa] at ca0 ca1 ca2 ca3
          obtain ⟨sa2, hsa2⟩ : ∃ s, Value.slice boa xa.2.2.2.length bca = s := ⟨_, rfl⟩
          have hna2 : (∀ (w : World) (a : Addr) (m : Mode), (store a sa2 m).run Tryz.prog w = stored Tryz.prog w a sa2 m) := by subst hsa2; exact fun w a m => run_store Tryz.prog w a _ m rfl
          rw [hsa2] at ca3
          clear hxa hsa2 ha1
          have ta0 := HP.out.2.1
          have ta1 := HP.out.2.2.1
          have ta2 := HP.out.2.2.2.1
          have ta3 := HP.out.2.2.2.2.1
          have za0 := HP.out.2.2.2.2.2 0
          have za1 := HP.out.2.2.2.2.2 1
          have za2 := HP.out.2.2.2.2.2 2
          have za3 := HP.out.2.2.2.2.2 3
          obtain ⟨W3, hWW3⟩ : ∃ xw9, ((((W2.setCell ⟨pb, 0, none⟩ (.int .i64 xa.1)).setCell ⟨pb, 1, none⟩ (.float .f64 xa.2.1)).setCell ⟨pb, 2, none⟩ (.int .i32 xa.2.2.1)).setCell ⟨pb, 3, none⟩ (sa2)) = xw9 := ⟨_, rfl⟩
          replace HP := Lib.hid (show Blk4 W3 pb (.int .i64 xa.1) (.float .f64 xa.2.1) (.int .i32 xa.2.2.1) (sa2) by rw [← hWW3]; exact ((((HP.out.set0 _).set1 _).set2 _).set3 _))
          replace HQ := Lib.hid (show Blk4 W3 qb _ _ _ _ by rw [← hWW3]; exact ((((HQ.out.other ⟨pb, 0, none⟩ (Ne.symm HNE.out) _).other ⟨pb, 1, none⟩ (Ne.symm HNE.out) _).other ⟨pb, 2, none⟩ (Ne.symm HNE.out) _).other ⟨pb, 3, none⟩ (Ne.symm HNE.out) _))
          replace HB2 := Lib.hid (show Below wr.heap.size wr W3 by rw [← hWW3]; exact ((((HB2.out.setCell (p := ⟨pb, 0, none⟩) HPG.out _).setCell (p := ⟨pb, 1, none⟩) HPG.out _).setCell (p := ⟨pb, 2, none⟩) HPG.out _).setCell (p := ⟨pb, 3, none⟩) HPG.out _))
          replace HVA2 := Lib.hid (HVA.out.grow HB2.out)
          replace HVB2 := Lib.hid (HVB.out.grow HB2.out)
          have h1b : ¬ 1 < lb.length := by omega
          have HPKb := Lib.hid (show pk dI lb k = ib by unfold pk; rw [if_pos hb1, List.getD_eq_getElem?_getD, List.getElem?_eq_getElem HL0.out.2, HIB.out]; rfl)
          have HFNb := Lib.hid (show Fnt ib.2.1 by rw [← HIB.out]; exact HFB.out _ (List.getElem_mem _))
          clear hb1
          have p1 := HP.out.2.2.1
          have p2 := HP.out.2.2.2.1
          have q1 := HQ.out.2.2.1
          have q2 := HQ.out.2.2.2.1
          have HO9 := Lib.hid (owns_below HO.out HB2.out)
          have HB9 := Lib.hid (HB.out.trans (HB2.out.mono HB.out.size))
          have HSW := Lib.hid HB9.out.size
          rw [HPKa.out, HPKb.out] at HTK
          go_wp2_with fail
          refine (rrone_calls 13 xa.2.1 ib.2.1 _ HFNa.out HFNb.out).mono ?_
          rintro e w' ⟨rfl, rfl⟩
          have HRV := Lib.hid (show rrV 13 1 0 xa ib = false by unfold rrV; rw [if_neg (by decide)]; rfl)
          rw [HRV.out] at HTK
          have HM1 : Hid (k + 1 ≤ maxLen) := Lib.hid (by have := HLT.out; unfold maxLen; omega)
          go_wp2_with (at_builtin; refine wpList_append_own _ rfl _ _ 37 rfl w.heap.size 4 i0 (.bool false) 1 1 Tryz.underlying37 HI0.out.1 HI0.out.2.1 HI0.out.2.2.1 HI0.out.2.2.2 rfl (by decide) _ _ _ rfl (HO9.out.alloc _) ⟨W3.heap.size, 0, none⟩ 1 1 [.bool false] rfl rfl ?c1 ?c2 HM1.out ?c4 ?c5 ?_)
          case c1 =>
            intro j u hj
            match j, hj with
            | 0, hj => simp at hj; subst hj; simp [Addr.add]
          case c2 => intro u hu; simp at hu; subst hu; rfl
          case c4 => omega
          case c5 => have := HSW.out; simp <;> omega
          intro v' w3 hown' hgrow _
          have HO3 := Lib.hid hown'
          have HB3 := Lib.hid (grown_below (HB9.out.alloc HSW.out _) (HO9.out.alloc _) (Nat.le_refl _) (by have := HSW.out; simp <;> omega) hgrow)
          have hlt := HLT.out
          clear hown' hgrow
          go_wp2
          go_roundw
          case rel =>
            refine ⟨k + 1, by omega, by go_num, ?_, HB3.out⟩
            have := HO3.out
            rw [HTK.out]
            simpa [bools] using this
          case measure => simp [intOf]; omega
        · have h1a : 1 < la.length := by have := HL0.out; omega
          have hka : k < la.length := by have := HI.out; omega
          obtain ⟨ba, oa, boa, bca, hbe, _, ca0, ca1, ca2, ca3, _⟩ := HVA2.out.at (List.getElem?_eq_getElem hka)
          cases hbe
          obtain ⟨xa, hxa⟩ : ∃ x, la[k]'hka = x := ⟨_, rfl⟩
          have HPKa := Lib.hid (show pk dI la k = xa by unfold pk; rw [if_neg ha1, List.getD_eq_getElem?_getD, List.getElem?_eq_getElem hka, hxa]; rfl)
          have HFNa := Lib.hid (show Fnt xa.2.1 by rw [← hxa]; exact HFA.out _ (List.getElem_mem _))
          rw [hxa] at ca0 ca1 ca2 ca3
          obtain ⟨sa2, hsa2⟩ : ∃ s, Value.slice boa xa.2.2.2.length bca = s := ⟨_, rfl⟩
          have hna2 : (∀ (w : World) (a : Addr) (m : Mode), (store a sa2 m).run Tryz.prog w = stored Tryz.prog w a sa2 m) := by subst hsa2; exact fun w a m => run_store Tryz.prog w a _ m rfl
          rw [hsa2] at ca3
          clear hxa hsa2 ha1
          have ta0 := HP.out.2.1
          have ta1 := HP.out.2.2.1
          have ta2 := HP.out.2.2.2.1
          have ta3 := HP.out.2.2.2.2.1
          have za0 := HP.out.2.2.2.2.2 0
          have za1 := HP.out.2.2.2.2.2 1
          have za2 := HP.out.2.2.2.2.2 2
          have za3 := HP.out.2.2.2.2.2 3
          obtain ⟨W3, hWW3⟩ : ∃ xw9, ((((W2.setCell ⟨pb, 0, none⟩ (.int .i64 xa.1)).setCell ⟨pb, 1, none⟩ (.float .f64 xa.2.1)).setCell ⟨pb, 2, none⟩ (.int .i32 xa.2.2.1)).setCell ⟨pb, 3, none⟩ (sa2)) = xw9 := ⟨_, rfl⟩
          replace HP := Lib.hid (show Blk4 W3 pb (.int .i64 xa.1) (.float .f64 xa.2.1) (.int .i32 xa.2.2.1) (sa2) by rw [← hWW3]; exact ((((HP.out.set0 _).set1 _).set2 _).set3 _))
          replace HQ := Lib.hid (show Blk4 W3 qb _ _ _ _ by rw [← hWW3]; exact ((((HQ.out.other ⟨pb, 0, none⟩ (Ne.symm HNE.out) _).other ⟨pb, 1, none⟩ (Ne.symm HNE.out) _).other ⟨pb, 2, none⟩ (Ne.symm HNE.out) _).other ⟨pb, 3, none⟩ (Ne.symm HNE.out) _))
          replace HB2 := Lib.hid (show Below wr.heap.size wr W3 by rw [← hWW3]; exact ((((HB2.out.setCell (p := ⟨pb, 0, none⟩) HPG.out _).setCell (p := ⟨pb, 1, none⟩) HPG.out _).setCell (p := ⟨pb, 2, none⟩) HPG.out _).setCell (p := ⟨pb, 3, none⟩) HPG.out _))
          replace HVA2 := Lib.hid (HVA.out.grow HB2.out)
          replace HVB2 := Lib.hid (HVB.out.grow HB2.out)
          have h1b : 1 < lb.length := by have := HL0.out; omega
          have hkb : k < lb.length := by have := HI.out; omega
          obtain ⟨bb, ob, bob, bcb, hbe, _, cb0, cb1, cb2, cb3, _⟩ := HVB2.out.at (List.getElem?_eq_getElem hkb)
          cases hbe
          obtain ⟨xb, hxb⟩ : ∃ x, lb[k]'hkb = x := ⟨_, rfl⟩
          have HPKb := Lib.hid (show pk dI lb k = xb by unfold pk; rw [if_neg hb1, List.getD_eq_getElem?_getD, List.getElem?_eq_getElem hkb, hxb]; rfl)
          have HFNb := Lib.hid (show Fnt xb.2.1 by rw [← hxb]; exact HFB.out _ (List.getElem_mem _))
          rw [hxb] at cb0 cb1 cb2 cb3
          obtain ⟨sb2, hsb2⟩ : ∃ s, Value.slice bob xb.2.2.2.length bcb = s := ⟨_, rfl⟩
          have hnb2 : (∀ (w : World) (a : Addr) (m : Mode), (store a sb2 m).run Tryz.prog w = stored Tryz.prog w a sb2 m) := by subst hsb2; exact fun w a m => run_store Tryz.prog w a _ m rfl
          rw [hsb2] at cb3
          clear hxb hsb2 hb1
          have tb0 := HQ.out.2.1
          have tb1 := HQ.out.2.2.1
          have tb2 := HQ.out.2.2.2.1
          have tb3 := HQ.out.2.2.2.2.1
          have zb0 := HQ.out.2.2.2.2.2 0
          have zb1 := HQ.out.2.2.2.2.2 1
          have zb2 := HQ.out.2.2.2.2.2 2
          have zb3 := HQ.out.2.2.2.2.2 3
          obtain ⟨W4, hWW4⟩ : ∃ xw9, ((((W3.setCell ⟨qb, 0, none⟩ (.int .i64 xb.1)).setCell ⟨qb, 1, none⟩ (.float .f64 xb.2.1)).setCell ⟨qb, 2, none⟩ (.int .i32 xb.2.2.1)).setCell ⟨qb, 3, none⟩ (sb2)) = xw9 := ⟨_, rfl⟩
          replace HQ := Lib.hid (show Blk4 W4 qb (.int .i64 xb.1) (.float .f64 xb.2.1) (.int .i32 xb.2.2.1) (sb2) by rw [← hWW4]; exact ((((HQ.out.set0 _).set1 _).set2 _).set3 _))
          replace HP := Lib.hid (show Blk4 W4 pb _ _ _ _ by rw [← hWW4]; exact ((((HP.out.other ⟨qb, 0, none⟩ HNE.out _).other ⟨qb, 1, none⟩ HNE.out _).other ⟨qb, 2, none⟩ HNE.out _).other ⟨qb, 3, none⟩ HNE.out _))
          replace HB2 := Lib.hid (show Below wr.heap.size wr W4 by rw [← hWW4]; exact ((((HB2.out.setCell (p := ⟨qb, 0, none⟩) HQG.out _).setCell (p := ⟨qb, 1, none⟩) HQG.out _).setCell (p := ⟨qb, 2, none⟩) HQG.out _).setCell (p := ⟨qb, 3, none⟩) HQG.out _))
          replace HVA2 := Lib.hid (HVA.out.grow HB2.out)
          replace HVB2 := Lib.hid (HVB.out.grow HB2.out)
          have p1 := HP.out.2.2.1
          have p2 := HP.out.2.2.2.1
          have q1 := HQ.out.2.2.1
          have q2 := HQ.out.2.2.2.1
          have HO9 := Lib.hid (owns_below HO.out HB2.out)
          have HB9 := Lib.hid (HB.out.trans (HB2.out.mono HB.out.size))
          have HSW := Lib.hid HB9.out.size
          rw [HPKa.out, HPKb.out] at HTK
          go_wp2_with fail
          refine (rrone_calls 13 xa.2.1 xb.2.1 _ HFNa.out HFNb.out).mono ?_
          rintro e w' ⟨rfl, rfl⟩
          have HRV := Lib.hid (show rrV 13 1 0 xa xb = false by unfold rrV; rw [if_neg (by decide)]; rfl)
          rw [HRV.out] at HTK
          have HM1 : Hid (k + 1 ≤ maxLen) := Lib.hid (by have := HLT.out; unfold maxLen; omega)
          go_wp2_with (at_builtin; refine wpList_append_own _ rfl _ _ 37 rfl w.heap.size 4 i0 (.bool false) 1 1 Tryz.underlying37 HI0.out.1 HI0.out.2.1 HI0.out.2.2.1 HI0.out.2.2.2 rfl (by decide) _ _ _ rfl (HO9.out.alloc _) ⟨W4.heap.size, 0, none⟩ 1 1 [.bool false] rfl rfl ?c1 ?c2 HM1.out ?c4 ?c5 ?_)
          case c1 =>
            intro j u hj
            match j, hj with
            | 0, hj => simp at hj; subst hj; simp [Addr.add]
          case c2 => intro u hu; simp at hu; subst hu; rfl
          case c4 => omega
          case c5 => have := HSW.out; simp <;> omega
          intro v' w3 hown' hgrow _
          have HO3 := Lib.hid hown'
          have HB3 := Lib.hid (grown_below (HB9.out.alloc HSW.out _) (HO9.out.alloc _) (Nat.le_refl _) (by have := HSW.out; simp <;> omega) hgrow)
          have hlt := HLT.out
          clear hown' hgrow
          go_wp2
          go_roundw
          case rel =>
            refine ⟨k + 1, by omega, by go_num, ?_, HB3.out⟩
            have := HO3.out
            rw [HTK.out]
            simpa [bools] using this
          case measure => simp [intOf]; omega
    · have hkn : k = n := by omega
      have HTA := Lib.hid (show bools (R.take k) = bools R by rw [hkn, List.take_of_length_le (Nat.le_of_eq HRL.out)])
      have HKN := Lib.hid hkn
      clear hkn
      go_wp2
      go_ret2
      refine ⟨_, rfl, ?_, HB.out⟩
      have := Slc.owned HO.out
      rw [HTA.out, HKN.out] at this
      rw [HRL.out]
      exact this
set_option maxHeartbeats 8000000 in
theorem rr1311_calls {okA okB : Nat → Prop} (va vb : Value) (la lb : List PI) (w : World) (hva : Its w okA va la) (hvb : Its w okB vb lb) (hla : la.length ≤ 1048576) (hlb : lb.length ≤ 1048576) (fa : ∀ p ∈ la, Fnt p.2.1) (fb : ∀ p ∈ lb, Fnt p.2.1) (hg : goesA la.length lb.length) :
    Calls Tryz.prog 9 #[.int .i64 13, va, .int .i64 1, vb, .int .i64 1] w (Told (rrL 13 1 1 la lb) w) := by
  obtain ⟨n, hn⟩ : ∃ n, lenN la.length lb.length = n := ⟨_, rfl⟩
  obtain ⟨R, hR⟩ : ∃ R, rrL 13 1 1 la lb = R := ⟨_, rfl⟩
  have HRL := Lib.hid (show R.length = n by rw [← hR, ← hn]; exact rrL_len _ _ _ _ _)
  have HRT := Lib.hid (show ∀ k, k < n → R.take (k + 1) = R.take k ++ [rrV 13 1 1 (pk dI la k) (pk dI lb k)] by rw [← hR]; intro k hk; exact rrL_take (by rw [hn]; exact hk))
  have HIN := Lib.hid (show ∀ i, i < n → (la.length = 1 ∨ i < la.length) ∧ (lb.length = 1 ∨ i < lb.length) by
    intro i hi
    rw [← hn] at hi
    exact lenN_in hg hi)
  rw [hR]
  have HNL := Lib.hid (show n ≤ 1048576 by rw [← hn]; exact lenN_le hla hlb)
  have HN := Lib.hid hn
  have HG := Lib.hid hg
  have HFA := Lib.hid fa
  have HFB := Lib.hid fb
  have HLL := Lib.hid (And.intro hla hlb)
  have HVA := Lib.hid hva
  have HVB := Lib.hid hvb
  obtain ⟨ao, cap, rfl, _, _⟩ := hva.len
  obtain ⟨bo, cbp, rfl, _, _⟩ := hvb.len
  have hst := run_store_float
  clear hn hR hva hvb hla hlb fa fb hg
  obtain ⟨i0, hi, hz0, hz1, hz2⟩ := info_parts info_bool1
  have HI0 := Lib.hid (And.intro hi (And.intro hz0 (And.intro hz1 hz2)))
  clear hi hz0 hz1 hz2
  go_enter Tryz.func9, Tryz.ntmps9
  go_wp2_with (refine (ralen_yes _ _ _ HG.out).mono ?_; rintro e w' ⟨rfl, rfl⟩; rw [HN.out])
  go_loopw [13, 14] (fun v i wr => ∃ k : Nat, k ≤ n ∧ i = .int .i64 k ∧ wr.ownsRow w.heap.size 4 1 v k (bools (R.take k)) ∧ Below w.heap.size w wr) (fun _ i _ => n - (intOf i).toNat)
  case atStart => exact ⟨0, by omega, rfl, World.ownsRow_nil _ _ _ _, Below.refl _ _⟩
  case round =>
    obtain ⟨k, hk, rfl, hown, hB⟩ := hrel
    have HO := Lib.hid hown
    have HB := Lib.hid hB
    clear hown hB
    have hnm := HNL.out
    by_cases hlt : k < n
    · have HI := Lib.hid (HIN.out k hlt)
      have HL0 := Lib.hid (show 0 < la.length ∧ 0 < lb.length by have := HI.out; omega)
      have hl1 := HL0.out.1
      have hl2 := HL0.out.2
      have HVA := Lib.hid (HVA.out.grow HB.out)
      have HVB := Lib.hid (HVB.out.grow HB.out)
      have HTK := Lib.hid (HRT.out k hlt)
      have HLT := Lib.hid hlt
      obtain ⟨b0, o0, bo0, bc0, rfl, _, c0, c1, c2, c3, _⟩ := HVA.out.at (List.getElem?_eq_getElem HL0.out.1)
      obtain ⟨d0, p0, do0, dc0, rfl, _, e0, e1, e2, e3, _⟩ := HVB.out.at (List.getElem?_eq_getElem HL0.out.2)
      simp only [Nat.zero_mul, Nat.add_zero] at c0 c1 c2 c3 e0 e1 e2 e3
      obtain ⟨ia, hia⟩ : ∃ ia, la[0]'HL0.out.1 = ia := ⟨_, rfl⟩
      obtain ⟨ib, hib⟩ : ∃ ib, lb[0]'HL0.out.2 = ib := ⟨_, rfl⟩
      have HIA := Lib.hid hia
      have HIB := Lib.hid hib
      rw [hia] at c0 c1 c2 c3
      rw [hib] at e0 e1 e2 e3
      obtain ⟨sa, hsa⟩ : ∃ sa, Value.slice bo0 ia.2.2.2.length bc0 = sa := ⟨_, rfl⟩
      obtain ⟨sb, hsb⟩ : ∃ sb, Value.slice do0 ib.2.2.2.length dc0 = sb := ⟨_, rfl⟩
      have hna : (∀ (w : World) (a : Addr) (m : Mode), (store a sa m).run Tryz.prog w = stored Tryz.prog w a sa m) := by subst hsa; exact fun w a m => run_store Tryz.prog w a _ m rfl
      have hnb : (∀ (w : World) (a : Addr) (m : Mode), (store a sb m).run Tryz.prog w = stored Tryz.prog w a sb m) := by subst hsb; exact fun w a m => run_store Tryz.prog w a _ m rfl
      rw [hsa] at c3
      rw [hsb] at e3
      clear hia hib hsa hsb hlt
      have HC := Lib.hid (And.intro c0 (And.intro c1 (And.intro c2 (And.intro c3 (And.intro e0 (And.intro e1 (And.intro e2 e3)))))))
      go_wp2_with fail
      rw [show decide (k < n) = true from decide_eq_true HLT.out]
      clear c0 c1 c2 c3 e0 e1 e2 e3
      refine wp_mid (fun a a' w' => ∃ pb qb : Nat, a' = ((((((((a.put (some 59) (.slice (some ⟨b0, o0, none⟩) la.length cap)).put (some 60) (.pointer (some ⟨b0, o0, none⟩))).put (some 61) (.agg #[.int .i64 ia.1, .float .f64 ia.2.1, .int .i32 ia.2.2.1, sa])).put (some 62) (.slice (some ⟨d0, p0, none⟩) lb.length cbp)).put (some 63) (.pointer (some ⟨d0, p0, none⟩))).put (some 64) (.agg #[.int .i64 ib.1, .float .f64 ib.2.1, .int .i32 ib.2.2.1, sb])).put (some 15) (.pointer (some ⟨pb, 0, none⟩))).put (some 16) (.pointer (some ⟨qb, 0, none⟩))) ∧ Blk4 w' pb (.int .i64 ia.1) (.float .f64 ia.2.1) (.int .i32 ia.2.2.1) sa ∧ Blk4 w' qb (.int .i64 ib.1) (.float .f64 ib.2.1) (.int .i32 ib.2.2.1) sb ∧ pb ≠ qb ∧ wr.heap.size ≤ pb ∧ wr.heap.size ≤ qb ∧ Below wr.heap.size wr w') ?_ ?_
      · have HW0 := Lib.hid (Below.refl wr.heap.size wr)
        obtain ⟨W11, hWD⟩ : ∃ xw9, wr.drew = xw9 := ⟨_, rfl⟩
        have hB : Below wr.heap.size wr W11 := by rw [← hWD]; exact Below.drewN' (Below.refl _ _) 1
        replace HW0 := Lib.hid (HW0.out.trans (hB.mono HW0.out.size))
        clear hB
        refine wp_region_held_drew (S := fun w' => w'.cell? ⟨b0, o0, none⟩ = some (.int .i64 ia.1) ∧ w'.cell? ⟨b0, o0 + 1, none⟩ = some (.float .f64 ia.2.1) ∧ w'.cell? ⟨b0, o0 + 2, none⟩ = some (.int .i32 ia.2.2.1) ∧ w'.cell? ⟨b0, o0 + 3, none⟩ = some (sa) ∧ w'.cell? ⟨d0, p0, none⟩ = some (.int .i64 ib.1) ∧ w'.cell? ⟨d0, p0 + 1, none⟩ = some (.float .f64 ib.2.1) ∧ w'.cell? ⟨d0, p0 + 2, none⟩ = some (.int .i32 ib.2.2.1) ∧ w'.cell? ⟨d0, p0 + 3, none⟩ = some (sb)) (by kernel_rfl) (by rw [hWD]; exact ⟨keep_below HW0.out _ _ HC.out.1, keep_below HW0.out _ _ HC.out.2.1, keep_below HW0.out _ _ HC.out.2.2.1, keep_below HW0.out _ _ HC.out.2.2.2.1, keep_below HW0.out _ _ HC.out.2.2.2.2.1, keep_below HW0.out _ _ HC.out.2.2.2.2.2.1, keep_below HW0.out _ _ HC.out.2.2.2.2.2.2.1, keep_below HW0.out _ _ HC.out.2.2.2.2.2.2.2⟩) (fun hHeld => ?_)
        rw [hWD] at hHeld ⊢
        clear hWD
        refine wpAnyH_take (i := 0) (v := ?_) rfl (by kernel_rfl) (by kernel_rfl) (by kernel_rfl) (fun _ _ _ h => absurd h.1 (by simp)) (Or.inl ⟨by rfl, ?_⟩) (by assumption) ?_
        rotate_left
        · (intro w hSw; (try dsimp only at hSw); go_simp; try with_reducible rfl)
        simp only [Act.put, List.getElem_toArray, List.getElem_cons_zero, List.setIfInBounds_toArray, List.set_cons_zero, List.set_cons_succ]
        refine wpAnyH_take (i := 1) (v := ?_) rfl (by kernel_rfl) (by kernel_rfl) (by kernel_rfl) (fun _ _ _ h => absurd h.1 (by simp)) (Or.inl ⟨by rfl, ?_⟩) (by assumption) ?_
        rotate_left
        · (intro w hSw; (try dsimp only at hSw); go_simp; try with_reducible rfl)
        simp only [Act.put, List.getElem_toArray, List.getElem_cons_succ, List.getElem_cons_zero, List.setIfInBounds_toArray, List.set_cons_zero, List.set_cons_succ]
        refine wpAnyH_take (i := 2) (v := ?_) rfl (by kernel_rfl) (by kernel_rfl) (by kernel_rfl) (fun _ _ _ h => absurd h.1 (by simp)) (Or.inl ⟨by rfl, ?_⟩) (by assumption) ?_
        rotate_left
        · (intro w hSw; (try dsimp only at hSw); go_simp; try with_reducible rfl)
        simp only [Act.put, List.getElem_toArray, List.getElem_cons_succ, List.getElem_cons_zero, List.setIfInBounds_toArray, List.set_cons_zero, List.set_cons_succ]
        refine wpAnyH_take (i := 3) (v := ?_) rfl (by kernel_rfl) (by kernel_rfl) (by kernel_rfl) (fun _ _ _ h => absurd h.1 (by simp)) (Or.inl ⟨by rfl, ?_⟩) (by assumption) ?_
        rotate_left
        · (intro w hSw; (try dsimp only at hSw); go_simp; try with_reducible rfl)
        simp only [Act.put, List.getElem_toArray, List.getElem_cons_succ, List.getElem_cons_zero, List.setIfInBounds_toArray, List.set_cons_zero, List.set_cons_succ]
        refine wpAnyH_take (i := 4) (v := ?_) rfl (by kernel_rfl) (by kernel_rfl) (by kernel_rfl) (fun _ _ _ h => absurd h.1 (by simp)) (Or.inl ⟨by rfl, ?_⟩) (by assumption) ?_
        rotate_left
        · (intro w hSw; (try dsimp only at hSw); go_simp; try with_reducible rfl)
        simp only [Act.put, List.getElem_toArray, List.getElem_cons_succ, List.getElem_cons_zero, List.setIfInBounds_toArray, List.set_cons_zero, List.set_cons_succ]
        refine wpAnyH_take (i := 5) (v := ?_) rfl (by kernel_rfl) (by kernel_rfl) (by kernel_rfl) (fun _ _ _ h => absurd h.1 (by simp)) (Or.inl ⟨by rfl, ?_⟩) (by assumption) ?_
        rotate_left
        · (intro w hSw; (try dsimp only at hSw); go_simp; try with_reducible rfl)
        simp only [Act.put, List.getElem_toArray, List.getElem_cons_succ, List.getElem_cons_zero, List.setIfInBounds_toArray, List.set_cons_zero, List.set_cons_succ]
        refine wpAnyH_ready (rs := [6, 7]) (by kernel_rfl) (by simp) ?_
        refine AllReadyH.cons (o := _) rfl (fun K hK => ?_) ?_
        · clear hHeld
          go_simp
          obtain ⟨W12, hWn⟩ : ∃ xw9, W11.alloc (.cells #[.int .i64 0, .float .f64 0, .int .i32 0, .slice none 0 0] 58) = xw9 := ⟨_, rfl⟩
          have hB : Below W11.heap.size W11 W12 := by rw [← hWn]; exact below_new _ _
          have hNB : Blk4 W12 W11.heap.size (.int .i64 0) (.float .f64 0) (.int .i32 0) (.slice none 0 0) := by rw [← hWn]; exact Blk4.new _ _ _ _ _ _
          have hge : wr.heap.size ≤ W11.heap.size := HW0.out.size
          rw [hWn]
          clear hWn
          obtain ⟨pb, hnm⟩ : ∃ x, W11.heap.size = x := ⟨_, rfl⟩
          rw [hnm] at hNB hge ⊢
          replace HW0 := Lib.hid (HW0.out.trans (hB.mono HW0.out.size))
          have HP := Lib.hid hNB
          have HPG := Lib.hid hge
          clear hNB hB hnm hge
          refine hK.out _ _ ?_ (fun hHeld => ?_)
          · exact ⟨keep_below HW0.out _ _ HC.out.1, keep_below HW0.out _ _ HC.out.2.1, keep_below HW0.out _ _ HC.out.2.2.1, keep_below HW0.out _ _ HC.out.2.2.2.1, keep_below HW0.out _ _ HC.out.2.2.2.2.1, keep_below HW0.out _ _ HC.out.2.2.2.2.2.1, keep_below HW0.out _ _ HC.out.2.2.2.2.2.2.1, keep_below HW0.out _ _ HC.out.2.2.2.2.2.2.2⟩
          clear hK K
          refine wpAnyH_ready (rs := [7]) (by kernel_rfl) (by simp) ?_
          refine AllReadyH.cons (o := _) rfl (fun K hK => ?_) ?_
          · clear hHeld
            go_simp
            obtain ⟨W13, hWn⟩ : ∃ xw9, W12.alloc (.cells #[.int .i64 0, .float .f64 0, .int .i32 0, .slice none 0 0] 58) = xw9 := ⟨_, rfl⟩
            have hB : Below W12.heap.size W12 W13 := by rw [← hWn]; exact below_new _ _
            have hNB : Blk4 W13 W12.heap.size (.int .i64 0) (.float .f64 0) (.int .i32 0) (.slice none 0 0) := by rw [← hWn]; exact Blk4.new _ _ _ _ _ _
            have hge : wr.heap.size ≤ W12.heap.size := HW0.out.size
            rw [hWn]
            clear hWn
            obtain ⟨qb, hnm⟩ : ∃ x, W12.heap.size = x := ⟨_, rfl⟩
            rw [hnm] at hNB hge ⊢
            have HNE := Lib.hid (show pb ≠ qb by rw [← hnm]; exact Nat.ne_of_lt HP.out.1)
            replace HW0 := Lib.hid (HW0.out.trans (hB.mono HW0.out.size))
            replace HP := Lib.hid (HP.out.below hB)
            have HQ := Lib.hid hNB
            have HQG := Lib.hid hge
            clear hNB hB hnm hge
            refine hK.out _ _ ?_ (fun hHeld => ?_)
            · exact ⟨keep_below HW0.out _ _ HC.out.1, keep_below HW0.out _ _ HC.out.2.1, keep_below HW0.out _ _ HC.out.2.2.1, keep_below HW0.out _ _ HC.out.2.2.2.1, keep_below HW0.out _ _ HC.out.2.2.2.2.1, keep_below HW0.out _ _ HC.out.2.2.2.2.2.1, keep_below HW0.out _ _ HC.out.2.2.2.2.2.2.1, keep_below HW0.out _ _ HC.out.2.2.2.2.2.2.2⟩
            clear hK K
            refine wpAnyH_ready (rs := [8]) (by kernel_rfl) (by simp) ?_
            refine AllReadyH.cons (o := _) rfl (fun K hK => ?_) ?_
            · clear hHeld
              have s0 := HP.out.2.1
              have s1 := HP.out.2.2.1
              have s2 := HP.out.2.2.2.1
              have s3 := HP.out.2.2.2.2.1
              have z0 := HP.out.2.2.2.2.2 0
              have z1 := HP.out.2.2.2.2.2 1
              have z2 := HP.out.2.2.2.2.2 2
              have z3 := HP.out.2.2.2.2.2 3
              go_simp
              clear s0 s1 s2 s3 z0 z1 z2 z3
              obtain ⟨W14, hWn⟩ : ∃ xw9, ((((W13.setCell ⟨pb, 0, none⟩ (.int .i64 ia.1)).setCell ⟨pb, 1, none⟩ (.float .f64 ia.2.1)).setCell ⟨pb, 2, none⟩ (.int .i32 ia.2.2.1)).setCell ⟨pb, 3, none⟩ (sa)) = xw9 := ⟨_, rfl⟩
              rw [hWn]
              replace HP := Lib.hid (show Blk4 W14 pb (.int .i64 ia.1) (.float .f64 ia.2.1) (.int .i32 ia.2.2.1) (sa) by rw [← hWn]; exact ((((HP.out.set0 _).set1 _).set2 _).set3 _))
              replace HQ := Lib.hid (show Blk4 W14 qb _ _ _ _ by rw [← hWn]; exact ((((HQ.out.other ⟨pb, 0, none⟩ (Ne.symm HNE.out) _).other ⟨pb, 1, none⟩ (Ne.symm HNE.out) _).other ⟨pb, 2, none⟩ (Ne.symm HNE.out) _).other ⟨pb, 3, none⟩ (Ne.symm HNE.out) _))
              replace HW0 := Lib.hid (show Below wr.heap.size wr W14 by rw [← hWn]; exact ((((HW0.out.setCell (p := ⟨pb, 0, none⟩) HPG.out _).setCell (p := ⟨pb, 1, none⟩) HPG.out _).setCell (p := ⟨pb, 2, none⟩) HPG.out _).setCell (p := ⟨pb, 3, none⟩) HPG.out _))
              clear hWn
              refine hK.out _ _ ?_ (fun hHeld => ?_)
              · exact ⟨keep_below HW0.out _ _ HC.out.1, keep_below HW0.out _ _ HC.out.2.1, keep_below HW0.out _ _ HC.out.2.2.1, keep_below HW0.out _ _ HC.out.2.2.2.1, keep_below HW0.out _ _ HC.out.2.2.2.2.1, keep_below HW0.out _ _ HC.out.2.2.2.2.2.1, keep_below HW0.out _ _ HC.out.2.2.2.2.2.2.1, keep_below HW0.out _ _ HC.out.2.2.2.2.2.2.2⟩
              clear hK K
              refine wpAnyH_ready (rs := [9]) (by kernel_rfl) (by simp) ?_
              refine AllReadyH.cons (o := _) rfl (fun K hK => ?_) ?_
              · clear hHeld
                have s0 := HQ.out.2.1
                have s1 := HQ.out.2.2.1
                have s2 := HQ.out.2.2.2.1
                have s3 := HQ.out.2.2.2.2.1
                have z0 := HQ.out.2.2.2.2.2 0
                have z1 := HQ.out.2.2.2.2.2 1
                have z2 := HQ.out.2.2.2.2.2 2
                have z3 := HQ.out.2.2.2.2.2 3
                go_simp
                clear s0 s1 s2 s3 z0 z1 z2 z3
                obtain ⟨W15, hWn⟩ : ∃ xw9, ((((W14.setCell ⟨qb, 0, none⟩ (.int .i64 ib.1)).setCell ⟨qb, 1, none⟩ (.float .f64 ib.2.1)).setCell ⟨qb, 2, none⟩ (.int .i32 ib.2.2.1)).setCell ⟨qb, 3, none⟩ (sb)) = xw9 := ⟨_, rfl⟩
                rw [hWn]
                replace HQ := Lib.hid (show Blk4 W15 qb (.int .i64 ib.1) (.float .f64 ib.2.1) (.int .i32 ib.2.2.1) (sb) by rw [← hWn]; exact ((((HQ.out.set0 _).set1 _).set2 _).set3 _))
                replace HP := Lib.hid (show Blk4 W15 pb _ _ _ _ by rw [← hWn]; exact ((((HP.out.other ⟨qb, 0, none⟩ HNE.out _).other ⟨qb, 1, none⟩ HNE.out _).other ⟨qb, 2, none⟩ HNE.out _).other ⟨qb, 3, none⟩ HNE.out _))
                replace HW0 := Lib.hid (show Below wr.heap.size wr W15 by rw [← hWn]; exact ((((HW0.out.setCell (p := ⟨qb, 0, none⟩) HQG.out _).setCell (p := ⟨qb, 1, none⟩) HQG.out _).setCell (p := ⟨qb, 2, none⟩) HQG.out _).setCell (p := ⟨qb, 3, none⟩) HQG.out _))
                clear hWn
                refine hK.out _ _ ?_ (fun hHeld => ?_)
                · exact ⟨keep_below HW0.out _ _ HC.out.1, keep_below HW0.out _ _ HC.out.2.1, keep_below HW0.out _ _ HC.out.2.2.1, keep_below HW0.out _ _ HC.out.2.2.2.1, keep_below HW0.out _ _ HC.out.2.2.2.2.1, keep_below HW0.out _ _ HC.out.2.2.2.2.2.1, keep_below HW0.out _ _ HC.out.2.2.2.2.2.2.1, keep_below HW0.out _ _ HC.out.2.2.2.2.2.2.2⟩
                clear hK K
                refine wpAnyH_done (by kernel_rfl) ?_ _
                clear hHeld
                refine ⟨rfl, pb, qb, ?_, HP.out, HQ.out, HNE.out, HPG.out, HQG.out, HW0.out⟩
                rfl
              exact AllReadyH.nil
            exact AllReadyH.nil
          exact AllReadyH.nil
        refine AllReadyH.cons (o := _) rfl (fun K hK => ?_) ?_
        · clear hHeld
          go_simp
          obtain ⟨W12, hWn⟩ : ∃ xw9, W11.alloc (.cells #[.int .i64 0, .float .f64 0, .int .i32 0, .slice none 0 0] 58) = xw9 := ⟨_, rfl⟩
          have hB : Below W11.heap.size W11 W12 := by rw [← hWn]; exact below_new _ _
          have hNB : Blk4 W12 W11.heap.size (.int .i64 0) (.float .f64 0) (.int .i32 0) (.slice none 0 0) := by rw [← hWn]; exact Blk4.new _ _ _ _ _ _
          have hge : wr.heap.size ≤ W11.heap.size := HW0.out.size
          rw [hWn]
          clear hWn
          obtain ⟨qb, hnm⟩ : ∃ x, W11.heap.size = x := ⟨_, rfl⟩
          rw [hnm] at hNB hge ⊢
          replace HW0 := Lib.hid (HW0.out.trans (hB.mono HW0.out.size))
          have HQ := Lib.hid hNB
          have HQG := Lib.hid hge
          clear hNB hB hnm hge
          refine hK.out _ _ ?_ (fun hHeld => ?_)
          · exact ⟨keep_below HW0.out _ _ HC.out.1, keep_below HW0.out _ _ HC.out.2.1, keep_below HW0.out _ _ HC.out.2.2.1, keep_below HW0.out _ _ HC.out.2.2.2.1, keep_below HW0.out _ _ HC.out.2.2.2.2.1, keep_below HW0.out _ _ HC.out.2.2.2.2.2.1, keep_below HW0.out _ _ HC.out.2.2.2.2.2.2.1, keep_below HW0.out _ _ HC.out.2.2.2.2.2.2.2⟩
          clear hK K
          refine wpAnyH_ready (rs := [6]) (by kernel_rfl) (by simp) ?_
          refine AllReadyH.cons (o := _) rfl (fun K hK => ?_) ?_
          · clear hHeld
            go_simp
            obtain ⟨W13, hWn⟩ : ∃ xw9, W12.alloc (.cells #[.int .i64 0, .float .f64 0, .int .i32 0, .slice none 0 0] 58) = xw9 := ⟨_, rfl⟩
            have hB : Below W12.heap.size W12 W13 := by rw [← hWn]; exact below_new _ _
            have hNB : Blk4 W13 W12.heap.size (.int .i64 0) (.float .f64 0) (.int .i32 0) (.slice none 0 0) := by rw [← hWn]; exact Blk4.new _ _ _ _ _ _
            have hge : wr.heap.size ≤ W12.heap.size := HW0.out.size
            rw [hWn]
            clear hWn
            obtain ⟨pb, hnm⟩ : ∃ x, W12.heap.size = x := ⟨_, rfl⟩
            rw [hnm] at hNB hge ⊢
            have HNE := Lib.hid (show qb ≠ pb by rw [← hnm]; exact Nat.ne_of_lt HQ.out.1)
            replace HW0 := Lib.hid (HW0.out.trans (hB.mono HW0.out.size))
            replace HQ := Lib.hid (HQ.out.below hB)
            have HP := Lib.hid hNB
            have HPG := Lib.hid hge
            clear hNB hB hnm hge
            refine hK.out _ _ ?_ (fun hHeld => ?_)
            · exact ⟨keep_below HW0.out _ _ HC.out.1, keep_below HW0.out _ _ HC.out.2.1, keep_below HW0.out _ _ HC.out.2.2.1, keep_below HW0.out _ _ HC.out.2.2.2.1, keep_below HW0.out _ _ HC.out.2.2.2.2.1, keep_below HW0.out _ _ HC.out.2.2.2.2.2.1, keep_below HW0.out _ _ HC.out.2.2.2.2.2.2.1, keep_below HW0.out _ _ HC.out.2.2.2.2.2.2.2⟩
            clear hK K
            refine wpAnyH_ready (rs := [8]) (by kernel_rfl) (by simp) ?_
            refine AllReadyH.cons (o := _) rfl (fun K hK => ?_) ?_
            · clear hHeld
              have s0 := HP.out.2.1
              have s1 := HP.out.2.2.1
              have s2 := HP.out.2.2.2.1
              have s3 := HP.out.2.2.2.2.1
              have z0 := HP.out.2.2.2.2.2 0
              have z1 := HP.out.2.2.2.2.2 1
              have z2 := HP.out.2.2.2.2.2 2
              have z3 := HP.out.2.2.2.2.2 3
              go_simp
              clear s0 s1 s2 s3 z0 z1 z2 z3
              obtain ⟨W14, hWn⟩ : ∃ xw9, ((((W13.setCell ⟨pb, 0, none⟩ (.int .i64 ia.1)).setCell ⟨pb, 1, none⟩ (.float .f64 ia.2.1)).setCell ⟨pb, 2, none⟩ (.int .i32 ia.2.2.1)).setCell ⟨pb, 3, none⟩ (sa)) = xw9 := ⟨_, rfl⟩
              rw [hWn]
              replace HP := Lib.hid (show Blk4 W14 pb (.int .i64 ia.1) (.float .f64 ia.2.1) (.int .i32 ia.2.2.1) (sa) by rw [← hWn]; exact ((((HP.out.set0 _).set1 _).set2 _).set3 _))
              replace HQ := Lib.hid (show Blk4 W14 qb _ _ _ _ by rw [← hWn]; exact ((((HQ.out.other ⟨pb, 0, none⟩ HNE.out _).other ⟨pb, 1, none⟩ HNE.out _).other ⟨pb, 2, none⟩ HNE.out _).other ⟨pb, 3, none⟩ HNE.out _))
              replace HW0 := Lib.hid (show Below wr.heap.size wr W14 by rw [← hWn]; exact ((((HW0.out.setCell (p := ⟨pb, 0, none⟩) HPG.out _).setCell (p := ⟨pb, 1, none⟩) HPG.out _).setCell (p := ⟨pb, 2, none⟩) HPG.out _).setCell (p := ⟨pb, 3, none⟩) HPG.out _))
              clear hWn
              refine hK.out _ _ ?_ (fun hHeld => ?_)
              · exact ⟨keep_below HW0.out _ _ HC.out.1, keep_below HW0.out _ _ HC.out.2.1, keep_below HW0.out _ _ HC.out.2.2.1, keep_below HW0.out _ _ HC.out.2.2.2.1, keep_below HW0.out _ _ HC.out.2.2.2.2.1, keep_below HW0.out _ _ HC.out.2.2.2.2.2.1, keep_below HW0.out _ _ HC.out.2.2.2.2.2.2.1, keep_below HW0.out _ _ HC.out.2.2.2.2.2.2.2⟩
              clear hK K
              refine wpAnyH_ready (rs := [9]) (by kernel_rfl) (by simp) ?_
              refine AllReadyH.cons (o := _) rfl (fun K hK => ?_) ?_
              · clear hHeld
                have s0 := HQ.out.2.1
                have s1 := HQ.out.2.2.1
                have s2 := HQ.out.2.2.2.1
                have s3 := HQ.out.2.2.2.2.1
                have z0 := HQ.out.2.2.2.2.2 0
                have z1 := HQ.out.2.2.2.2.2 1
                have z2 := HQ.out.2.2.2.2.2 2
                have z3 := HQ.out.2.2.2.2.2 3
                go_simp
                clear s0 s1 s2 s3 z0 z1 z2 z3
                obtain ⟨W15, hWn⟩ : ∃ xw9, ((((W14.setCell ⟨qb, 0, none⟩ (.int .i64 ib.1)).setCell ⟨qb, 1, none⟩ (.float .f64 ib.2.1)).setCell ⟨qb, 2, none⟩ (.int .i32 ib.2.2.1)).setCell ⟨qb, 3, none⟩ (sb)) = xw9 := ⟨_, rfl⟩
                rw [hWn]
                replace HQ := Lib.hid (show Blk4 W15 qb (.int .i64 ib.1) (.float .f64 ib.2.1) (.int .i32 ib.2.2.1) (sb) by rw [← hWn]; exact ((((HQ.out.set0 _).set1 _).set2 _).set3 _))
                replace HP := Lib.hid (show Blk4 W15 pb _ _ _ _ by rw [← hWn]; exact ((((HP.out.other ⟨qb, 0, none⟩ (Ne.symm HNE.out) _).other ⟨qb, 1, none⟩ (Ne.symm HNE.out) _).other ⟨qb, 2, none⟩ (Ne.symm HNE.out) _).other ⟨qb, 3, none⟩ (Ne.symm HNE.out) _))
                replace HW0 := Lib.hid (show Below wr.heap.size wr W15 by rw [← hWn]; exact ((((HW0.out.setCell (p := ⟨qb, 0, none⟩) HQG.out _).setCell (p := ⟨qb, 1, none⟩) HQG.out _).setCell (p := ⟨qb, 2, none⟩) HQG.out _).setCell (p := ⟨qb, 3, none⟩) HQG.out _))
                clear hWn
                refine hK.out _ _ ?_ (fun hHeld => ?_)
                · exact ⟨keep_below HW0.out _ _ HC.out.1, keep_below HW0.out _ _ HC.out.2.1, keep_below HW0.out _ _ HC.out.2.2.1, keep_below HW0.out _ _ HC.out.2.2.2.1, keep_below HW0.out _ _ HC.out.2.2.2.2.1, keep_below HW0.out _ _ HC.out.2.2.2.2.2.1, keep_below HW0.out _ _ HC.out.2.2.2.2.2.2.1, keep_below HW0.out _ _ HC.out.2.2.2.2.2.2.2⟩
                clear hK K
                refine wpAnyH_done (by kernel_rfl) ?_ _
                clear hHeld
                refine ⟨rfl, pb, qb, ?_, HP.out, HQ.out, (Ne.symm HNE.out), HPG.out, HQG.out, HW0.out⟩
                rfl
              exact AllReadyH.nil
            exact AllReadyH.nil
          exact AllReadyH.nil
        exact AllReadyH.nil
      rintro _ W2 ⟨pb, qb, rfl, hp, hq, hne, hpg, hqg, hB⟩
      have HP := Lib.hid hp
      have HQ := Lib.hid hq
      have HNE := Lib.hid hne
      have HPG := Lib.hid hpg
      have HQG := Lib.hid hqg
      have HB2 := Lib.hid hB
      have HVA2 := Lib.hid (HVA.out.grow hB)
      have HVB2 := Lib.hid (HVB.out.grow hB)
      simp only [Act.put, List.setIfInBounds_toArray, List.set_cons_zero, List.set_cons_succ]
      clear hp hq hne hpg hqg hB HC
      by_cases ha1 : la.length = 1
      · by_cases hb1 : lb.length = 1
        · have h1a : ¬ 1 < la.length := by omega
          have HPKa := Lib.hid (show pk dI la k = ia by unfold pk; rw [if_pos ha1, List.getD_eq_getElem?_getD, List.getElem?_eq_getElem HL0.out.1, HIA.out]; rfl)
          have HFNa := Lib.hid (show Fnt ia.2.1 by rw [← HIA.out]; exact HFA.out _ (List.getElem_mem _))
          clear ha1
          have h1b : ¬ 1 < lb.length := by omega
          have HPKb := Lib.hid (show pk dI lb k = ib by unfold pk; rw [if_pos hb1, List.getD_eq_getElem?_getD, List.getElem?_eq_getElem HL0.out.2, HIB.out]; rfl)
          have HFNb := Lib.hid (show Fnt ib.2.1 by rw [← HIB.out]; exact HFB.out _ (List.getElem_mem _))
          clear hb1
          have p1 := HP.out.2.2.1
          have p2 := HP.out.2.2.2.1
          have q1 := HQ.out.2.2.1
          have q2 := HQ.out.2.2.2.1
          have HO9 := Lib.hid (owns_below HO.out HB2.out)
          have HB9 := Lib.hid (HB.out.trans (HB2.out.mono HB.out.size))
          have HSW := Lib.hid HB9.out.size
          rw [HPKa.out, HPKb.out] at HTK
          go_wp2_with fail
          refine (rrone_calls 13 ia.2.1 ib.2.1 _ HFNa.out HFNb.out).mono ?_
          rintro e w' ⟨rfl, rfl⟩
          by_cases he : ia.2.2.1 = ib.2.2.1
          · have heb : (ia.2.2.1 == ib.2.2.1) = true := by simpa using he
            have HEB := Lib.hid heb
            clear he
            have HRV := Lib.hid (show rrV 13 1 1 ia ib = true by unfold rrV; rw [if_neg (by decide), HEB.out]; rfl)
            rw [HRV.out] at HTK
            have HM1 : Hid (k + 1 ≤ maxLen) := Lib.hid (by have := HLT.out; unfold maxLen; omega)
            go_wp2_with (at_builtin; refine wpList_append_own _ rfl _ _ 37 rfl w.heap.size 4 i0 (.bool false) 1 1 Tryz.underlying37 HI0.out.1 HI0.out.2.1 HI0.out.2.2.1 HI0.out.2.2.2 rfl (by decide) _ _ _ rfl (HO9.out.alloc _) ⟨W2.heap.size, 0, none⟩ 1 1 [.bool true] rfl rfl ?c1 ?c2 HM1.out ?c4 ?c5 ?_)
            case c1 =>
              intro j u hj
              match j, hj with
              | 0, hj => simp at hj; subst hj; simp [Addr.add]
            case c2 => intro u hu; simp at hu; subst hu; rfl
            case c4 => omega
            case c5 => have := HSW.out; simp <;> omega
            intro v' w3 hown' hgrow _
            have HO3 := Lib.hid hown'
            have HB3 := Lib.hid (grown_below (HB9.out.alloc HSW.out _) (HO9.out.alloc _) (Nat.le_refl _) (by have := HSW.out; simp <;> omega) hgrow)
            have hlt := HLT.out
            clear hown' hgrow
            go_wp2
            go_roundw
            case rel =>
              refine ⟨k + 1, by omega, by go_num, ?_, HB3.out⟩
              have := HO3.out
              rw [HTK.out]
              simpa [bools] using this
            case measure => simp [intOf]; omega
          · have heb : (ia.2.2.1 == ib.2.2.1) = false := by simpa using he
            have HEB := Lib.hid heb
            clear he
            have HRV := Lib.hid (show rrV 13 1 1 ia ib = false by unfold rrV; rw [if_neg (by decide), HEB.out]; rfl)
            rw [HRV.out] at HTK
            have HM1 : Hid (k + 1 ≤ maxLen) := Lib.hid (by have := HLT.out; unfold maxLen; omega)
            go_wp2_with (at_builtin; refine wpList_append_own _ rfl _ _ 37 rfl w.heap.size 4 i0 (.bool false) 1 1 Tryz.underlying37 HI0.out.1 HI0.out.2.1 HI0.out.2.2.1 HI0.out.2.2.2 rfl (by decide) _ _ _ rfl (HO9.out.alloc _) ⟨W2.heap.size, 0, none⟩ 1 1 [.bool false] rfl rfl ?c1 ?c2 HM1.out ?c4 ?c5 ?_)
            case c1 =>
              intro j u hj
              match j, hj with
              | 0, hj => simp at hj; subst hj; simp [Addr.add]
            case c2 => intro u hu; simp at hu; subst hu; rfl
            case c4 => omega
            case c5 => have := HSW.out; simp <;> omega
            intro v' w3 hown' hgrow _
            have HO3 := Lib.hid hown'
            have HB3 := Lib.hid (grown_below (HB9.out.alloc HSW.out _) (HO9.out.alloc _) (Nat.le_refl _) (by have := HSW.out; simp <;> omega) hgrow)
            have hlt := HLT.out
            clear hown' hgrow
            go_wp2
            go_roundw
            case rel =>
              refine ⟨k + 1, by omega, by go_num, ?_, HB3.out⟩
              have := HO3.out
              rw [HTK.out]
              simpa [bools] using this
            case measure => simp [intOf]; omega
        · have h1a : ¬ 1 < la.length := by omega
          have HPKa := Lib.hid (show pk dI la k = ia by unfold pk; rw [if_pos ha1, List.getD_eq_getElem?_getD, List.getElem?_eq_getElem HL0.out.1, HIA.out]; rfl)
          have HFNa := Lib.hid (show Fnt ia.2.1 by rw [← HIA.out]; exact HFA.out _ (List.getElem_mem _))
          clear ha1
          have h1b : 1 < lb.length := by have := HL0.out; omega
          have hkb : k < lb.length := by have := HI.out; omega
          obtain ⟨bb, ob, bob, bcb, hbe, _, cb0, cb1, cb2, cb3, _⟩ := HVB2.out.at (List.getElem?_eq_getElem hkb)
          cases hbe
          obtain ⟨xb, hxb⟩ : ∃ x, lb[k]'hkb = x := ⟨_, rfl⟩
          have HPKb := Lib.hid (show pk dI lb k = xb by unfold pk; rw [if_neg hb1, List.getD_eq_getElem?_getD, List.getElem?_eq_getElem hkb, hxb]; rfl)
          have HFNb := Lib.hid (show Fnt xb.2.1 by rw [← hxb]; exact HFB.out _ (List.getElem_mem _))
          rw [hxb] at cb0 cb1 cb2 cb3
          obtain ⟨sb2, hsb2⟩ : ∃ s, Value.slice bob xb.2.2.2.length bcb = s := ⟨_, rfl⟩
          have hnb2 : (∀ (w : World) (a : Addr) (m : Mode), (store a sb2 m).run Tryz.prog w = stored Tryz.prog w a sb2 m) := by subst hsb2; exact fun w a m => run_store Tryz.prog w a _ m rfl
          rw [hsb2] at cb3
          clear hxb hsb2 hb1
          have tb0 := HQ.out.2.1
          have tb1 := HQ.out.2.2.1
          have tb2 := HQ.out.2.2.2.1
          have tb3 := HQ.out.2.2.2.2.1
          have zb0 := HQ.out.2.2.2.2.2 0
          have zb1 := HQ.out.2.2.2.2.2 1
          have zb2 := HQ.out.2.2.2.2.2 2
          have zb3 := HQ.out.2.2.2.2.2 3
          obtain ⟨W4, hWW4⟩ : ∃ xw9, ((((W2.setCell ⟨qb, 0, none⟩ (.int .i64 xb.1)).setCell ⟨qb, 1, none⟩ (.float .f64 xb.2.1)).setCell ⟨qb, 2, none⟩ (.int .i32 xb.2.2.1)).setCell ⟨qb, 3, none⟩ (sb2)) = xw9 := ⟨_, rfl⟩
          replace HQ := Lib.hid (show Blk4 W4 qb (.int .i64 xb.1) (.float .f64 xb.2.1) (.int .i32 xb.2.2.1) (sb2) by rw [← hWW4]; exact ((((HQ.out.set0 _).set1 _).set2 _).set3 _))
          replace HP := Lib.hid (show Blk4 W4 pb _ _ _ _ by rw [← hWW4]; exact ((((HP.out.other ⟨qb, 0, none⟩ HNE.out _).other ⟨qb, 1, none⟩ HNE.out _).other ⟨qb, 2, none⟩ HNE.out _).other ⟨qb, 3, none⟩ HNE.out _))
          replace HB2 := Lib.hid (show Below wr.heap.size wr W4 by rw [← hWW4]; exact ((((HB2.out.setCell (p := ⟨qb, 0, none⟩) HQG.out _).setCell (p := ⟨qb, 1, none⟩) HQG.out _).setCell (p := ⟨qb, 2, none⟩) HQG.out _).setCell (p := ⟨qb, 3, none⟩) HQG.out _))
          replace HVA2 := Lib.hid (HVA.out.grow HB2.out)
          replace HVB2 := Lib.hid (HVB.out.grow HB2.out)
          have p1 := HP.out.2.2.1
          have p2 := HP.out.2.2.2.1
          have q1 := HQ.out.2.2.1
          have q2 := HQ.out.2.2.2.1
          have HO9 := Lib.hid (owns_below HO.out HB2.out)
          have HB9 := Lib.hid (HB.out.trans (HB2.out.mono HB.out.size))
          have HSW := Lib.hid HB9.out.size
          rw [HPKa.out, HPKb.out] at HTK
          go_wp2_with fail
          refine (rrone_calls 13 ia.2.1 xb.2.1 _ HFNa.out HFNb.out).mono ?_
          rintro e w' ⟨rfl, rfl⟩
          by_cases he : ia.2.2.1 = xb.2.2.1
          · have heb : (ia.2.2.1 == xb.2.2.1) = true := by simpa using he
            have HEB := Lib.hid heb
            clear he
            have HRV := Lib.hid (show rrV 13 1 1 ia xb = true by unfold rrV; rw [if_neg (by decide), HEB.out]; rfl)
            rw [HRV.out] at HTK
            have HM1 : Hid (k + 1 ≤ maxLen) := Lib.hid (by have := HLT.out; unfold maxLen; omega)
            go_wp2_with (at_builtin; refine wpList_append_own _ rfl _ _ 37 rfl w.heap.size 4 i0 (.bool false) 1 1 Tryz.underlying37 HI0.out.1 HI0.out.2.1 HI0.out.2.2.1 HI0.out.2.2.2 rfl (by decide) _ _ _ rfl (HO9.out.alloc _) ⟨W4.heap.size, 0, none⟩ 1 1 [.bool true] rfl rfl ?c1 ?c2 HM1.out ?c4 ?c5 ?_)
            case c1 =>
              intro j u hj
              match j, hj with
              | 0, hj => simp at hj; subst hj; simp [Addr.add]
            case c2 => intro u hu; simp at hu; subst hu; rfl
            case c4 => omega
            case c5 => have := HSW.out; simp <;> omega
            intro v' w3 hown' hgrow _
            have HO3 := Lib.hid hown'
            have HB3 := Lib.hid (grown_below (HB9.out.alloc HSW.out _) (HO9.out.alloc _) (Nat.le_refl _) (by have := HSW.out; simp <;> omega) hgrow)
            have hlt := HLT.out
            clear hown' hgrow
            go_wp2
            go_roundw
            case rel =>
              refine ⟨k + 1, by omega, by go_num, ?_, HB3.out⟩
              have := HO3.out
              rw [HTK.out]
              simpa [bools] using this
            case measure => simp [intOf]; omega
          · have heb : (ia.2.2.1 == xb.2.2.1) = false := by simpa using he
            have HEB := Lib.hid heb
            clear he
            have HRV := Lib.hid (show rrV 13 1 1 ia xb = false by unfold rrV; rw [if_neg (by decide), HEB.out]; rfl)
            rw [HRV.out] at HTK
            have HM1 : Hid (k + 1 ≤ maxLen) := Lib.hid (by have := HLT.out; unfold maxLen; omega)
            go_wp2_with (at_builtin; refine wpList_append_own _ rfl _ _ 37 rfl w.heap.size 4 i0 (.bool false) 1 1 Tryz.underlying37 HI0.out.1 HI0.out.2.1 HI0.out.2.2.1 HI0.out.2.2.2 rfl (by decide) _ _ _ rfl (HO9.out.alloc _) ⟨W4.heap.size, 0, none⟩ 1 1 [.bool false] rfl rfl ?c1 ?c2 HM1.out ?c4 ?c5 ?_)
            case c1 =>
              intro j u hj
              match j, hj with
              | 0, hj => simp at hj; subst hj; simp [Addr.add]
            case c2 => intro u hu; simp at hu; subst hu; rfl
            case c4 => omega
            case c5 => have := HSW.out; simp <;> omega
            intro v' w3 hown' hgrow _
            have HO3 := Lib.hid hown'
            have HB3 := Lib.hid (grown_below (HB9.out.alloc HSW.out _) (HO9.out.alloc _) (Nat.le_refl _) (by have := HSW.out; simp <;> omega) hgrow)
            have hlt := HLT.out
            clear hown' hgrow
            go_wp2
            go_roundw
            case rel =>
              refine ⟨k + 1, by omega, by go_num, ?_, HB3.out⟩
              have := HO3.out
              rw [HTK.out]
              simpa [bools] using this
            case measure => simp [intOf]; omega
      · by_cases hb1 : lb.length = 1
        · have h1a : 1 < la.length := by have := HL0.out; omega
          have hka : k < la.length := by have := HI.out; omega
          obtain ⟨ba, oa, boa, bca, hbe, _, ca0, ca1, ca2, ca3, _⟩ := HVA2.out.at (List.getElem?_eq_getElem hka)
          cases hbe
          obtain ⟨xa, hxa⟩ : ∃ x, la[k]'hka = x := ⟨_, rfl⟩
          have HPKa := Lib.hid (show pk dI la k = xa by unfold pk; rw [if_neg ha1, List.getD_eq_getElem?_getD, List.getElem?_eq_getElem hka, hxa]; rfl)
          have HFNa := Lib.hid (show Fnt xa.2.1 by rw [← hxa]; exact HFA.out _ (List.getElem_mem _))
          rw [hxa] at ca0 ca1 ca2 ca3
          obtain ⟨sa2, hsa2⟩ : ∃ s, Value.slice boa xa.2.2.2.length bca = s := ⟨_, rfl⟩
          have hna2 : (∀ (w : World) (a : Addr) (m : Mode), (store a sa2 m).run Tryz.prog w = stored Tryz.prog w a sa2 m) := by subst hsa2; exact fun w a m => run_store Tryz.prog w a _ m rfl
          rw [hsa2] at ca3
          clear hxa hsa2 ha1
          have ta0 := HP.out.2.1
          have ta1 := HP.out.2.2.1
          have ta2 := HP.out.2.2.2.1
          have ta3 := HP.out.2.2.2.2.1
          have za0 := HP.out.2.2.2.2.2 0
          have za1 := HP.out.2.2.2.2.2 1
          have za2 := HP.out.2.2.2.2.2 2
          have za3 := HP.out.2.2.2.2.2 3
          obtain ⟨W3, hWW3⟩ : ∃ xw9, ((((W2.setCell ⟨pb, 0, none⟩ (.int .i64 xa.1)).setCell ⟨pb, 1, none⟩ (.float .f64 xa.2.1)).setCell ⟨pb, 2, none⟩ (.int .i32 xa.2.2.1)).setCell ⟨pb, 3, none⟩ (sa2)) = xw9 := ⟨_, rfl⟩
          replace HP := Lib.hid (show Blk4 W3 pb (.int .i64 xa.1) (.float .f64 xa.2.1) (.int .i32 xa.2.2.1) (sa2) by rw [← hWW3]; exact ((((HP.out.set0 _).set1 _).set2 _).set3 _))
          replace HQ := Lib.hid (show Blk4 W3 qb _ _ _ _ by rw [← hWW3]; exact ((((HQ.out.other ⟨pb, 0, none⟩ (Ne.symm HNE.out) _).other ⟨pb, 1, none⟩ (Ne.symm HNE.out) _).other ⟨pb, 2, none⟩ (Ne.symm HNE.out) _).other ⟨pb, 3, none⟩ (Ne.symm HNE.out) _))
          replace HB2 := Lib.hid (show Below wr.heap.size wr W3 by rw [← hWW3]; exact ((((HB2.out.setCell (p := ⟨pb, 0, none⟩) HPG.out _).setCell (p := ⟨pb, 1, none⟩) HPG.out _).setCell (p := ⟨pb, 2, none⟩) HPG.out _).setCell (p := ⟨pb, 3, none⟩) HPG.out _))
          replace HVA2 := Lib.hid (HVA.out.grow HB2.out)
          replace HVB2 := Lib.hid (HVB.out.grow HB2.out)
          have h1b : ¬ 1 < lb.length := by omega
          have HPKb := Lib.hid (show pk dI lb k = ib by unfold pk; rw [if_pos hb1, List.getD_eq_getElem?_getD, List.getElem?_eq_getElem HL0.out.2, HIB.out]; rfl)
          have HFNb := Lib.hid (show Fnt ib.2.1 by rw [← HIB.out]; exact HFB.out _ (List.getElem_mem _))
          clear hb1
          have p1 := HP.out.2.2.1
          have p2 := HP.out.2.2.2.1
          have q1 := HQ.out.2.2.1
          have q2 := HQ.out.2.2.2.1
          have HO9 := Lib.hid (owns_below HO.out HB2.out)
          have HB9 := Lib.hid (HB.out.trans (HB2.out.mono HB.out.size))
          have HSW := Lib.hid HB9.out.size
          rw [HPKa.out, HPKb.out] at HTK
          go_wp2_with fail
          refine (rrone_calls 13 xa.2.1 ib.2.1 _ HFNa.out HFNb.out).mono ?_
          rintro e w' ⟨rfl, rfl⟩
          by_cases he : xa.2.2.1 = ib.2.2.1
          · have heb : (xa.2.2.1 == ib.2.2.1) = true := by simpa using he
            have HEB := Lib.hid heb
            clear he
            have HRV := Lib.hid (show rrV 13 1 1 xa ib = true by unfold rrV; rw [if_neg (by decide), HEB.out]; rfl)
            rw [HRV.out] at HTK
            have HM1 : Hid (k + 1 ≤ maxLen) := Lib.hid (by have := HLT.out; unfold maxLen; omega)
            go_wp2_with (at_builtin; refine wpList_append_own _ rfl _ _ 37 rfl w.heap.size 4 i0 (.bool false) 1 1 Tryz.underlying37 HI0.out.1 HI0.out.2.1 HI0.out.2.2.1 HI0.out.2.2.2 rfl (by decide) _ _ _ rfl (HO9.out.alloc _) ⟨W3.heap.size, 0, none⟩ 1 1 [.bool true] rfl rfl ?c1 ?c2 HM1.out ?c4 ?c5 ?_)
            case c1 =>
              intro j u hj
              match j, hj with
              | 0, hj => simp at hj; subst hj; simp [Addr.add]
            case c2 => intro u hu; simp at hu; subst hu; rfl
            case c4 => omega
            case c5 => have := HSW.out; simp <;> omega
            intro v' w3 hown' hgrow _
            have HO3 := Lib.hid hown'
            have HB3 := Lib.hid (grown_below (HB9.out.alloc HSW.out _) (HO9.out.alloc _) (Nat.le_refl _) (by have := HSW.out; simp <;> omega) hgrow)
            have hlt := HLT.out
            clear hown' hgrow
            go_wp2
            go_roundw
            case rel =>
              refine ⟨k + 1, by omega, by go_num, ?_, HB3.out⟩
              have := HO3.out
              rw [HTK.out]
              simpa [bools] using this
            case measure => simp [intOf]; omega
          · have heb : (xa.2.2.1 == ib.2.2.1) = false := by simpa using he
            have HEB := Lib.hid heb
            clear he
            have HRV := Lib.hid (show rrV 13 1 1 xa ib = false by unfold rrV; rw [if_neg (by decide), HEB.out]; rfl)
            rw [HRV.out] at HTK
            have HM1 : Hid (k + 1 ≤ maxLen) := Lib.hid (by have := HLT.out; unfold maxLen; omega)
            go_wp2_with (at_builtin; refine wpList_append_own _ rfl _ _ 37 rfl w.heap.size 4 i0 (.bool false) 1 1 Tryz.underlying37 HI0.out.1 HI0.out.2.1 HI0.out.2.2.1 HI0.out.2.2.2 rfl (by decide) _ _ _ rfl (HO9.out.alloc _) ⟨W3.heap.size, 0, none⟩ 1 1 [.bool false] rfl rfl ?c1 ?c2 HM1.out ?c4 ?c5 ?_)
            case c1 =>
              intro j u hj
              match j, hj with
              | 0, hj => simp at hj; subst hj; simp [Addr.add]
            case c2 => intro u hu; simp at hu; subst hu; rfl
            case c4 => omega
            case c5 => have := HSW.out; simp <;> omega
            intro v' w3 hown' hgrow _
            have HO3 := Lib.hid hown'
            have HB3 := Lib.hid (grown_below (HB9.out.alloc HSW.out _) (HO9.out.alloc _) (Nat.le_refl _) (by have := HSW.out; simp <;> omega) hgrow)
            have hlt := HLT.out
            clear hown' hgrow
            go_wp2
            go_roundw
            case rel =>
              refine ⟨k + 1, by omega, by go_num, ?_, HB3.out⟩
              have := HO3.out
              rw [HTK.out]
              simpa [bools] using this
            case measure => simp [intOf]; omega
        · have h1a : 1 < la.length := by have := HL0.out; omega
          have hka : k < la.length := by have := HI.out; omega
          obtain ⟨ba, oa, boa, bca, hbe, _, ca0, ca1, ca2, ca3, _⟩ := HVA2.out.at (List.getElem?_eq_getElem hka)
          cases hbe
          obtain ⟨xa, hxa⟩ : ∃ x, la[k]'hka = x := ⟨_, rfl⟩
          have HPKa := Lib.hid (show pk dI la k = xa by unfold pk; rw [if_neg ha1, List.getD_eq_getElem?_getD, List.getElem?_eq_getElem hka, hxa]; rfl)
          have HFNa := Lib.hid (show Fnt xa.2.1 by rw [← hxa]; exact HFA.out _ (List.getElem_mem _))
          rw [hxa] at ca0 ca1 ca2 ca3
          obtain ⟨sa2, hsa2⟩ : ∃ s, Value.slice boa xa.2.2.2.length bca = s := ⟨_, rfl⟩
          have hna2 : (∀ (w : World) (a : Addr) (m : Mode), (store a sa2 m).run Tryz.prog w = stored Tryz.prog w a sa2 m) := by subst hsa2; exact fun w a m => run_store Tryz.prog w a _ m rfl
          rw [hsa2] at ca3
          clear hxa hsa2 ha1
          have ta0 := HP.out.2.1
          have ta1 := HP.out.2.2.1
          have ta2 := HP.out.2.2.2.1
          have ta3 := HP.out.2.2.2.2.1
          have za0 := HP.out.2.2.2.2.2 0
          have za1 := HP.out.2.2.2.2.2 1
          have za2 := HP.out.2.2.2.2.2 2
          have za3 := HP.out.2.2.2.2.2 3
          obtain ⟨W3, hWW3⟩ : ∃ xw9, ((((W2.setCell ⟨pb, 0, none⟩ (.int .i64 xa.1)).setCell ⟨pb, 1, none⟩ (.float .f64 xa.2.1)).setCell ⟨pb, 2, none⟩ (.int .i32 xa.2.2.1)).setCell ⟨pb, 3, none⟩ (sa2)) = xw9 := ⟨_, rfl⟩
          replace HP := Lib.hid (show Blk4 W3 pb (.int .i64 xa.1) (.float .f64 xa.2.1) (.int .i32 xa.2.2.1) (sa2) by rw [← hWW3]; exact ((((HP.out.set0 _).set1 _).set2 _).set3 _))
          replace HQ := Lib.hid (show Blk4 W3 qb _ _ _ _ by rw [← hWW3]; exact ((((HQ.out.other ⟨pb, 0, none⟩ (Ne.symm HNE.out) _).other ⟨pb, 1, none⟩ (Ne.symm HNE.out) _).other ⟨pb, 2, none⟩ (Ne.symm HNE.out) _).other ⟨pb, 3, none⟩ (Ne.symm HNE.out) _))
          replace HB2 := Lib.hid (show Below wr.heap.size wr W3 by rw [← hWW3]; exact ((((HB2.out.setCell (p := ⟨pb, 0, none⟩) HPG.out _).setCell (p := ⟨pb, 1, none⟩) HPG.out _).setCell (p := ⟨pb, 2, none⟩) HPG.out _).setCell (p := ⟨pb, 3, none⟩) HPG.out _))
          replace HVA2 := Lib.hid (HVA.out.grow HB2.out)
          replace HVB2 := Lib.hid (HVB.out.grow HB2.out)
          have h1b : 1 < lb.length := by have := HL0.out; omega
          have hkb : k < lb.length := by have := HI.out; omega
          obtain ⟨bb, ob, bob, bcb, hbe, _, cb0, cb1, cb2, cb3, _⟩ := HVB2.out.at (List.getElem?_eq_getElem hkb)
          cases hbe
          obtain ⟨xb, hxb⟩ : ∃ x, lb[k]'hkb = x := ⟨_, rfl⟩
          have HPKb := Lib.hid (show pk dI lb k = xb by unfold pk; rw [if_neg hb1, List.getD_eq_getElem?_getD, List.getElem?_eq_getElem hkb, hxb]; rfl)
          have HFNb := Lib.hid (show Fnt xb.2.1 by rw [← hxb]; exact HFB.out _ (List.getElem_mem _))
          rw [hxb] at cb0 cb1 cb2 cb3
          obtain ⟨sb2, hsb2⟩ : ∃ s, Value.slice bob xb.2.2.2.length bcb = s := ⟨_, rfl⟩
          have hnb2 : (∀ (w : World) (a : Addr) (m : Mode), (store a sb2 m).run Tryz.prog w = stored Tryz.prog w a sb2 m) := by subst hsb2; exact fun w a m => run_store Tryz.prog w a _ m rfl
          rw [hsb2] at cb3
          clear hxb hsb2 hb1
          have tb0 := HQ.out.2.1
          have tb1 := HQ.out.2.2.1
          have tb2 := HQ.out.2.2.2.1
          have tb3 := HQ.out.2.2.2.2.1
          have zb0 := HQ.out.2.2.2.2.2 0
          have zb1 := HQ.out.2.2.2.2.2 1
          have zb2 := HQ.out.2.2.2.2.2 2
          have zb3 := HQ.out.2.2.2.2.2 3
          obtain ⟨W4, hWW4⟩ : ∃ xw9, ((((W3.setCell ⟨qb, 0, none⟩ (.int .i64 xb.1)).setCell ⟨qb, 1, none⟩ (.float .f64 xb.2.1)).setCell ⟨qb, 2, none⟩ (.int .i32 xb.2.2.1)).setCell ⟨qb, 3, none⟩ (sb2)) = xw9 := ⟨_, rfl⟩
          replace HQ := Lib.hid (show Blk4 W4 qb (.int .i64 xb.1) (.float .f64 xb.2.1) (.int .i32 xb.2.2.1) (sb2) by rw [← hWW4]; exact ((((HQ.out.set0 _).set1 _).set2 _).set3 _))
          replace HP := Lib.hid (show Blk4 W4 pb _ _ _ _ by rw [← hWW4]; exact ((((HP.out.other ⟨qb, 0, none⟩ HNE.out _).other ⟨qb, 1, none⟩ HNE.out _).other ⟨qb, 2, none⟩ HNE.out _).other ⟨qb, 3, none⟩ HNE.out _))
          replace HB2 := Lib.hid (show Below wr.heap.size wr W4 by rw [← hWW4]; exact ((((HB2.out.setCell (p := ⟨qb, 0, none⟩) HQG.out _).setCell (p := ⟨qb, 1, none⟩) HQG.out _).setCell (p := ⟨qb, 2, none⟩) HQG.out _).setCell (p := ⟨qb, 3, none⟩) HQG.out _))
          replace HVA2 := Lib.hid (HVA.out.grow HB2.out)
          replace HVB2 := Lib.hid (HVB.out.grow HB2.out)
          have p1 := HP.out.2.2.1
          have p2 := HP.out.2.2.2.1
          have q1 := HQ.out.2.2.1
          have q2 := HQ.out.2.2.2.1
          have HO9 := Lib.hid (owns_below HO.out HB2.out)
          have HB9 := Lib.hid (HB.out.trans (HB2.out.mono HB.out.size))
          have HSW := Lib.hid HB9.out.size
          rw [HPKa.out, HPKb.out] at HTK
          go_wp2_with fail
          refine (rrone_calls 13 xa.2.1 xb.2.1 _ HFNa.out HFNb.out).mono ?_
          rintro e w' ⟨rfl, rfl⟩
          by_cases he : xa.2.2.1 = xb.2.2.1
          · have heb : (xa.2.2.1 == xb.2.2.1) = true := by simpa using he
            have HEB := Lib.hid heb
            clear he
            have HRV := Lib.hid (show rrV 13 1 1 xa xb = true by unfold rrV; rw [if_neg (by decide), HEB.out]; rfl)
            rw [HRV.out] at HTK
            have HM1 : Hid (k + 1 ≤ maxLen) := Lib.hid (by have := HLT.out; unfold maxLen; omega)
            go_wp2_with (at_builtin; refine wpList_append_own _ rfl _ _ 37 rfl w.heap.size 4 i0 (.bool false) 1 1 Tryz.underlying37 HI0.out.1 HI0.out.2.1 HI0.out.2.2.1 HI0.out.2.2.2 rfl (by decide) _ _ _ rfl (HO9.out.alloc _) ⟨W4.heap.size, 0, none⟩ 1 1 [.bool true] rfl rfl ?c1 ?c2 HM1.out ?c4 ?c5 ?_)
            case c1 =>
              intro j u hj
              match j, hj with
              | 0, hj => simp at hj; subst hj; simp [Addr.add]
            case c2 => intro u hu; simp at hu; subst hu; rfl
            case c4 => omega
            case c5 => have := HSW.out; simp <;> omega
            intro v' w3 hown' hgrow _
            have HO3 := Lib.hid hown'
            have HB3 := Lib.hid (grown_below (HB9.out.alloc HSW.out _) (HO9.out.alloc _) (Nat.le_refl _) (by have := HSW.out; simp <;> omega) hgrow)
            have hlt := HLT.out
            clear hown' hgrow
            go_wp2
            go_roundw
            case rel =>
              refine ⟨k + 1, by omega, by go_num, ?_, HB3.out⟩
              have := HO3.out
              rw [HTK.out]
              simpa [bools] using this
            case measure => simp [intOf]; omega
          · have heb : (xa.2.2.1 == xb.2.2.1) = false := by simpa using he
            have HEB := Lib.hid heb
            clear he
            have HRV := Lib.hid (show rrV 13 1 1 xa xb = false by unfold rrV; rw [if_neg (by decide), HEB.out]; rfl)
            rw [HRV.out] at HTK
            have HM1 : Hid (k + 1 ≤ maxLen) := Lib.hid (by have := HLT.out; unfold maxLen; omega)
            go_wp2_with (at_builtin; refine wpList_append_own _ rfl _ _ 37 rfl w.heap.size 4 i0 (.bool false) 1 1 Tryz.underlying37 HI0.out.1 HI0.out.2.1 HI0.out.2.2.1 HI0.out.2.2.2 rfl (by decide) _ _ _ rfl (HO9.out.alloc _) ⟨W4.heap.size, 0, none⟩ 1 1 [.bool false] rfl rfl ?c1 ?c2 HM1.out ?c4 ?c5 ?_)
            case c1 =>
              intro j u hj
              match j, hj with
              | 0, hj => simp at hj; subst hj; simp [Addr.add]
            case c2 => intro u hu; simp at hu; subst hu; rfl
            case c4 => omega
            case c5 => have := HSW.out; simp <;> omega
            intro v' w3 hown' hgrow _
            have HO3 := Lib.hid hown'
            have HB3 := Lib.hid (grown_below (HB9.out.alloc HSW.out _) (HO9.out.alloc _) (Nat.le_refl _) (by have := HSW.out; simp <;> omega) hgrow)
            have hlt := HLT.out
            clear hown' hgrow
            go_wp2
            go_roundw
            case rel =>
              refine ⟨k + 1, by omega, by go_num, ?_, HB3.out⟩
              have := HO3.out
              rw [HTK.out]
              simpa [bools] using this
            case measure => simp [intOf]; omega
    · have hkn : k = n := by omega
      have HTA := Lib.hid (show bools (R.take k) = bools R by rw [hkn, List.take_of_length_le (Nat.le_of_eq HRL.out)])
      have HKN := Lib.hid hkn
      clear hkn
      go_wp2
      go_ret2
      refine ⟨_, rfl, ?_, HB.out⟩
      have := Slc.owned HO.out
      rw [HTA.out, HKN.out] at this
      rw [HRL.out]
      exact this
end Go.Proofs.YtfbecmnlbjhjaaaGreatDoor

/- Layer 11's reference: Apply, where not both are numbers, relation 16. -/
namespace Go.Proofs.YtfbecmnlbjhjaaaGreatDoor
set_option maxRecDepth 100000
open Go.RowKit Fl
set_option linter.unusedVariables false

set_option maxHeartbeats 8000000 in
theorem rr1601_calls {okA okB : Nat → Prop} (va vb : Value) (la lb : List PI) (w : World) (hva : Its w okA va la) (hvb : Its w okB vb lb) (hla : la.length ≤ 1048576) (hlb : lb.length ≤ 1048576) (fa : ∀ p ∈ la, Fnt p.2.1) (fb : ∀ p ∈ lb, Fnt p.2.1) (hg : goesA la.length lb.length) :
    Calls Tryz.prog 9 #[.int .i64 16, va, .int .i64 0, vb, .int .i64 1] w (Told (rrL 16 0 1 la lb) w) := by
  obtain ⟨n, hn⟩ : ∃ n, lenN la.length lb.length = n := ⟨_, rfl⟩
  obtain ⟨R, hR⟩ : ∃ R, rrL 16 0 1 la lb = R := ⟨_, rfl⟩
  have HRL := Lib.hid (show R.length = n by rw [← hR, ← hn]; exact rrL_len _ _ _ _ _)
  have HRT := Lib.hid (show ∀ k, k < n → R.take (k + 1) = R.take k ++ [rrV 16 0 1 (pk dI la k) (pk dI lb k)] by rw [← hR]; intro k hk; exact rrL_take (by rw [hn]; exact hk))
  have HIN := Lib.hid (show ∀ i, i < n → (la.length = 1 ∨ i < la.length) ∧ (lb.length = 1 ∨ i < lb.length) by
    intro i hi
    rw [← hn] at hi
    exact lenN_in hg hi)
  rw [hR]
  have HNL := Lib.hid (show n ≤ 1048576 by rw [← hn]; exact lenN_le hla hlb)
  have HN := Lib.hid hn
  have HG := Lib.hid hg
  have HFA := Lib.hid fa
  have HFB := Lib.hid fb
  have HLL := Lib.hid (And.intro hla hlb)
  have HVA := Lib.hid hva
  have HVB := Lib.hid hvb
  obtain ⟨ao, cap, rfl, _, _⟩ := hva.len
  obtain ⟨bo, cbp, rfl, _, _⟩ := hvb.len
  have hst := run_store_float
  clear hn hR hva hvb hla hlb fa fb hg
  obtain ⟨i0, hi, hz0, hz1, hz2⟩ := info_parts info_bool1
  have HI0 := Lib.hid (And.intro hi (And.intro hz0 (And.intro hz1 hz2)))
  clear hi hz0 hz1 hz2
  go_enter Tryz.func9, Tryz.ntmps9
  go_wp2_with (refine (ralen_yes _ _ _ HG.out).mono ?_; rintro e w' ⟨rfl, rfl⟩; rw [HN.out])
  go_loopw [13, 14] (fun v i wr => ∃ k : Nat, k ≤ n ∧ i = .int .i64 k ∧ wr.ownsRow w.heap.size 4 1 v k (bools (R.take k)) ∧ Below w.heap.size w wr) (fun _ i _ => n - (intOf i).toNat)
  case atStart => exact ⟨0, by omega, rfl, World.ownsRow_nil _ _ _ _, Below.refl _ _⟩
  case round =>
    obtain ⟨k, hk, rfl, hown, hB⟩ := hrel
    have HO := Lib.hid hown
    have HB := Lib.hid hB
    clear hown hB
    have hnm := HNL.out
    by_cases hlt : k < n
    · have HI := Lib.hid (HIN.out k hlt)
      have HL0 := Lib.hid (show 0 < la.length ∧ 0 < lb.length by have := HI.out; omega)
      have hl1 := HL0.out.1
      have hl2 := HL0.out.2
      have HVA := Lib.hid (HVA.out.grow HB.out)
      have HVB := Lib.hid (HVB.out.grow HB.out)
      have HTK := Lib.hid (HRT.out k hlt)
      have HLT := Lib.hid hlt
      obtain ⟨b0, o0, bo0, bc0, rfl, _, c0, c1, c2, c3, _⟩ := HVA.out.at (List.getElem?_eq_getElem HL0.out.1)
      obtain ⟨d0, p0, do0, dc0, rfl, _, e0, e1, e2, e3, _⟩ := HVB.out.at (List.getElem?_eq_getElem HL0.out.2)
      simp only [Nat.zero_mul, Nat.add_zero] at c0 c1 c2 c3 e0 e1 e2 e3
      obtain ⟨ia, hia⟩ : ∃ ia, la[0]'HL0.out.1 = ia := ⟨_, rfl⟩
      obtain ⟨ib, hib⟩ : ∃ ib, lb[0]'HL0.out.2 = ib := ⟨_, rfl⟩
      have HIA := Lib.hid hia
      have HIB := Lib.hid hib
      rw [hia] at c0 c1 c2 c3
      rw [hib] at e0 e1 e2 e3
      obtain ⟨sa, hsa⟩ : ∃ sa, Value.slice bo0 ia.2.2.2.length bc0 = sa := ⟨_, rfl⟩
      obtain ⟨sb, hsb⟩ : ∃ sb, Value.slice do0 ib.2.2.2.length dc0 = sb := ⟨_, rfl⟩
      have hna : (∀ (w : World) (a : Addr) (m : Mode), (store a sa m).run Tryz.prog w = stored Tryz.prog w a sa m) := by subst hsa; exact fun w a m => run_store Tryz.prog w a _ m rfl
      have hnb : (∀ (w : World) (a : Addr) (m : Mode), (store a sb m).run Tryz.prog w = stored Tryz.prog w a sb m) := by subst hsb; exact fun w a m => run_store Tryz.prog w a _ m rfl
      rw [hsa] at c3
      rw [hsb] at e3
      clear hia hib hsa hsb hlt
      have HC := Lib.hid (And.intro c0 (And.intro c1 (And.intro c2 (And.intro c3 (And.intro e0 (And.intro e1 (And.intro e2 e3)))))))
      go_wp2_with fail
      rw [show decide (k < n) = true from decide_eq_true HLT.out]
      clear c0 c1 c2 c3 e0 e1 e2 e3
      refine wp_mid (fun a a' w' => ∃ pb qb : Nat, a' = ((((((((a.put (some 59) (.slice (some ⟨b0, o0, none⟩) la.length cap)).put (some 60) (.pointer (some ⟨b0, o0, none⟩))).put (some 61) (.agg #[.int .i64 ia.1, .float .f64 ia.2.1, .int .i32 ia.2.2.1, sa])).put (some 62) (.slice (some ⟨d0, p0, none⟩) lb.length cbp)).put (some 63) (.pointer (some ⟨d0, p0, none⟩))).put (some 64) (.agg #[.int .i64 ib.1, .float .f64 ib.2.1, .int .i32 ib.2.2.1, sb])).put (some 15) (.pointer (some ⟨pb, 0, none⟩))).put (some 16) (.pointer (some ⟨qb, 0, none⟩))) ∧ Blk4 w' pb (.int .i64 ia.1) (.float .f64 ia.2.1) (.int .i32 ia.2.2.1) sa ∧ Blk4 w' qb (.int .i64 ib.1) (.float .f64 ib.2.1) (.int .i32 ib.2.2.1) sb ∧ pb ≠ qb ∧ wr.heap.size ≤ pb ∧ wr.heap.size ≤ qb ∧ Below wr.heap.size wr w') ?_ ?_
      · have HW0 := Lib.hid (Below.refl wr.heap.size wr)
        obtain ⟨W11, hWD⟩ : ∃ xw9, wr.drew = xw9 := ⟨_, rfl⟩
        have hB : Below wr.heap.size wr W11 := by rw [← hWD]; exact Below.drewN' (Below.refl _ _) 1
        replace HW0 := Lib.hid (HW0.out.trans (hB.mono HW0.out.size))
        clear hB
        refine wp_region_held_drew (S := fun w' => w'.cell? ⟨b0, o0, none⟩ = some (.int .i64 ia.1) ∧ w'.cell? ⟨b0, o0 + 1, none⟩ = some (.float .f64 ia.2.1) ∧ w'.cell? ⟨b0, o0 + 2, none⟩ = some (.int .i32 ia.2.2.1) ∧ w'.cell? ⟨b0, o0 + 3, none⟩ = some (sa) ∧ w'.cell? ⟨d0, p0, none⟩ = some (.int .i64 ib.1) ∧ w'.cell? ⟨d0, p0 + 1, none⟩ = some (.float .f64 ib.2.1) ∧ w'.cell? ⟨d0, p0 + 2, none⟩ = some (.int .i32 ib.2.2.1) ∧ w'.cell? ⟨d0, p0 + 3, none⟩ = some (sb)) (by kernel_rfl) (by rw [hWD]; exact ⟨keep_below HW0.out _ _ HC.out.1, keep_below HW0.out _ _ HC.out.2.1, keep_below HW0.out _ _ HC.out.2.2.1, keep_below HW0.out _ _ HC.out.2.2.2.1, keep_below HW0.out _ _ HC.out.2.2.2.2.1, keep_below HW0.out _ _ HC.out.2.2.2.2.2.1, keep_below HW0.out _ _ HC.out.2.2.2.2.2.2.1, keep_below HW0.out _ _ HC.out.2.2.2.2.2.2.2⟩) (fun hHeld => ?_)
        rw [hWD] at hHeld ⊢
        clear hWD
        refine wpAnyH_take (i := 0) (v := ?_) rfl (by kernel_rfl) (by kernel_rfl) (by kernel_rfl) (fun _ _ _ h => absurd h.1 (by simp)) (Or.inl ⟨by rfl, ?_⟩) (by assumption) ?_
        rotate_left
        · (intro w hSw; (try dsimp only at hSw); go_simp; try with_reducible rfl)
        simp only [Act.put, List.getElem_toArray, List.getElem_cons_zero, List.setIfInBounds_toArray, List.set_cons_zero, List.set_cons_succ]
        refine wpAnyH_take (i := 1) (v := ?_) rfl (by kernel_rfl) (by kernel_rfl) (by kernel_rfl) (fun _ _ _ h => absurd h.1 (by simp)) (Or.inl ⟨by rfl, ?_⟩) (by assumption) ?_
        rotate_left
        · (intro w hSw; (try dsimp only at hSw); go_simp; try with_reducible rfl)
        simp only [Act.put, List.getElem_toArray, List.getElem_cons_succ, List.getElem_cons_zero, List.setIfInBounds_toArray, List.set_cons_zero, List.set_cons_succ]
        refine wpAnyH_take (i := 2) (v := ?_) rfl (by kernel_rfl) (by kernel_rfl) (by kernel_rfl) (fun _ _ _ h => absurd h.1 (by simp)) (Or.inl ⟨by rfl, ?_⟩) (by assumption) ?_
        rotate_left
        · (intro w hSw; (try dsimp only at hSw); go_simp; try with_reducible rfl)
        simp only [Act.put, List.getElem_toArray, List.getElem_cons_succ, List.getElem_cons_zero, List.setIfInBounds_toArray, List.set_cons_zero, List.set_cons_succ]
        refine wpAnyH_take (i := 3) (v := ?_) rfl (by kernel_rfl) (by kernel_rfl) (by kernel_rfl) (fun _ _ _ h => absurd h.1 (by simp)) (Or.inl ⟨by rfl, ?_⟩) (by assumption) ?_
        rotate_left
        · (intro w hSw; (try dsimp only at hSw); go_simp; try with_reducible rfl)
        simp only [Act.put, List.getElem_toArray, List.getElem_cons_succ, List.getElem_cons_zero, List.setIfInBounds_toArray, List.set_cons_zero, List.set_cons_succ]
        refine wpAnyH_take (i := 4) (v := ?_) rfl (by kernel_rfl) (by kernel_rfl) (by kernel_rfl) (fun _ _ _ h => absurd h.1 (by simp)) (Or.inl ⟨by rfl, ?_⟩) (by assumption) ?_
        rotate_left
        · (intro w hSw; (try dsimp only at hSw); go_simp; try with_reducible rfl)
        simp only [Act.put, List.getElem_toArray, List.getElem_cons_succ, List.getElem_cons_zero, List.setIfInBounds_toArray, List.set_cons_zero, List.set_cons_succ]
        refine wpAnyH_take (i := 5) (v := ?_) rfl (by kernel_rfl) (by kernel_rfl) (by kernel_rfl) (fun _ _ _ h => absurd h.1 (by simp)) (Or.inl ⟨by rfl, ?_⟩) (by assumption) ?_
        rotate_left
        · (intro w hSw; (try dsimp only at hSw); go_simp; try with_reducible rfl)
        simp only [Act.put, List.getElem_toArray, List.getElem_cons_succ, List.getElem_cons_zero, List.setIfInBounds_toArray, List.set_cons_zero, List.set_cons_succ]
        refine wpAnyH_ready (rs := [6, 7]) (by kernel_rfl) (by simp) ?_
        refine AllReadyH.cons (o := _) rfl (fun K hK => ?_) ?_
        · clear hHeld
          go_simp
          obtain ⟨W12, hWn⟩ : ∃ xw9, W11.alloc (.cells #[.int .i64 0, .float .f64 0, .int .i32 0, .slice none 0 0] 58) = xw9 := ⟨_, rfl⟩
          have hB : Below W11.heap.size W11 W12 := by rw [← hWn]; exact below_new _ _
          have hNB : Blk4 W12 W11.heap.size (.int .i64 0) (.float .f64 0) (.int .i32 0) (.slice none 0 0) := by rw [← hWn]; exact Blk4.new _ _ _ _ _ _
          have hge : wr.heap.size ≤ W11.heap.size := HW0.out.size
          rw [hWn]
          clear hWn
          obtain ⟨pb, hnm⟩ : ∃ x, W11.heap.size = x := ⟨_, rfl⟩
          rw [hnm] at hNB hge ⊢
          replace HW0 := Lib.hid (HW0.out.trans (hB.mono HW0.out.size))
          have HP := Lib.hid hNB
          have HPG := Lib.hid hge
          clear hNB hB hnm hge
          refine hK.out _ _ ?_ (fun hHeld => ?_)
          · exact ⟨keep_below HW0.out _ _ HC.out.1, keep_below HW0.out _ _ HC.out.2.1, keep_below HW0.out _ _ HC.out.2.2.1, keep_below HW0.out _ _ HC.out.2.2.2.1, keep_below HW0.out _ _ HC.out.2.2.2.2.1, keep_below HW0.out _ _ HC.out.2.2.2.2.2.1, keep_below HW0.out _ _ HC.out.2.2.2.2.2.2.1, keep_below HW0.out _ _ HC.out.2.2.2.2.2.2.2⟩
          clear hK K
          refine wpAnyH_ready (rs := [7]) (by kernel_rfl) (by simp) ?_
          refine AllReadyH.cons (o := _) rfl (fun K hK => ?_) ?_
          · clear hHeld
            go_simp
            obtain ⟨W13, hWn⟩ : ∃ xw9, W12.alloc (.cells #[.int .i64 0, .float .f64 0, .int .i32 0, .slice none 0 0] 58) = xw9 := ⟨_, rfl⟩
            have hB : Below W12.heap.size W12 W13 := by rw [← hWn]; exact below_new _ _
            have hNB : Blk4 W13 W12.heap.size (.int .i64 0) (.float .f64 0) (.int .i32 0) (.slice none 0 0) := by rw [← hWn]; exact Blk4.new _ _ _ _ _ _
            have hge : wr.heap.size ≤ W12.heap.size := HW0.out.size
            rw [hWn]
            clear hWn
            obtain ⟨qb, hnm⟩ : ∃ x, W12.heap.size = x := ⟨_, rfl⟩
            rw [hnm] at hNB hge ⊢
            have HNE := Lib.hid (show pb ≠ qb by rw [← hnm]; exact Nat.ne_of_lt HP.out.1)
            replace HW0 := Lib.hid (HW0.out.trans (hB.mono HW0.out.size))
            replace HP := Lib.hid (HP.out.below hB)
            have HQ := Lib.hid hNB
            have HQG := Lib.hid hge
            clear hNB hB hnm hge
            refine hK.out _ _ ?_ (fun hHeld => ?_)
            · exact ⟨keep_below HW0.out _ _ HC.out.1, keep_below HW0.out _ _ HC.out.2.1, keep_below HW0.out _ _ HC.out.2.2.1, keep_below HW0.out _ _ HC.out.2.2.2.1, keep_below HW0.out _ _ HC.out.2.2.2.2.1, keep_below HW0.out _ _ HC.out.2.2.2.2.2.1, keep_below HW0.out _ _ HC.out.2.2.2.2.2.2.1, keep_below HW0.out _ _ HC.out.2.2.2.2.2.2.2⟩
            clear hK K
            refine wpAnyH_ready (rs := [8]) (by kernel_rfl) (by simp) ?_
            refine AllReadyH.cons (o := _) rfl (fun K hK => ?_) ?_
            · clear hHeld
              have s0 := HP.out.2.1
              have s1 := HP.out.2.2.1
              have s2 := HP.out.2.2.2.1
              have s3 := HP.out.2.2.2.2.1
              have z0 := HP.out.2.2.2.2.2 0
              have z1 := HP.out.2.2.2.2.2 1
              have z2 := HP.out.2.2.2.2.2 2
              have z3 := HP.out.2.2.2.2.2 3
              go_simp
              clear s0 s1 s2 s3 z0 z1 z2 z3
              obtain ⟨W14, hWn⟩ : ∃ xw9, ((((W13.setCell ⟨pb, 0, none⟩ (.int .i64 ia.1)).setCell ⟨pb, 1, none⟩ (.float .f64 ia.2.1)).setCell ⟨pb, 2, none⟩ (.int .i32 ia.2.2.1)).setCell ⟨pb, 3, none⟩ (sa)) = xw9 := ⟨_, rfl⟩
              rw [hWn]
              replace HP := Lib.hid (show Blk4 W14 pb (.int .i64 ia.1) (.float .f64 ia.2.1) (.int .i32 ia.2.2.1) (sa) by rw [← hWn]; exact ((((HP.out.set0 _).set1 _).set2 _).set3 _))
              replace HQ := Lib.hid (show Blk4 W14 qb _ _ _ _ by rw [← hWn]; exact ((((HQ.out.other ⟨pb, 0, none⟩ (Ne.symm HNE.out) _).other ⟨pb, 1, none⟩ (Ne.symm HNE.out) _).other ⟨pb, 2, none⟩ (Ne.symm HNE.out) _).other ⟨pb, 3, none⟩ (Ne.symm HNE.out) _))
              replace HW0 := Lib.hid (show Below wr.heap.size wr W14 by rw [← hWn]; exact ((((HW0.out.setCell (p := ⟨pb, 0, none⟩) HPG.out _).setCell (p := ⟨pb, 1, none⟩) HPG.out _).setCell (p := ⟨pb, 2, none⟩) HPG.out _).setCell (p := ⟨pb, 3, none⟩) HPG.out _))
              clear hWn
              refine hK.out _ _ ?_ (fun hHeld => ?_)
              · exact ⟨keep_below HW0.out _ _ HC.out.1, keep_below HW0.out _ _ HC.out.2.1, keep_below HW0.out _ _ HC.out.2.2.1, keep_below HW0.out _ _ HC.out.2.2.2.1, keep_below HW0.out _ _ HC.out.2.2.2.2.1, keep_below HW0.out _ _ HC.out.2.2.2.2.2.1, keep_below HW0.out _ _ HC.out.2.2.2.2.2.2.1, keep_below HW0.out _ _ HC.out.2.2.2.2.2.2.2⟩
              clear hK K
              refine wpAnyH_ready (rs := [9]) (by kernel_rfl) (by simp) ?_
              refine AllReadyH.cons (o := _) rfl (fun K hK => ?_) ?_
              · clear hHeld
                have s0 := HQ.out.2.1
                have s1 := HQ.out.2.2.1
                have s2 := HQ.out.2.2.2.1
                have s3 := HQ.out.2.2.2.2.1
                have z0 := HQ.out.2.2.2.2.2 0
                have z1 := HQ.out.2.2.2.2.2 1
                have z2 := HQ.out.2.2.2.2.2 2
                have z3 := HQ.out.2.2.2.2.2 3
                go_simp
                clear s0 s1 s2 s3 z0 z1 z2 z3
                obtain ⟨W15, hWn⟩ : ∃ xw9, ((((W14.setCell ⟨qb, 0, none⟩ (.int .i64 ib.1)).setCell ⟨qb, 1, none⟩ (.float .f64 ib.2.1)).setCell ⟨qb, 2, none⟩ (.int .i32 ib.2.2.1)).setCell ⟨qb, 3, none⟩ (sb)) = xw9 := ⟨_, rfl⟩
                rw [hWn]
                replace HQ := Lib.hid (show Blk4 W15 qb (.int .i64 ib.1) (.float .f64 ib.2.1) (.int .i32 ib.2.2.1) (sb) by rw [← hWn]; exact ((((HQ.out.set0 _).set1 _).set2 _).set3 _))
                replace HP := Lib.hid (show Blk4 W15 pb _ _ _ _ by rw [← hWn]; exact ((((HP.out.other ⟨qb, 0, none⟩ HNE.out _).other ⟨qb, 1, none⟩ HNE.out _).other ⟨qb, 2, none⟩ HNE.out _).other ⟨qb, 3, none⟩ HNE.out _))
                replace HW0 := Lib.hid (show Below wr.heap.size wr W15 by rw [← hWn]; exact ((((HW0.out.setCell (p := ⟨qb, 0, none⟩) HQG.out _).setCell (p := ⟨qb, 1, none⟩) HQG.out _).setCell (p := ⟨qb, 2, none⟩) HQG.out _).setCell (p := ⟨qb, 3, none⟩) HQG.out _))
                clear hWn
                refine hK.out _ _ ?_ (fun hHeld => ?_)
                · exact ⟨keep_below HW0.out _ _ HC.out.1, keep_below HW0.out _ _ HC.out.2.1, keep_below HW0.out _ _ HC.out.2.2.1, keep_below HW0.out _ _ HC.out.2.2.2.1, keep_below HW0.out _ _ HC.out.2.2.2.2.1, keep_below HW0.out _ _ HC.out.2.2.2.2.2.1, keep_below HW0.out _ _ HC.out.2.2.2.2.2.2.1, keep_below HW0.out _ _ HC.out.2.2.2.2.2.2.2⟩
                clear hK K
                refine wpAnyH_done (by kernel_rfl) ?_ _
                clear hHeld
                refine ⟨rfl, pb, qb, ?_, HP.out, HQ.out, HNE.out, HPG.out, HQG.out, HW0.out⟩
                rfl
              exact AllReadyH.nil
            exact AllReadyH.nil
          exact AllReadyH.nil
        refine AllReadyH.cons (o := _) rfl (fun K hK => ?_) ?_
        · clear hHeld
          go_simp
          obtain ⟨W12, hWn⟩ : ∃ xw9, W11.alloc (.cells #[.int .i64 0, .float .f64 0, .int .i32 0, .slice none 0 0] 58) = xw9 := ⟨_, rfl⟩
          have hB : Below W11.heap.size W11 W12 := by rw [← hWn]; exact below_new _ _
          have hNB : Blk4 W12 W11.heap.size (.int .i64 0) (.float .f64 0) (.int .i32 0) (.slice none 0 0) := by rw [← hWn]; exact Blk4.new _ _ _ _ _ _
          have hge : wr.heap.size ≤ W11.heap.size := HW0.out.size
          rw [hWn]
          clear hWn
          obtain ⟨qb, hnm⟩ : ∃ x, W11.heap.size = x := ⟨_, rfl⟩
          rw [hnm] at hNB hge ⊢
          replace HW0 := Lib.hid (HW0.out.trans (hB.mono HW0.out.size))
          have HQ := Lib.hid hNB
          have HQG := Lib.hid hge
          clear hNB hB hnm hge
          refine hK.out _ _ ?_ (fun hHeld => ?_)
          · exact ⟨keep_below HW0.out _ _ HC.out.1, keep_below HW0.out _ _ HC.out.2.1, keep_below HW0.out _ _ HC.out.2.2.1, keep_below HW0.out _ _ HC.out.2.2.2.1, keep_below HW0.out _ _ HC.out.2.2.2.2.1, keep_below HW0.out _ _ HC.out.2.2.2.2.2.1, keep_below HW0.out _ _ HC.out.2.2.2.2.2.2.1, keep_below HW0.out _ _ HC.out.2.2.2.2.2.2.2⟩
          clear hK K
          refine wpAnyH_ready (rs := [6]) (by kernel_rfl) (by simp) ?_
          refine AllReadyH.cons (o := _) rfl (fun K hK => ?_) ?_
          · clear hHeld
            go_simp
            obtain ⟨W13, hWn⟩ : ∃ xw9, W12.alloc (.cells #[.int .i64 0, .float .f64 0, .int .i32 0, .slice none 0 0] 58) = xw9 := ⟨_, rfl⟩
            have hB : Below W12.heap.size W12 W13 := by rw [← hWn]; exact below_new _ _
            have hNB : Blk4 W13 W12.heap.size (.int .i64 0) (.float .f64 0) (.int .i32 0) (.slice none 0 0) := by rw [← hWn]; exact Blk4.new _ _ _ _ _ _
            have hge : wr.heap.size ≤ W12.heap.size := HW0.out.size
            rw [hWn]
            clear hWn
            obtain ⟨pb, hnm⟩ : ∃ x, W12.heap.size = x := ⟨_, rfl⟩
            rw [hnm] at hNB hge ⊢
            have HNE := Lib.hid (show qb ≠ pb by rw [← hnm]; exact Nat.ne_of_lt HQ.out.1)
            replace HW0 := Lib.hid (HW0.out.trans (hB.mono HW0.out.size))
            replace HQ := Lib.hid (HQ.out.below hB)
            have HP := Lib.hid hNB
            have HPG := Lib.hid hge
            clear hNB hB hnm hge
            refine hK.out _ _ ?_ (fun hHeld => ?_)
            · exact ⟨keep_below HW0.out _ _ HC.out.1, keep_below HW0.out _ _ HC.out.2.1, keep_below HW0.out _ _ HC.out.2.2.1, keep_below HW0.out _ _ HC.out.2.2.2.1, keep_below HW0.out _ _ HC.out.2.2.2.2.1, keep_below HW0.out _ _ HC.out.2.2.2.2.2.1, keep_below HW0.out _ _ HC.out.2.2.2.2.2.2.1, keep_below HW0.out _ _ HC.out.2.2.2.2.2.2.2⟩
            clear hK K
            refine wpAnyH_ready (rs := [8]) (by kernel_rfl) (by simp) ?_
            refine AllReadyH.cons (o := _) rfl (fun K hK => ?_) ?_
            · clear hHeld
              have s0 := HP.out.2.1
              have s1 := HP.out.2.2.1
              have s2 := HP.out.2.2.2.1
              have s3 := HP.out.2.2.2.2.1
              have z0 := HP.out.2.2.2.2.2 0
              have z1 := HP.out.2.2.2.2.2 1
              have z2 := HP.out.2.2.2.2.2 2
              have z3 := HP.out.2.2.2.2.2 3
              go_simp
              clear s0 s1 s2 s3 z0 z1 z2 z3
              obtain ⟨W14, hWn⟩ : ∃ xw9, ((((W13.setCell ⟨pb, 0, none⟩ (.int .i64 ia.1)).setCell ⟨pb, 1, none⟩ (.float .f64 ia.2.1)).setCell ⟨pb, 2, none⟩ (.int .i32 ia.2.2.1)).setCell ⟨pb, 3, none⟩ (sa)) = xw9 := ⟨_, rfl⟩
              rw [hWn]
              replace HP := Lib.hid (show Blk4 W14 pb (.int .i64 ia.1) (.float .f64 ia.2.1) (.int .i32 ia.2.2.1) (sa) by rw [← hWn]; exact ((((HP.out.set0 _).set1 _).set2 _).set3 _))
              replace HQ := Lib.hid (show Blk4 W14 qb _ _ _ _ by rw [← hWn]; exact ((((HQ.out.other ⟨pb, 0, none⟩ HNE.out _).other ⟨pb, 1, none⟩ HNE.out _).other ⟨pb, 2, none⟩ HNE.out _).other ⟨pb, 3, none⟩ HNE.out _))
              replace HW0 := Lib.hid (show Below wr.heap.size wr W14 by rw [← hWn]; exact ((((HW0.out.setCell (p := ⟨pb, 0, none⟩) HPG.out _).setCell (p := ⟨pb, 1, none⟩) HPG.out _).setCell (p := ⟨pb, 2, none⟩) HPG.out _).setCell (p := ⟨pb, 3, none⟩) HPG.out _))
              clear hWn
              refine hK.out _ _ ?_ (fun hHeld => ?_)
              · exact ⟨keep_below HW0.out _ _ HC.out.1, keep_below HW0.out _ _ HC.out.2.1, keep_below HW0.out _ _ HC.out.2.2.1, keep_below HW0.out _ _ HC.out.2.2.2.1, keep_below HW0.out _ _ HC.out.2.2.2.2.1, keep_below HW0.out _ _ HC.out.2.2.2.2.2.1, keep_below HW0.out _ _ HC.out.2.2.2.2.2.2.1, keep_below HW0.out _ _ HC.out.2.2.2.2.2.2.2⟩
              clear hK K
              refine wpAnyH_ready (rs := [9]) (by kernel_rfl) (by simp) ?_
              refine AllReadyH.cons (o := _) rfl (fun K hK => ?_) ?_
              · clear hHeld
                have s0 := HQ.out.2.1
                have s1 := HQ.out.2.2.1
                have s2 := HQ.out.2.2.2.1
                have s3 := HQ.out.2.2.2.2.1
                have z0 := HQ.out.2.2.2.2.2 0
                have z1 := HQ.out.2.2.2.2.2 1
                have z2 := HQ.out.2.2.2.2.2 2
                have z3 := HQ.out.2.2.2.2.2 3
                go_simp
                clear s0 s1 s2 s3 z0 z1 z2 z3
                obtain ⟨W15, hWn⟩ : ∃ xw9, ((((W14.setCell ⟨qb, 0, none⟩ (.int .i64 ib.1)).setCell ⟨qb, 1, none⟩ (.float .f64 ib.2.1)).setCell ⟨qb, 2, none⟩ (.int .i32 ib.2.2.1)).setCell ⟨qb, 3, none⟩ (sb)) = xw9 := ⟨_, rfl⟩
                rw [hWn]
                replace HQ := Lib.hid (show Blk4 W15 qb (.int .i64 ib.1) (.float .f64 ib.2.1) (.int .i32 ib.2.2.1) (sb) by rw [← hWn]; exact ((((HQ.out.set0 _).set1 _).set2 _).set3 _))
                replace HP := Lib.hid (show Blk4 W15 pb _ _ _ _ by rw [← hWn]; exact ((((HP.out.other ⟨qb, 0, none⟩ (Ne.symm HNE.out) _).other ⟨qb, 1, none⟩ (Ne.symm HNE.out) _).other ⟨qb, 2, none⟩ (Ne.symm HNE.out) _).other ⟨qb, 3, none⟩ (Ne.symm HNE.out) _))
                replace HW0 := Lib.hid (show Below wr.heap.size wr W15 by rw [← hWn]; exact ((((HW0.out.setCell (p := ⟨qb, 0, none⟩) HQG.out _).setCell (p := ⟨qb, 1, none⟩) HQG.out _).setCell (p := ⟨qb, 2, none⟩) HQG.out _).setCell (p := ⟨qb, 3, none⟩) HQG.out _))
                clear hWn
                refine hK.out _ _ ?_ (fun hHeld => ?_)
                · exact ⟨keep_below HW0.out _ _ HC.out.1, keep_below HW0.out _ _ HC.out.2.1, keep_below HW0.out _ _ HC.out.2.2.1, keep_below HW0.out _ _ HC.out.2.2.2.1, keep_below HW0.out _ _ HC.out.2.2.2.2.1, keep_below HW0.out _ _ HC.out.2.2.2.2.2.1, keep_below HW0.out _ _ HC.out.2.2.2.2.2.2.1, keep_below HW0.out _ _ HC.out.2.2.2.2.2.2.2⟩
                clear hK K
                refine wpAnyH_done (by kernel_rfl) ?_ _
                clear hHeld
                refine ⟨rfl, pb, qb, ?_, HP.out, HQ.out, (Ne.symm HNE.out), HPG.out, HQG.out, HW0.out⟩
                rfl
              exact AllReadyH.nil
            exact AllReadyH.nil
          exact AllReadyH.nil
        exact AllReadyH.nil
      rintro _ W2 ⟨pb, qb, rfl, hp, hq, hne, hpg, hqg, hB⟩
      have HP := Lib.hid hp
      have HQ := Lib.hid hq
      have HNE := Lib.hid hne
      have HPG := Lib.hid hpg
      have HQG := Lib.hid hqg
      have HB2 := Lib.hid hB
      have HVA2 := Lib.hid (HVA.out.grow hB)
      have HVB2 := Lib.hid (HVB.out.grow hB)
      simp only [Act.put, List.setIfInBounds_toArray, List.set_cons_zero, List.set_cons_succ]
      clear hp hq hne hpg hqg hB HC
      by_cases ha1 : la.length = 1
      · by_cases hb1 : lb.length = 1
        · have h1a : ¬ 1 < la.length := by omega
          have HPKa := Lib.hid (show pk dI la k = ia by unfold pk; rw [if_pos ha1, List.getD_eq_getElem?_getD, List.getElem?_eq_getElem HL0.out.1, HIA.out]; rfl)
          have HFNa := Lib.hid (show Fnt ia.2.1 by rw [← HIA.out]; exact HFA.out _ (List.getElem_mem _))
          clear ha1
          have h1b : ¬ 1 < lb.length := by omega
          have HPKb := Lib.hid (show pk dI lb k = ib by unfold pk; rw [if_pos hb1, List.getD_eq_getElem?_getD, List.getElem?_eq_getElem HL0.out.2, HIB.out]; rfl)
          have HFNb := Lib.hid (show Fnt ib.2.1 by rw [← HIB.out]; exact HFB.out _ (List.getElem_mem _))
          clear hb1
          have p1 := HP.out.2.2.1
          have p2 := HP.out.2.2.2.1
          have q1 := HQ.out.2.2.1
          have q2 := HQ.out.2.2.2.1
          have HO9 := Lib.hid (owns_below HO.out HB2.out)
          have HB9 := Lib.hid (HB.out.trans (HB2.out.mono HB.out.size))
          have HSW := Lib.hid HB9.out.size
          rw [HPKa.out, HPKb.out] at HTK
          go_wp2_with fail
          refine (rrone_calls 16 ia.2.1 ib.2.1 _ HFNa.out HFNb.out).mono ?_
          rintro e w' ⟨rfl, rfl⟩
          have HRV := Lib.hid (show rrV 16 0 1 ia ib = true by unfold rrV; rw [if_neg (by decide)]; rfl)
          rw [HRV.out] at HTK
          have HM1 : Hid (k + 1 ≤ maxLen) := Lib.hid (by have := HLT.out; unfold maxLen; omega)
          go_wp2_with (at_builtin; refine wpList_append_own _ rfl _ _ 37 rfl w.heap.size 4 i0 (.bool false) 1 1 Tryz.underlying37 HI0.out.1 HI0.out.2.1 HI0.out.2.2.1 HI0.out.2.2.2 rfl (by decide) _ _ _ rfl (HO9.out.alloc _) ⟨W2.heap.size, 0, none⟩ 1 1 [.bool true] rfl rfl ?c1 ?c2 HM1.out ?c4 ?c5 ?_)
          case c1 =>
            intro j u hj
            match j, hj with
            | 0, hj => simp at hj; subst hj; simp [Addr.add]
          case c2 => intro u hu; simp at hu; subst hu; rfl
          case c4 => omega
          case c5 => have := HSW.out; simp <;> omega
          intro v' w3 hown' hgrow _
          have HO3 := Lib.hid hown'
          have HB3 := Lib.hid (grown_below (HB9.out.alloc HSW.out _) (HO9.out.alloc _) (Nat.le_refl _) (by have := HSW.out; simp <;> omega) hgrow)
          have hlt := HLT.out
          clear hown' hgrow
          go_wp2
          go_roundw
          case rel =>
            refine ⟨k + 1, by omega, by go_num, ?_, HB3.out⟩
            have := HO3.out
            rw [HTK.out]
            simpa [bools] using this
          case measure => simp [intOf]; omega
        · have h1a : ¬ 1 < la.length := by omega
          have HPKa := Lib.hid (show pk dI la k = ia by unfold pk; rw [if_pos ha1, List.getD_eq_getElem?_getD, List.getElem?_eq_getElem HL0.out.1, HIA.out]; rfl)
          have HFNa := Lib.hid (show Fnt ia.2.1 by rw [← HIA.out]; exact HFA.out _ (List.getElem_mem _))
          clear ha1
          have h1b : 1 < lb.length := by have := HL0.out; omega
          have hkb : k < lb.length := by have := HI.out; omega
          obtain ⟨bb, ob, bob, bcb, hbe, _, cb0, cb1, cb2, cb3, _⟩ := HVB2.out.at (List.getElem?_eq_getElem hkb)
          cases hbe
          obtain ⟨xb, hxb⟩ : ∃ x, lb[k]'hkb = x := ⟨_, rfl⟩
          have HPKb := Lib.hid (show pk dI lb k = xb by unfold pk; rw [if_neg hb1, List.getD_eq_getElem?_getD, List.getElem?_eq_getElem hkb, hxb]; rfl)
          have HFNb := Lib.hid (show Fnt xb.2.1 by rw [← hxb]; exact HFB.out _ (List.getElem_mem _))
          rw [hxb] at cb0 cb1 cb2 cb3
          obtain ⟨sb2, hsb2⟩ : ∃ s, Value.slice bob xb.2.2.2.length bcb = s := ⟨_, rfl⟩
          have hnb2 : (∀ (w : World) (a : Addr) (m : Mode), (store a sb2 m).run Tryz.prog w = stored Tryz.prog w a sb2 m) := by subst hsb2; exact fun w a m => run_store Tryz.prog w a _ m rfl
          rw [hsb2] at cb3
          clear hxb hsb2 hb1
          have tb0 := HQ.out.2.1
          have tb1 := HQ.out.2.2.1
          have tb2 := HQ.out.2.2.2.1
          have tb3 := HQ.out.2.2.2.2.1
          have zb0 := HQ.out.2.2.2.2.2 0
          have zb1 := HQ.out.2.2.2.2.2 1
          have zb2 := HQ.out.2.2.2.2.2 2
          have zb3 := HQ.out.2.2.2.2.2 3
          obtain ⟨W4, hWW4⟩ : ∃ xw9, ((((W2.setCell ⟨qb, 0, none⟩ (.int .i64 xb.1)).setCell ⟨qb, 1, none⟩ (.float .f64 xb.2.1)).setCell ⟨qb, 2, none⟩ (.int .i32 xb.2.2.1)).setCell ⟨qb, 3, none⟩ (sb2)) = xw9 := ⟨_, rfl⟩
          replace HQ := Lib.hid (show Blk4 W4 qb (.int .i64 xb.1) (.float .f64 xb.2.1) (.int .i32 xb.2.2.1) (sb2) by rw [← hWW4]; exact ((((HQ.out.set0 _).set1 _).set2 _).set3 _))
          replace HP := Lib.hid (show Blk4 W4 pb _ _ _ _ by rw [← hWW4]; exact ((((HP.out.other ⟨qb, 0, none⟩ HNE.out _).other ⟨qb, 1, none⟩ HNE.out _).other ⟨qb, 2, none⟩ HNE.out _).other ⟨qb, 3, none⟩ HNE.out _))
          replace HB2 := Lib.hid (show Below wr.heap.size wr W4 by rw [← hWW4]; exact ((((HB2.out.setCell (p := ⟨qb, 0, none⟩) HQG.out _).setCell (p := ⟨qb, 1, none⟩) HQG.out _).setCell (p := ⟨qb, 2, none⟩) HQG.out _).setCell (p := ⟨qb, 3, none⟩) HQG.out _))
          replace HVA2 := Lib.hid (HVA.out.grow HB2.out)
          replace HVB2 := Lib.hid (HVB.out.grow HB2.out)
          have p1 := HP.out.2.2.1
          have p2 := HP.out.2.2.2.1
          have q1 := HQ.out.2.2.1
          have q2 := HQ.out.2.2.2.1
          have HO9 := Lib.hid (owns_below HO.out HB2.out)
          have HB9 := Lib.hid (HB.out.trans (HB2.out.mono HB.out.size))
          have HSW := Lib.hid HB9.out.size
          rw [HPKa.out, HPKb.out] at HTK
          go_wp2_with fail
          refine (rrone_calls 16 ia.2.1 xb.2.1 _ HFNa.out HFNb.out).mono ?_
          rintro e w' ⟨rfl, rfl⟩
          have HRV := Lib.hid (show rrV 16 0 1 ia xb = true by unfold rrV; rw [if_neg (by decide)]; rfl)
          rw [HRV.out] at HTK
          have HM1 : Hid (k + 1 ≤ maxLen) := Lib.hid (by have := HLT.out; unfold maxLen; omega)
          go_wp2_with (at_builtin; refine wpList_append_own _ rfl _ _ 37 rfl w.heap.size 4 i0 (.bool false) 1 1 Tryz.underlying37 HI0.out.1 HI0.out.2.1 HI0.out.2.2.1 HI0.out.2.2.2 rfl (by decide) _ _ _ rfl (HO9.out.alloc _) ⟨W4.heap.size, 0, none⟩ 1 1 [.bool true] rfl rfl ?c1 ?c2 HM1.out ?c4 ?c5 ?_)
          case c1 =>
            intro j u hj
            match j, hj with
            | 0, hj => simp at hj; subst hj; simp [Addr.add]
          case c2 => intro u hu; simp at hu; subst hu; rfl
          case c4 => omega
          case c5 => have := HSW.out; simp <;> omega
          intro v' w3 hown' hgrow _
          have HO3 := Lib.hid hown'
          have HB3 := Lib.hid (grown_below (HB9.out.alloc HSW.out _) (HO9.out.alloc _) (Nat.le_refl _) (by have := HSW.out; simp <;> omega) hgrow)
          have hlt := HLT.out
          clear hown' hgrow
          go_wp2
          go_roundw
          case rel =>
            refine ⟨k + 1, by omega, by go_num, ?_, HB3.out⟩
            have := HO3.out
            rw [HTK.out]
            simpa [bools] using this
          case measure => simp [intOf]; omega
      · by_cases hb1 : lb.length = 1
        · have h1a : 1 < la.length := by have := HL0.out; omega
          have hka : k < la.length := by have := HI.out; omega
          obtain ⟨ba, oa, boa, bca, hbe, _, ca0, ca1, ca2, ca3, _⟩ := HVA2.out.at (List.getElem?_eq_getElem hka)
          cases hbe
          obtain ⟨xa, hxa⟩ : ∃ x, la[k]'hka = x := ⟨_, rfl⟩
          have HPKa := Lib.hid (show pk dI la k = xa by unfold pk; rw [if_neg ha1, List.getD_eq_getElem?_getD, List.getElem?_eq_getElem hka, hxa]; rfl)
          have HFNa := Lib.hid (show Fnt xa.2.1 by rw [← hxa]; exact HFA.out _ (List.getElem_mem _))
          rw [hxa] at ca0 ca1 ca2 ca3
          obtain ⟨sa2, hsa2⟩ : ∃ s, Value.slice boa xa.2.2.2.length bca = s := ⟨_, rfl⟩
          have hna2 : (∀ (w : World) (a : Addr) (m : Mode), (store a sa2 m).run Tryz.prog w = stored Tryz.prog w a sa2 m) := by subst hsa2; exact fun w a m => run_store Tryz.prog w a _ m rfl
          rw [hsa2] at ca3
          clear hxa hsa2 ha1
          have ta0 := HP.out.2.1
          have ta1 := HP.out.2.2.1
          have ta2 := HP.out.2.2.2.1
          have ta3 := HP.out.2.2.2.2.1
          have za0 := HP.out.2.2.2.2.2 0
          have za1 := HP.out.2.2.2.2.2 1
          have za2 := HP.out.2.2.2.2.2 2
          have za3 := HP.out.2.2.2.2.2 3
          obtain ⟨W3, hWW3⟩ : ∃ xw9, ((((W2.setCell ⟨pb, 0, none⟩ (.int .i64 xa.1)).setCell ⟨pb, 1, none⟩ (.float .f64 xa.2.1)).setCell ⟨pb, 2, none⟩ (.int .i32 xa.2.2.1)).setCell ⟨pb, 3, none⟩ (sa2)) = xw9 := ⟨_, rfl⟩
          replace HP := Lib.hid (show Blk4 W3 pb (.int .i64 xa.1) (.float .f64 xa.2.1) (.int .i32 xa.2.2.1) (sa2) by rw [← hWW3]; exact ((((HP.out.set0 _).set1 _).set2 _).set3 _))
          replace HQ := Lib.hid (show Blk4 W3 qb _ _ _ _ by rw [← hWW3]; exact ((((HQ.out.other ⟨pb, 0, none⟩ (Ne.symm HNE.out) _).other ⟨pb, 1, none⟩ (Ne.symm HNE.out) _).other ⟨pb, 2, none⟩ (Ne.symm HNE.out) _).other ⟨pb, 3, none⟩ (Ne.symm HNE.out) _))
          replace HB2 := Lib.hid (show Below wr.heap.size wr W3 by rw [← hWW3]; exact ((((HB2.out.setCell (p := ⟨pb, 0, none⟩) HPG.out _).setCell (p := ⟨pb, 1, none⟩) HPG.out _).setCell (p := ⟨pb, 2, none⟩) HPG.out _).setCell (p := ⟨pb, 3, none⟩) HPG.out _))
          replace HVA2 := Lib.hid (HVA.out.grow HB2.out)
          replace HVB2 := Lib.hid (HVB.out.grow HB2.out)
          have h1b : ¬ 1 < lb.length := by omega
          have HPKb := Lib.hid (show pk dI lb k = ib by unfold pk; rw [if_pos hb1, List.getD_eq_getElem?_getD, List.getElem?_eq_getElem HL0.out.2, HIB.out]; rfl)
          have HFNb := Lib.hid (show Fnt ib.2.1 by rw [← HIB.out]; exact HFB.out _ (List.getElem_mem _))
          clear hb1
          have p1 := HP.out.2.2.1
          have p2 := HP.out.2.2.2.1
          have q1 := HQ.out.2.2.1
          have q2 := HQ.out.2.2.2.1
          have HO9 := Lib.hid (owns_below HO.out HB2.out)
          have HB9 := Lib.hid (HB.out.trans (HB2.out.mono HB.out.size))
          have HSW := Lib.hid HB9.out.size
          rw [HPKa.out, HPKb.out] at HTK
          go_wp2_with fail
          refine (rrone_calls 16 xa.2.1 ib.2.1 _ HFNa.out HFNb.out).mono ?_
          rintro e w' ⟨rfl, rfl⟩
          have HRV := Lib.hid (show rrV 16 0 1 xa ib = true by unfold rrV; rw [if_neg (by decide)]; rfl)
          rw [HRV.out] at HTK
          have HM1 : Hid (k + 1 ≤ maxLen) := Lib.hid (by have := HLT.out; unfold maxLen; omega)
          go_wp2_with (at_builtin; refine wpList_append_own _ rfl _ _ 37 rfl w.heap.size 4 i0 (.bool false) 1 1 Tryz.underlying37 HI0.out.1 HI0.out.2.1 HI0.out.2.2.1 HI0.out.2.2.2 rfl (by decide) _ _ _ rfl (HO9.out.alloc _) ⟨W3.heap.size, 0, none⟩ 1 1 [.bool true] rfl rfl ?c1 ?c2 HM1.out ?c4 ?c5 ?_)
          case c1 =>
            intro j u hj
            match j, hj with
            | 0, hj => simp at hj; subst hj; simp [Addr.add]
          case c2 => intro u hu; simp at hu; subst hu; rfl
          case c4 => omega
          case c5 => have := HSW.out; simp <;> omega
          intro v' w3 hown' hgrow _
          have HO3 := Lib.hid hown'
          have HB3 := Lib.hid (grown_below (HB9.out.alloc HSW.out _) (HO9.out.alloc _) (Nat.le_refl _) (by have := HSW.out; simp <;> omega) hgrow)
          have hlt := HLT.out
          clear hown' hgrow
          go_wp2
          go_roundw
          case rel =>
            refine ⟨k + 1, by omega, by go_num, ?_, HB3.out⟩
            have := HO3.out
            rw [HTK.out]
            simpa [bools] using this
          case measure => simp [intOf]; omega
        · have h1a : 1 < la.length := by have := HL0.out; omega
          have hka : k < la.length := by have := HI.out; omega
          obtain ⟨ba, oa, boa, bca, hbe, _, ca0, ca1, ca2, ca3, _⟩ := HVA2.out.at (List.getElem?_eq_getElem hka)
          cases hbe
          obtain ⟨xa, hxa⟩ : ∃ x, la[k]'hka = x := ⟨_, rfl⟩
          have HPKa := Lib.hid (show pk dI la k = xa by unfold pk; rw [if_neg ha1, List.getD_eq_getElem?_getD, List.getElem?_eq_getElem hka, hxa]; rfl)
          have HFNa := Lib.hid (show Fnt xa.2.1 by rw [← hxa]; exact HFA.out _ (List.getElem_mem _))
          rw [hxa] at ca0 ca1 ca2 ca3
          obtain ⟨sa2, hsa2⟩ : ∃ s, Value.slice boa xa.2.2.2.length bca = s := ⟨_, rfl⟩
          have hna2 : (∀ (w : World) (a : Addr) (m : Mode), (store a sa2 m).run Tryz.prog w = stored Tryz.prog w a sa2 m) := by subst hsa2; exact fun w a m => run_store Tryz.prog w a _ m rfl
          rw [hsa2] at ca3
          clear hxa hsa2 ha1
          have ta0 := HP.out.2.1
          have ta1 := HP.out.2.2.1
          have ta2 := HP.out.2.2.2.1
          have ta3 := HP.out.2.2.2.2.1
          have za0 := HP.out.2.2.2.2.2 0
          have za1 := HP.out.2.2.2.2.2 1
          have za2 := HP.out.2.2.2.2.2 2
          have za3 := HP.out.2.2.2.2.2 3
          obtain ⟨W3, hWW3⟩ : ∃ xw9, ((((W2.setCell ⟨pb, 0, none⟩ (.int .i64 xa.1)).setCell ⟨pb, 1, none⟩ (.float .f64 xa.2.1)).setCell ⟨pb, 2, none⟩ (.int .i32 xa.2.2.1)).setCell ⟨pb, 3, none⟩ (sa2)) = xw9 := ⟨_, rfl⟩
          replace HP := Lib.hid (show Blk4 W3 pb (.int .i64 xa.1) (.float .f64 xa.2.1) (.int .i32 xa.2.2.1) (sa2) by rw [← hWW3]; exact ((((HP.out.set0 _).set1 _).set2 _).set3 _))
          replace HQ := Lib.hid (show Blk4 W3 qb _ _ _ _ by rw [← hWW3]; exact ((((HQ.out.other ⟨pb, 0, none⟩ (Ne.symm HNE.out) _).other ⟨pb, 1, none⟩ (Ne.symm HNE.out) _).other ⟨pb, 2, none⟩ (Ne.symm HNE.out) _).other ⟨pb, 3, none⟩ (Ne.symm HNE.out) _))
          replace HB2 := Lib.hid (show Below wr.heap.size wr W3 by rw [← hWW3]; exact ((((HB2.out.setCell (p := ⟨pb, 0, none⟩) HPG.out _).setCell (p := ⟨pb, 1, none⟩) HPG.out _).setCell (p := ⟨pb, 2, none⟩) HPG.out _).setCell (p := ⟨pb, 3, none⟩) HPG.out _))
          replace HVA2 := Lib.hid (HVA.out.grow HB2.out)
          replace HVB2 := Lib.hid (HVB.out.grow HB2.out)
          have h1b : 1 < lb.length := by have := HL0.out; omega
          have hkb : k < lb.length := by have := HI.out; omega
          obtain ⟨bb, ob, bob, bcb, hbe, _, cb0, cb1, cb2, cb3, _⟩ := HVB2.out.at (List.getElem?_eq_getElem hkb)
          cases hbe
          obtain ⟨xb, hxb⟩ : ∃ x, lb[k]'hkb = x := ⟨_, rfl⟩
          have HPKb := Lib.hid (show pk dI lb k = xb by unfold pk; rw [if_neg hb1, List.getD_eq_getElem?_getD, List.getElem?_eq_getElem hkb, hxb]; rfl)
          have HFNb := Lib.hid (show Fnt xb.2.1 by rw [← hxb]; exact HFB.out _ (List.getElem_mem _))
          rw [hxb] at cb0 cb1 cb2 cb3
          obtain ⟨sb2, hsb2⟩ : ∃ s, Value.slice bob xb.2.2.2.length bcb = s := ⟨_, rfl⟩
          have hnb2 : (∀ (w : World) (a : Addr) (m : Mode), (store a sb2 m).run Tryz.prog w = stored Tryz.prog w a sb2 m) := by subst hsb2; exact fun w a m => run_store Tryz.prog w a _ m rfl
          rw [hsb2] at cb3
          clear hxb hsb2 hb1
          have tb0 := HQ.out.2.1
          have tb1 := HQ.out.2.2.1
          have tb2 := HQ.out.2.2.2.1
          have tb3 := HQ.out.2.2.2.2.1
          have zb0 := HQ.out.2.2.2.2.2 0
          have zb1 := HQ.out.2.2.2.2.2 1
          have zb2 := HQ.out.2.2.2.2.2 2
          have zb3 := HQ.out.2.2.2.2.2 3
          obtain ⟨W4, hWW4⟩ : ∃ xw9, ((((W3.setCell ⟨qb, 0, none⟩ (.int .i64 xb.1)).setCell ⟨qb, 1, none⟩ (.float .f64 xb.2.1)).setCell ⟨qb, 2, none⟩ (.int .i32 xb.2.2.1)).setCell ⟨qb, 3, none⟩ (sb2)) = xw9 := ⟨_, rfl⟩
          replace HQ := Lib.hid (show Blk4 W4 qb (.int .i64 xb.1) (.float .f64 xb.2.1) (.int .i32 xb.2.2.1) (sb2) by rw [← hWW4]; exact ((((HQ.out.set0 _).set1 _).set2 _).set3 _))
          replace HP := Lib.hid (show Blk4 W4 pb _ _ _ _ by rw [← hWW4]; exact ((((HP.out.other ⟨qb, 0, none⟩ HNE.out _).other ⟨qb, 1, none⟩ HNE.out _).other ⟨qb, 2, none⟩ HNE.out _).other ⟨qb, 3, none⟩ HNE.out _))
          replace HB2 := Lib.hid (show Below wr.heap.size wr W4 by rw [← hWW4]; exact ((((HB2.out.setCell (p := ⟨qb, 0, none⟩) HQG.out _).setCell (p := ⟨qb, 1, none⟩) HQG.out _).setCell (p := ⟨qb, 2, none⟩) HQG.out _).setCell (p := ⟨qb, 3, none⟩) HQG.out _))
          replace HVA2 := Lib.hid (HVA.out.grow HB2.out)
          replace HVB2 := Lib.hid (HVB.out.grow HB2.out)
          have p1 := HP.out.2.2.1
          have p2 := HP.out.2.2.2.1
          have q1 := HQ.out.2.2.1
          have q2 := HQ.out.2.2.2.1
          have HO9 := Lib.hid (owns_below HO.out HB2.out)
          have HB9 := Lib.hid (HB.out.trans (HB2.out.mono HB.out.size))
          have HSW := Lib.hid HB9.out.size
          rw [HPKa.out, HPKb.out] at HTK
          go_wp2_with fail
          refine (rrone_calls 16 xa.2.1 xb.2.1 _ HFNa.out HFNb.out).mono ?_
          rintro e w' ⟨rfl, rfl⟩
          have HRV := Lib.hid (show rrV 16 0 1 xa xb = true by unfold rrV; rw [if_neg (by decide)]; rfl)
          rw [HRV.out] at HTK
          have HM1 : Hid (k + 1 ≤ maxLen) := Lib.hid (by have := HLT.out; unfold maxLen; omega)
          go_wp2_with (at_builtin; refine wpList_append_own _ rfl _ _ 37 rfl w.heap.size 4 i0 (.bool false) 1 1 Tryz.underlying37 HI0.out.1 HI0.out.2.1 HI0.out.2.2.1 HI0.out.2.2.2 rfl (by decide) _ _ _ rfl (HO9.out.alloc _) ⟨W4.heap.size, 0, none⟩ 1 1 [.bool true] rfl rfl ?c1 ?c2 HM1.out ?c4 ?c5 ?_)
          case c1 =>
            intro j u hj
            match j, hj with
            | 0, hj => simp at hj; subst hj; simp [Addr.add]
          case c2 => intro u hu; simp at hu; subst hu; rfl
          case c4 => omega
          case c5 => have := HSW.out; simp <;> omega
          intro v' w3 hown' hgrow _
          have HO3 := Lib.hid hown'
          have HB3 := Lib.hid (grown_below (HB9.out.alloc HSW.out _) (HO9.out.alloc _) (Nat.le_refl _) (by have := HSW.out; simp <;> omega) hgrow)
          have hlt := HLT.out
          clear hown' hgrow
          go_wp2
          go_roundw
          case rel =>
            refine ⟨k + 1, by omega, by go_num, ?_, HB3.out⟩
            have := HO3.out
            rw [HTK.out]
            simpa [bools] using this
          case measure => simp [intOf]; omega
    · have hkn : k = n := by omega
      have HTA := Lib.hid (show bools (R.take k) = bools R by rw [hkn, List.take_of_length_le (Nat.le_of_eq HRL.out)])
      have HKN := Lib.hid hkn
      clear hkn
      go_wp2
      go_ret2
      refine ⟨_, rfl, ?_, HB.out⟩
      have := Slc.owned HO.out
      rw [HTA.out, HKN.out] at this
      rw [HRL.out]
      exact this
set_option maxHeartbeats 8000000 in
theorem rr1610_calls {okA okB : Nat → Prop} (va vb : Value) (la lb : List PI) (w : World) (hva : Its w okA va la) (hvb : Its w okB vb lb) (hla : la.length ≤ 1048576) (hlb : lb.length ≤ 1048576) (fa : ∀ p ∈ la, Fnt p.2.1) (fb : ∀ p ∈ lb, Fnt p.2.1) (hg : goesA la.length lb.length) :
    Calls Tryz.prog 9 #[.int .i64 16, va, .int .i64 1, vb, .int .i64 0] w (Told (rrL 16 1 0 la lb) w) := by
  obtain ⟨n, hn⟩ : ∃ n, lenN la.length lb.length = n := ⟨_, rfl⟩
  obtain ⟨R, hR⟩ : ∃ R, rrL 16 1 0 la lb = R := ⟨_, rfl⟩
  have HRL := Lib.hid (show R.length = n by rw [← hR, ← hn]; exact rrL_len _ _ _ _ _)
  have HRT := Lib.hid (show ∀ k, k < n → R.take (k + 1) = R.take k ++ [rrV 16 1 0 (pk dI la k) (pk dI lb k)] by rw [← hR]; intro k hk; exact rrL_take (by rw [hn]; exact hk))
  have HIN := Lib.hid (show ∀ i, i < n → (la.length = 1 ∨ i < la.length) ∧ (lb.length = 1 ∨ i < lb.length) by
    intro i hi
    rw [← hn] at hi
    exact lenN_in hg hi)
  rw [hR]
  have HNL := Lib.hid (show n ≤ 1048576 by rw [← hn]; exact lenN_le hla hlb)
  have HN := Lib.hid hn
  have HG := Lib.hid hg
  have HFA := Lib.hid fa
  have HFB := Lib.hid fb
  have HLL := Lib.hid (And.intro hla hlb)
  have HVA := Lib.hid hva
  have HVB := Lib.hid hvb
  obtain ⟨ao, cap, rfl, _, _⟩ := hva.len
  obtain ⟨bo, cbp, rfl, _, _⟩ := hvb.len
  have hst := run_store_float
  clear hn hR hva hvb hla hlb fa fb hg
  obtain ⟨i0, hi, hz0, hz1, hz2⟩ := info_parts info_bool1
  have HI0 := Lib.hid (And.intro hi (And.intro hz0 (And.intro hz1 hz2)))
  clear hi hz0 hz1 hz2
  go_enter Tryz.func9, Tryz.ntmps9
  go_wp2_with (refine (ralen_yes _ _ _ HG.out).mono ?_; rintro e w' ⟨rfl, rfl⟩; rw [HN.out])
  go_loopw [13, 14] (fun v i wr => ∃ k : Nat, k ≤ n ∧ i = .int .i64 k ∧ wr.ownsRow w.heap.size 4 1 v k (bools (R.take k)) ∧ Below w.heap.size w wr) (fun _ i _ => n - (intOf i).toNat)
  case atStart => exact ⟨0, by omega, rfl, World.ownsRow_nil _ _ _ _, Below.refl _ _⟩
  case round =>
    obtain ⟨k, hk, rfl, hown, hB⟩ := hrel
    have HO := Lib.hid hown
    have HB := Lib.hid hB
    clear hown hB
    have hnm := HNL.out
    by_cases hlt : k < n
    · have HI := Lib.hid (HIN.out k hlt)
      have HL0 := Lib.hid (show 0 < la.length ∧ 0 < lb.length by have := HI.out; omega)
      have hl1 := HL0.out.1
      have hl2 := HL0.out.2
      have HVA := Lib.hid (HVA.out.grow HB.out)
      have HVB := Lib.hid (HVB.out.grow HB.out)
      have HTK := Lib.hid (HRT.out k hlt)
      have HLT := Lib.hid hlt
      obtain ⟨b0, o0, bo0, bc0, rfl, _, c0, c1, c2, c3, _⟩ := HVA.out.at (List.getElem?_eq_getElem HL0.out.1)
      obtain ⟨d0, p0, do0, dc0, rfl, _, e0, e1, e2, e3, _⟩ := HVB.out.at (List.getElem?_eq_getElem HL0.out.2)
      simp only [Nat.zero_mul, Nat.add_zero] at c0 c1 c2 c3 e0 e1 e2 e3
      obtain ⟨ia, hia⟩ : ∃ ia, la[0]'HL0.out.1 = ia := ⟨_, rfl⟩
      obtain ⟨ib, hib⟩ : ∃ ib, lb[0]'HL0.out.2 = ib := ⟨_, rfl⟩
      have HIA := Lib.hid hia
      have HIB := Lib.hid hib
      rw [hia] at c0 c1 c2 c3
      rw [hib] at e0 e1 e2 e3
      obtain ⟨sa, hsa⟩ : ∃ sa, Value.slice bo0 ia.2.2.2.length bc0 = sa := ⟨_, rfl⟩
      obtain ⟨sb, hsb⟩ : ∃ sb, Value.slice do0 ib.2.2.2.length dc0 = sb := ⟨_, rfl⟩
      have hna : (∀ (w : World) (a : Addr) (m : Mode), (store a sa m).run Tryz.prog w = stored Tryz.prog w a sa m) := by subst hsa; exact fun w a m => run_store Tryz.prog w a _ m rfl
      have hnb : (∀ (w : World) (a : Addr) (m : Mode), (store a sb m).run Tryz.prog w = stored Tryz.prog w a sb m) := by subst hsb; exact fun w a m => run_store Tryz.prog w a _ m rfl
      rw [hsa] at c3
      rw [hsb] at e3
      clear hia hib hsa hsb hlt
      have HC := Lib.hid (And.intro c0 (And.intro c1 (And.intro c2 (And.intro c3 (And.intro e0 (And.intro e1 (And.intro e2 e3)))))))
      go_wp2_with fail
      rw [show decide (k < n) = true from decide_eq_true HLT.out]
      clear c0 c1 c2 c3 e0 e1 e2 e3
      refine wp_mid (fun a a' w' => ∃ pb qb : Nat, a' = ((((((((a.put (some 59) (.slice (some ⟨b0, o0, none⟩) la.length cap)).put (some 60) (.pointer (some ⟨b0, o0, none⟩))).put (some 61) (.agg #[.int .i64 ia.1, .float .f64 ia.2.1, .int .i32 ia.2.2.1, sa])).put (some 62) (.slice (some ⟨d0, p0, none⟩) lb.length cbp)).put (some 63) (.pointer (some ⟨d0, p0, none⟩))).put (some 64) (.agg #[.int .i64 ib.1, .float .f64 ib.2.1, .int .i32 ib.2.2.1, sb])).put (some 15) (.pointer (some ⟨pb, 0, none⟩))).put (some 16) (.pointer (some ⟨qb, 0, none⟩))) ∧ Blk4 w' pb (.int .i64 ia.1) (.float .f64 ia.2.1) (.int .i32 ia.2.2.1) sa ∧ Blk4 w' qb (.int .i64 ib.1) (.float .f64 ib.2.1) (.int .i32 ib.2.2.1) sb ∧ pb ≠ qb ∧ wr.heap.size ≤ pb ∧ wr.heap.size ≤ qb ∧ Below wr.heap.size wr w') ?_ ?_
      · have HW0 := Lib.hid (Below.refl wr.heap.size wr)
        obtain ⟨W11, hWD⟩ : ∃ xw9, wr.drew = xw9 := ⟨_, rfl⟩
        have hB : Below wr.heap.size wr W11 := by rw [← hWD]; exact Below.drewN' (Below.refl _ _) 1
        replace HW0 := Lib.hid (HW0.out.trans (hB.mono HW0.out.size))
        clear hB
        refine wp_region_held_drew (S := fun w' => w'.cell? ⟨b0, o0, none⟩ = some (.int .i64 ia.1) ∧ w'.cell? ⟨b0, o0 + 1, none⟩ = some (.float .f64 ia.2.1) ∧ w'.cell? ⟨b0, o0 + 2, none⟩ = some (.int .i32 ia.2.2.1) ∧ w'.cell? ⟨b0, o0 + 3, none⟩ = some (sa) ∧ w'.cell? ⟨d0, p0, none⟩ = some (.int .i64 ib.1) ∧ w'.cell? ⟨d0, p0 + 1, none⟩ = some (.float .f64 ib.2.1) ∧ w'.cell? ⟨d0, p0 + 2, none⟩ = some (.int .i32 ib.2.2.1) ∧ w'.cell? ⟨d0, p0 + 3, none⟩ = some (sb)) (by kernel_rfl) (by rw [hWD]; exact ⟨keep_below HW0.out _ _ HC.out.1, keep_below HW0.out _ _ HC.out.2.1, keep_below HW0.out _ _ HC.out.2.2.1, keep_below HW0.out _ _ HC.out.2.2.2.1, keep_below HW0.out _ _ HC.out.2.2.2.2.1, keep_below HW0.out _ _ HC.out.2.2.2.2.2.1, keep_below HW0.out _ _ HC.out.2.2.2.2.2.2.1, keep_below HW0.out _ _ HC.out.2.2.2.2.2.2.2⟩) (fun hHeld => ?_)
        rw [hWD] at hHeld ⊢
        clear hWD
        refine wpAnyH_take (i := 0) (v := ?_) rfl (by kernel_rfl) (by kernel_rfl) (by kernel_rfl) (fun _ _ _ h => absurd h.1 (by simp)) (Or.inl ⟨by rfl, ?_⟩) (by assumption) ?_
        rotate_left
        · (intro w hSw; (try dsimp only at hSw); go_simp; try with_reducible rfl)
        simp only [Act.put, List.getElem_toArray, List.getElem_cons_zero, List.setIfInBounds_toArray, List.set_cons_zero, List.set_cons_succ]
        refine wpAnyH_take (i := 1) (v := ?_) rfl (by kernel_rfl) (by kernel_rfl) (by kernel_rfl) (fun _ _ _ h => absurd h.1 (by simp)) (Or.inl ⟨by rfl, ?_⟩) (by assumption) ?_
        rotate_left
        · (intro w hSw; (try dsimp only at hSw); go_simp; try with_reducible rfl)
        simp only [Act.put, List.getElem_toArray, List.getElem_cons_succ, List.getElem_cons_zero, List.setIfInBounds_toArray, List.set_cons_zero, List.set_cons_succ]
        refine wpAnyH_take (i := 2) (v := ?_) rfl (by kernel_rfl) (by kernel_rfl) (by kernel_rfl) (fun _ _ _ h => absurd h.1 (by simp)) (Or.inl ⟨by rfl, ?_⟩) (by assumption) ?_
        rotate_left
        · (intro w hSw; (try dsimp only at hSw); go_simp; try with_reducible rfl)
        simp only [Act.put, List.getElem_toArray, List.getElem_cons_succ, List.getElem_cons_zero, List.setIfInBounds_toArray, List.set_cons_zero, List.set_cons_succ]
        refine wpAnyH_take (i := 3) (v := ?_) rfl (by kernel_rfl) (by kernel_rfl) (by kernel_rfl) (fun _ _ _ h => absurd h.1 (by simp)) (Or.inl ⟨by rfl, ?_⟩) (by assumption) ?_
        rotate_left
        · (intro w hSw; (try dsimp only at hSw); go_simp; try with_reducible rfl)
        simp only [Act.put, List.getElem_toArray, List.getElem_cons_succ, List.getElem_cons_zero, List.setIfInBounds_toArray, List.set_cons_zero, List.set_cons_succ]
        refine wpAnyH_take (i := 4) (v := ?_) rfl (by kernel_rfl) (by kernel_rfl) (by kernel_rfl) (fun _ _ _ h => absurd h.1 (by simp)) (Or.inl ⟨by rfl, ?_⟩) (by assumption) ?_
        rotate_left
        · (intro w hSw; (try dsimp only at hSw); go_simp; try with_reducible rfl)
        simp only [Act.put, List.getElem_toArray, List.getElem_cons_succ, List.getElem_cons_zero, List.setIfInBounds_toArray, List.set_cons_zero, List.set_cons_succ]
        refine wpAnyH_take (i := 5) (v := ?_) rfl (by kernel_rfl) (by kernel_rfl) (by kernel_rfl) (fun _ _ _ h => absurd h.1 (by simp)) (Or.inl ⟨by rfl, ?_⟩) (by assumption) ?_
        rotate_left
        · (intro w hSw; (try dsimp only at hSw); go_simp; try with_reducible rfl)
        simp only [Act.put, List.getElem_toArray, List.getElem_cons_succ, List.getElem_cons_zero, List.setIfInBounds_toArray, List.set_cons_zero, List.set_cons_succ]
        refine wpAnyH_ready (rs := [6, 7]) (by kernel_rfl) (by simp) ?_
        refine AllReadyH.cons (o := _) rfl (fun K hK => ?_) ?_
        · clear hHeld
          go_simp
          obtain ⟨W12, hWn⟩ : ∃ xw9, W11.alloc (.cells #[.int .i64 0, .float .f64 0, .int .i32 0, .slice none 0 0] 58) = xw9 := ⟨_, rfl⟩
          have hB : Below W11.heap.size W11 W12 := by rw [← hWn]; exact below_new _ _
          have hNB : Blk4 W12 W11.heap.size (.int .i64 0) (.float .f64 0) (.int .i32 0) (.slice none 0 0) := by rw [← hWn]; exact Blk4.new _ _ _ _ _ _
          have hge : wr.heap.size ≤ W11.heap.size := HW0.out.size
          rw [hWn]
          clear hWn
          obtain ⟨pb, hnm⟩ : ∃ x, W11.heap.size = x := ⟨_, rfl⟩
          rw [hnm] at hNB hge ⊢
          replace HW0 := Lib.hid (HW0.out.trans (hB.mono HW0.out.size))
          have HP := Lib.hid hNB
          have HPG := Lib.hid hge
          clear hNB hB hnm hge
          refine hK.out _ _ ?_ (fun hHeld => ?_)
          · exact ⟨keep_below HW0.out _ _ HC.out.1, keep_below HW0.out _ _ HC.out.2.1, keep_below HW0.out _ _ HC.out.2.2.1, keep_below HW0.out _ _ HC.out.2.2.2.1, keep_below HW0.out _ _ HC.out.2.2.2.2.1, keep_below HW0.out _ _ HC.out.2.2.2.2.2.1, keep_below HW0.out _ _ HC.out.2.2.2.2.2.2.1, keep_below HW0.out _ _ HC.out.2.2.2.2.2.2.2⟩
          clear hK K
          refine wpAnyH_ready (rs := [7]) (by kernel_rfl) (by simp) ?_
          refine AllReadyH.cons (o := _) rfl (fun K hK => ?_) ?_
          · clear hHeld
            go_simp
            obtain ⟨W13, hWn⟩ : ∃ xw9, W12.alloc (.cells #[.int .i64 0, .float .f64 0, .int .i32 0, .slice none 0 0] 58) = xw9 := ⟨_, rfl⟩
            have hB : Below W12.heap.size W12 W13 := by rw [← hWn]; exact below_new _ _
            have hNB : Blk4 W13 W12.heap.size (.int .i64 0) (.float .f64 0) (.int .i32 0) (.slice none 0 0) := by rw [← hWn]; exact Blk4.new _ _ _ _ _ _
            have hge : wr.heap.size ≤ W12.heap.size := HW0.out.size
            rw [hWn]
            clear hWn
            obtain ⟨qb, hnm⟩ : ∃ x, W12.heap.size = x := ⟨_, rfl⟩
            rw [hnm] at hNB hge ⊢
            have HNE := Lib.hid (show pb ≠ qb by rw [← hnm]; exact Nat.ne_of_lt HP.out.1)
            replace HW0 := Lib.hid (HW0.out.trans (hB.mono HW0.out.size))
            replace HP := Lib.hid (HP.out.below hB)
            have HQ := Lib.hid hNB
            have HQG := Lib.hid hge
            clear hNB hB hnm hge
            refine hK.out _ _ ?_ (fun hHeld => ?_)
            · exact ⟨keep_below HW0.out _ _ HC.out.1, keep_below HW0.out _ _ HC.out.2.1, keep_below HW0.out _ _ HC.out.2.2.1, keep_below HW0.out _ _ HC.out.2.2.2.1, keep_below HW0.out _ _ HC.out.2.2.2.2.1, keep_below HW0.out _ _ HC.out.2.2.2.2.2.1, keep_below HW0.out _ _ HC.out.2.2.2.2.2.2.1, keep_below HW0.out _ _ HC.out.2.2.2.2.2.2.2⟩
            clear hK K
            refine wpAnyH_ready (rs := [8]) (by kernel_rfl) (by simp) ?_
            refine AllReadyH.cons (o := _) rfl (fun K hK => ?_) ?_
            · clear hHeld
              have s0 := HP.out.2.1
              have s1 := HP.out.2.2.1
              have s2 := HP.out.2.2.2.1
              have s3 := HP.out.2.2.2.2.1
              have z0 := HP.out.2.2.2.2.2 0
              have z1 := HP.out.2.2.2.2.2 1
              have z2 := HP.out.2.2.2.2.2 2
              have z3 := HP.out.2.2.2.2.2 3
              go_simp
              clear s0 s1 s2 s3 z0 z1 z2 z3
              obtain ⟨W14, hWn⟩ : ∃ xw9, ((((W13.setCell ⟨pb, 0, none⟩ (.int .i64 ia.1)).setCell ⟨pb, 1, none⟩ (.float .f64 ia.2.1)).setCell ⟨pb, 2, none⟩ (.int .i32 ia.2.2.1)).setCell ⟨pb, 3, none⟩ (sa)) = xw9 := ⟨_, rfl⟩
              rw [hWn]
              replace HP := Lib.hid (show Blk4 W14 pb (.int .i64 ia.1) (.float .f64 ia.2.1) (.int .i32 ia.2.2.1) (sa) by rw [← hWn]; exact ((((HP.out.set0 _).set1 _).set2 _).set3 _))
              replace HQ := Lib.hid (show Blk4 W14 qb _ _ _ _ by rw [← hWn]; exact ((((HQ.out.other ⟨pb, 0, none⟩ (Ne.symm HNE.out) _).other ⟨pb, 1, none⟩ (Ne.symm HNE.out) _).other ⟨pb, 2, none⟩ (Ne.symm HNE.out) _).other ⟨pb, 3, none⟩ (Ne.symm HNE.out) _))
              replace HW0 := Lib.hid (show Below wr.heap.size wr W14 by rw [← hWn]; exact ((((HW0.out.setCell (p := ⟨pb, 0, none⟩) HPG.out _).setCell (p := ⟨pb, 1, none⟩) HPG.out _).setCell (p := ⟨pb, 2, none⟩) HPG.out _).setCell (p := ⟨pb, 3, none⟩) HPG.out _))
              clear hWn
              refine hK.out _ _ ?_ (fun hHeld => ?_)
              · exact ⟨keep_below HW0.out _ _ HC.out.1, keep_below HW0.out _ _ HC.out.2.1, keep_below HW0.out _ _ HC.out.2.2.1, keep_below HW0.out _ _ HC.out.2.2.2.1, keep_below HW0.out _ _ HC.out.2.2.2.2.1, keep_below HW0.out _ _ HC.out.2.2.2.2.2.1, keep_below HW0.out _ _ HC.out.2.2.2.2.2.2.1, keep_below HW0.out _ _ HC.out.2.2.2.2.2.2.2⟩
              clear hK K
              refine wpAnyH_ready (rs := [9]) (by kernel_rfl) (by simp) ?_
              refine AllReadyH.cons (o := _) rfl (fun K hK => ?_) ?_
              · clear hHeld
                have s0 := HQ.out.2.1
                have s1 := HQ.out.2.2.1
                have s2 := HQ.out.2.2.2.1
                have s3 := HQ.out.2.2.2.2.1
                have z0 := HQ.out.2.2.2.2.2 0
                have z1 := HQ.out.2.2.2.2.2 1
                have z2 := HQ.out.2.2.2.2.2 2
                have z3 := HQ.out.2.2.2.2.2 3
                go_simp
                clear s0 s1 s2 s3 z0 z1 z2 z3
                obtain ⟨W15, hWn⟩ : ∃ xw9, ((((W14.setCell ⟨qb, 0, none⟩ (.int .i64 ib.1)).setCell ⟨qb, 1, none⟩ (.float .f64 ib.2.1)).setCell ⟨qb, 2, none⟩ (.int .i32 ib.2.2.1)).setCell ⟨qb, 3, none⟩ (sb)) = xw9 := ⟨_, rfl⟩
                rw [hWn]
                replace HQ := Lib.hid (show Blk4 W15 qb (.int .i64 ib.1) (.float .f64 ib.2.1) (.int .i32 ib.2.2.1) (sb) by rw [← hWn]; exact ((((HQ.out.set0 _).set1 _).set2 _).set3 _))
                replace HP := Lib.hid (show Blk4 W15 pb _ _ _ _ by rw [← hWn]; exact ((((HP.out.other ⟨qb, 0, none⟩ HNE.out _).other ⟨qb, 1, none⟩ HNE.out _).other ⟨qb, 2, none⟩ HNE.out _).other ⟨qb, 3, none⟩ HNE.out _))
                replace HW0 := Lib.hid (show Below wr.heap.size wr W15 by rw [← hWn]; exact ((((HW0.out.setCell (p := ⟨qb, 0, none⟩) HQG.out _).setCell (p := ⟨qb, 1, none⟩) HQG.out _).setCell (p := ⟨qb, 2, none⟩) HQG.out _).setCell (p := ⟨qb, 3, none⟩) HQG.out _))
                clear hWn
                refine hK.out _ _ ?_ (fun hHeld => ?_)
                · exact ⟨keep_below HW0.out _ _ HC.out.1, keep_below HW0.out _ _ HC.out.2.1, keep_below HW0.out _ _ HC.out.2.2.1, keep_below HW0.out _ _ HC.out.2.2.2.1, keep_below HW0.out _ _ HC.out.2.2.2.2.1, keep_below HW0.out _ _ HC.out.2.2.2.2.2.1, keep_below HW0.out _ _ HC.out.2.2.2.2.2.2.1, keep_below HW0.out _ _ HC.out.2.2.2.2.2.2.2⟩
                clear hK K
                refine wpAnyH_done (by kernel_rfl) ?_ _
                clear hHeld
                refine ⟨rfl, pb, qb, ?_, HP.out, HQ.out, HNE.out, HPG.out, HQG.out, HW0.out⟩
                rfl
              exact AllReadyH.nil
            exact AllReadyH.nil
          exact AllReadyH.nil
        refine AllReadyH.cons (o := _) rfl (fun K hK => ?_) ?_
        · clear hHeld
          go_simp
          obtain ⟨W12, hWn⟩ : ∃ xw9, W11.alloc (.cells #[.int .i64 0, .float .f64 0, .int .i32 0, .slice none 0 0] 58) = xw9 := ⟨_, rfl⟩
          have hB : Below W11.heap.size W11 W12 := by rw [← hWn]; exact below_new _ _
          have hNB : Blk4 W12 W11.heap.size (.int .i64 0) (.float .f64 0) (.int .i32 0) (.slice none 0 0) := by rw [← hWn]; exact Blk4.new _ _ _ _ _ _
          have hge : wr.heap.size ≤ W11.heap.size := HW0.out.size
          rw [hWn]
          clear hWn
          obtain ⟨qb, hnm⟩ : ∃ x, W11.heap.size = x := ⟨_, rfl⟩
          rw [hnm] at hNB hge ⊢
          replace HW0 := Lib.hid (HW0.out.trans (hB.mono HW0.out.size))
          have HQ := Lib.hid hNB
          have HQG := Lib.hid hge
          clear hNB hB hnm hge
          refine hK.out _ _ ?_ (fun hHeld => ?_)
          · exact ⟨keep_below HW0.out _ _ HC.out.1, keep_below HW0.out _ _ HC.out.2.1, keep_below HW0.out _ _ HC.out.2.2.1, keep_below HW0.out _ _ HC.out.2.2.2.1, keep_below HW0.out _ _ HC.out.2.2.2.2.1, keep_below HW0.out _ _ HC.out.2.2.2.2.2.1, keep_below HW0.out _ _ HC.out.2.2.2.2.2.2.1, keep_below HW0.out _ _ HC.out.2.2.2.2.2.2.2⟩
          clear hK K
          refine wpAnyH_ready (rs := [6]) (by kernel_rfl) (by simp) ?_
          refine AllReadyH.cons (o := _) rfl (fun K hK => ?_) ?_
          · clear hHeld
            go_simp
            obtain ⟨W13, hWn⟩ : ∃ xw9, W12.alloc (.cells #[.int .i64 0, .float .f64 0, .int .i32 0, .slice none 0 0] 58) = xw9 := ⟨_, rfl⟩
            have hB : Below W12.heap.size W12 W13 := by rw [← hWn]; exact below_new _ _
            have hNB : Blk4 W13 W12.heap.size (.int .i64 0) (.float .f64 0) (.int .i32 0) (.slice none 0 0) := by rw [← hWn]; exact Blk4.new _ _ _ _ _ _
            have hge : wr.heap.size ≤ W12.heap.size := HW0.out.size
            rw [hWn]
            clear hWn
            obtain ⟨pb, hnm⟩ : ∃ x, W12.heap.size = x := ⟨_, rfl⟩
            rw [hnm] at hNB hge ⊢
            have HNE := Lib.hid (show qb ≠ pb by rw [← hnm]; exact Nat.ne_of_lt HQ.out.1)
            replace HW0 := Lib.hid (HW0.out.trans (hB.mono HW0.out.size))
            replace HQ := Lib.hid (HQ.out.below hB)
            have HP := Lib.hid hNB
            have HPG := Lib.hid hge
            clear hNB hB hnm hge
            refine hK.out _ _ ?_ (fun hHeld => ?_)
            · exact ⟨keep_below HW0.out _ _ HC.out.1, keep_below HW0.out _ _ HC.out.2.1, keep_below HW0.out _ _ HC.out.2.2.1, keep_below HW0.out _ _ HC.out.2.2.2.1, keep_below HW0.out _ _ HC.out.2.2.2.2.1, keep_below HW0.out _ _ HC.out.2.2.2.2.2.1, keep_below HW0.out _ _ HC.out.2.2.2.2.2.2.1, keep_below HW0.out _ _ HC.out.2.2.2.2.2.2.2⟩
            clear hK K
            refine wpAnyH_ready (rs := [8]) (by kernel_rfl) (by simp) ?_
            refine AllReadyH.cons (o := _) rfl (fun K hK => ?_) ?_
            · clear hHeld
              have s0 := HP.out.2.1
              have s1 := HP.out.2.2.1
              have s2 := HP.out.2.2.2.1
              have s3 := HP.out.2.2.2.2.1
              have z0 := HP.out.2.2.2.2.2 0
              have z1 := HP.out.2.2.2.2.2 1
              have z2 := HP.out.2.2.2.2.2 2
              have z3 := HP.out.2.2.2.2.2 3
              go_simp
              clear s0 s1 s2 s3 z0 z1 z2 z3
              obtain ⟨W14, hWn⟩ : ∃ xw9, ((((W13.setCell ⟨pb, 0, none⟩ (.int .i64 ia.1)).setCell ⟨pb, 1, none⟩ (.float .f64 ia.2.1)).setCell ⟨pb, 2, none⟩ (.int .i32 ia.2.2.1)).setCell ⟨pb, 3, none⟩ (sa)) = xw9 := ⟨_, rfl⟩
              rw [hWn]
              replace HP := Lib.hid (show Blk4 W14 pb (.int .i64 ia.1) (.float .f64 ia.2.1) (.int .i32 ia.2.2.1) (sa) by rw [← hWn]; exact ((((HP.out.set0 _).set1 _).set2 _).set3 _))
              replace HQ := Lib.hid (show Blk4 W14 qb _ _ _ _ by rw [← hWn]; exact ((((HQ.out.other ⟨pb, 0, none⟩ HNE.out _).other ⟨pb, 1, none⟩ HNE.out _).other ⟨pb, 2, none⟩ HNE.out _).other ⟨pb, 3, none⟩ HNE.out _))
              replace HW0 := Lib.hid (show Below wr.heap.size wr W14 by rw [← hWn]; exact ((((HW0.out.setCell (p := ⟨pb, 0, none⟩) HPG.out _).setCell (p := ⟨pb, 1, none⟩) HPG.out _).setCell (p := ⟨pb, 2, none⟩) HPG.out _).setCell (p := ⟨pb, 3, none⟩) HPG.out _))
              clear hWn
              refine hK.out _ _ ?_ (fun hHeld => ?_)
              · exact ⟨keep_below HW0.out _ _ HC.out.1, keep_below HW0.out _ _ HC.out.2.1, keep_below HW0.out _ _ HC.out.2.2.1, keep_below HW0.out _ _ HC.out.2.2.2.1, keep_below HW0.out _ _ HC.out.2.2.2.2.1, keep_below HW0.out _ _ HC.out.2.2.2.2.2.1, keep_below HW0.out _ _ HC.out.2.2.2.2.2.2.1, keep_below HW0.out _ _ HC.out.2.2.2.2.2.2.2⟩
              clear hK K
              refine wpAnyH_ready (rs := [9]) (by kernel_rfl) (by simp) ?_
              refine AllReadyH.cons (o := _) rfl (fun K hK => ?_) ?_
              · clear hHeld
                have s0 := HQ.out.2.1
                have s1 := HQ.out.2.2.1
                have s2 := HQ.out.2.2.2.1
                have s3 := HQ.out.2.2.2.2.1
                have z0 := HQ.out.2.2.2.2.2 0
                have z1 := HQ.out.2.2.2.2.2 1
                have z2 := HQ.out.2.2.2.2.2 2
                have z3 := HQ.out.2.2.2.2.2 3
                go_simp
                clear s0 s1 s2 s3 z0 z1 z2 z3
                obtain ⟨W15, hWn⟩ : ∃ xw9, ((((W14.setCell ⟨qb, 0, none⟩ (.int .i64 ib.1)).setCell ⟨qb, 1, none⟩ (.float .f64 ib.2.1)).setCell ⟨qb, 2, none⟩ (.int .i32 ib.2.2.1)).setCell ⟨qb, 3, none⟩ (sb)) = xw9 := ⟨_, rfl⟩
                rw [hWn]
                replace HQ := Lib.hid (show Blk4 W15 qb (.int .i64 ib.1) (.float .f64 ib.2.1) (.int .i32 ib.2.2.1) (sb) by rw [← hWn]; exact ((((HQ.out.set0 _).set1 _).set2 _).set3 _))
                replace HP := Lib.hid (show Blk4 W15 pb _ _ _ _ by rw [← hWn]; exact ((((HP.out.other ⟨qb, 0, none⟩ (Ne.symm HNE.out) _).other ⟨qb, 1, none⟩ (Ne.symm HNE.out) _).other ⟨qb, 2, none⟩ (Ne.symm HNE.out) _).other ⟨qb, 3, none⟩ (Ne.symm HNE.out) _))
                replace HW0 := Lib.hid (show Below wr.heap.size wr W15 by rw [← hWn]; exact ((((HW0.out.setCell (p := ⟨qb, 0, none⟩) HQG.out _).setCell (p := ⟨qb, 1, none⟩) HQG.out _).setCell (p := ⟨qb, 2, none⟩) HQG.out _).setCell (p := ⟨qb, 3, none⟩) HQG.out _))
                clear hWn
                refine hK.out _ _ ?_ (fun hHeld => ?_)
                · exact ⟨keep_below HW0.out _ _ HC.out.1, keep_below HW0.out _ _ HC.out.2.1, keep_below HW0.out _ _ HC.out.2.2.1, keep_below HW0.out _ _ HC.out.2.2.2.1, keep_below HW0.out _ _ HC.out.2.2.2.2.1, keep_below HW0.out _ _ HC.out.2.2.2.2.2.1, keep_below HW0.out _ _ HC.out.2.2.2.2.2.2.1, keep_below HW0.out _ _ HC.out.2.2.2.2.2.2.2⟩
                clear hK K
                refine wpAnyH_done (by kernel_rfl) ?_ _
                clear hHeld
                refine ⟨rfl, pb, qb, ?_, HP.out, HQ.out, (Ne.symm HNE.out), HPG.out, HQG.out, HW0.out⟩
                rfl
              exact AllReadyH.nil
            exact AllReadyH.nil
          exact AllReadyH.nil
        exact AllReadyH.nil
      rintro _ W2 ⟨pb, qb, rfl, hp, hq, hne, hpg, hqg, hB⟩
      have HP := Lib.hid hp
      have HQ := Lib.hid hq
      have HNE := Lib.hid hne
      have HPG := Lib.hid hpg
      have HQG := Lib.hid hqg
      have HB2 := Lib.hid hB
      have HVA2 := Lib.hid (HVA.out.grow hB)
      have HVB2 := Lib.hid (HVB.out.grow hB)
      simp only [Act.put, List.setIfInBounds_toArray, List.set_cons_zero, List.set_cons_succ]
      clear hp hq hne hpg hqg hB HC
      by_cases ha1 : la.length = 1
      · by_cases hb1 : lb.length = 1
        · have h1a : ¬ 1 < la.length := by omega
          have HPKa := Lib.hid (show pk dI la k = ia by unfold pk; rw [if_pos ha1, List.getD_eq_getElem?_getD, List.getElem?_eq_getElem HL0.out.1, HIA.out]; rfl)
          have HFNa := Lib.hid (show Fnt ia.2.1 by rw [← HIA.out]; exact HFA.out _ (List.getElem_mem _))
          clear ha1
          have h1b : ¬ 1 < lb.length := by omega
          have HPKb := Lib.hid (show pk dI lb k = ib by unfold pk; rw [if_pos hb1, List.getD_eq_getElem?_getD, List.getElem?_eq_getElem HL0.out.2, HIB.out]; rfl)
          have HFNb := Lib.hid (show Fnt ib.2.1 by rw [← HIB.out]; exact HFB.out _ (List.getElem_mem _))
          clear hb1
          have p1 := HP.out.2.2.1
          have p2 := HP.out.2.2.2.1
          have q1 := HQ.out.2.2.1
          have q2 := HQ.out.2.2.2.1
          have HO9 := Lib.hid (owns_below HO.out HB2.out)
          have HB9 := Lib.hid (HB.out.trans (HB2.out.mono HB.out.size))
          have HSW := Lib.hid HB9.out.size
          rw [HPKa.out, HPKb.out] at HTK
          go_wp2_with fail
          refine (rrone_calls 16 ia.2.1 ib.2.1 _ HFNa.out HFNb.out).mono ?_
          rintro e w' ⟨rfl, rfl⟩
          have HRV := Lib.hid (show rrV 16 1 0 ia ib = true by unfold rrV; rw [if_neg (by decide)]; rfl)
          rw [HRV.out] at HTK
          have HM1 : Hid (k + 1 ≤ maxLen) := Lib.hid (by have := HLT.out; unfold maxLen; omega)
          go_wp2_with (at_builtin; refine wpList_append_own _ rfl _ _ 37 rfl w.heap.size 4 i0 (.bool false) 1 1 Tryz.underlying37 HI0.out.1 HI0.out.2.1 HI0.out.2.2.1 HI0.out.2.2.2 rfl (by decide) _ _ _ rfl (HO9.out.alloc _) ⟨W2.heap.size, 0, none⟩ 1 1 [.bool true] rfl rfl ?c1 ?c2 HM1.out ?c4 ?c5 ?_)
          case c1 =>
            intro j u hj
            match j, hj with
            | 0, hj => simp at hj; subst hj; simp [Addr.add]
          case c2 => intro u hu; simp at hu; subst hu; rfl
          case c4 => omega
          case c5 => have := HSW.out; simp <;> omega
          intro v' w3 hown' hgrow _
          have HO3 := Lib.hid hown'
          have HB3 := Lib.hid (grown_below (HB9.out.alloc HSW.out _) (HO9.out.alloc _) (Nat.le_refl _) (by have := HSW.out; simp <;> omega) hgrow)
          have hlt := HLT.out
          clear hown' hgrow
          go_wp2
          go_roundw
          case rel =>
            refine ⟨k + 1, by omega, by go_num, ?_, HB3.out⟩
            have := HO3.out
            rw [HTK.out]
            simpa [bools] using this
          case measure => simp [intOf]; omega
        · have h1a : ¬ 1 < la.length := by omega
          have HPKa := Lib.hid (show pk dI la k = ia by unfold pk; rw [if_pos ha1, List.getD_eq_getElem?_getD, List.getElem?_eq_getElem HL0.out.1, HIA.out]; rfl)
          have HFNa := Lib.hid (show Fnt ia.2.1 by rw [← HIA.out]; exact HFA.out _ (List.getElem_mem _))
          clear ha1
          have h1b : 1 < lb.length := by have := HL0.out; omega
          have hkb : k < lb.length := by have := HI.out; omega
          obtain ⟨bb, ob, bob, bcb, hbe, _, cb0, cb1, cb2, cb3, _⟩ := HVB2.out.at (List.getElem?_eq_getElem hkb)
          cases hbe
          obtain ⟨xb, hxb⟩ : ∃ x, lb[k]'hkb = x := ⟨_, rfl⟩
          have HPKb := Lib.hid (show pk dI lb k = xb by unfold pk; rw [if_neg hb1, List.getD_eq_getElem?_getD, List.getElem?_eq_getElem hkb, hxb]; rfl)
          have HFNb := Lib.hid (show Fnt xb.2.1 by rw [← hxb]; exact HFB.out _ (List.getElem_mem _))
          rw [hxb] at cb0 cb1 cb2 cb3
          obtain ⟨sb2, hsb2⟩ : ∃ s, Value.slice bob xb.2.2.2.length bcb = s := ⟨_, rfl⟩
          have hnb2 : (∀ (w : World) (a : Addr) (m : Mode), (store a sb2 m).run Tryz.prog w = stored Tryz.prog w a sb2 m) := by subst hsb2; exact fun w a m => run_store Tryz.prog w a _ m rfl
          rw [hsb2] at cb3
          clear hxb hsb2 hb1
          have tb0 := HQ.out.2.1
          have tb1 := HQ.out.2.2.1
          have tb2 := HQ.out.2.2.2.1
          have tb3 := HQ.out.2.2.2.2.1
          have zb0 := HQ.out.2.2.2.2.2 0
          have zb1 := HQ.out.2.2.2.2.2 1
          have zb2 := HQ.out.2.2.2.2.2 2
          have zb3 := HQ.out.2.2.2.2.2 3
          obtain ⟨W4, hWW4⟩ : ∃ xw9, ((((W2.setCell ⟨qb, 0, none⟩ (.int .i64 xb.1)).setCell ⟨qb, 1, none⟩ (.float .f64 xb.2.1)).setCell ⟨qb, 2, none⟩ (.int .i32 xb.2.2.1)).setCell ⟨qb, 3, none⟩ (sb2)) = xw9 := ⟨_, rfl⟩
          replace HQ := Lib.hid (show Blk4 W4 qb (.int .i64 xb.1) (.float .f64 xb.2.1) (.int .i32 xb.2.2.1) (sb2) by rw [← hWW4]; exact ((((HQ.out.set0 _).set1 _).set2 _).set3 _))
          replace HP := Lib.hid (show Blk4 W4 pb _ _ _ _ by rw [← hWW4]; exact ((((HP.out.other ⟨qb, 0, none⟩ HNE.out _).other ⟨qb, 1, none⟩ HNE.out _).other ⟨qb, 2, none⟩ HNE.out _).other ⟨qb, 3, none⟩ HNE.out _))
          replace HB2 := Lib.hid (show Below wr.heap.size wr W4 by rw [← hWW4]; exact ((((HB2.out.setCell (p := ⟨qb, 0, none⟩) HQG.out _).setCell (p := ⟨qb, 1, none⟩) HQG.out _).setCell (p := ⟨qb, 2, none⟩) HQG.out _).setCell (p := ⟨qb, 3, none⟩) HQG.out _))
          replace HVA2 := Lib.hid (HVA.out.grow HB2.out)
          replace HVB2 := Lib.hid (HVB.out.grow HB2.out)
          have p1 := HP.out.2.2.1
          have p2 := HP.out.2.2.2.1
          have q1 := HQ.out.2.2.1
          have q2 := HQ.out.2.2.2.1
          have HO9 := Lib.hid (owns_below HO.out HB2.out)
          have HB9 := Lib.hid (HB.out.trans (HB2.out.mono HB.out.size))
          have HSW := Lib.hid HB9.out.size
          rw [HPKa.out, HPKb.out] at HTK
          go_wp2_with fail
          refine (rrone_calls 16 ia.2.1 xb.2.1 _ HFNa.out HFNb.out).mono ?_
          rintro e w' ⟨rfl, rfl⟩
          have HRV := Lib.hid (show rrV 16 1 0 ia xb = true by unfold rrV; rw [if_neg (by decide)]; rfl)
          rw [HRV.out] at HTK
          have HM1 : Hid (k + 1 ≤ maxLen) := Lib.hid (by have := HLT.out; unfold maxLen; omega)
          go_wp2_with (at_builtin; refine wpList_append_own _ rfl _ _ 37 rfl w.heap.size 4 i0 (.bool false) 1 1 Tryz.underlying37 HI0.out.1 HI0.out.2.1 HI0.out.2.2.1 HI0.out.2.2.2 rfl (by decide) _ _ _ rfl (HO9.out.alloc _) ⟨W4.heap.size, 0, none⟩ 1 1 [.bool true] rfl rfl ?c1 ?c2 HM1.out ?c4 ?c5 ?_)
          case c1 =>
            intro j u hj
            match j, hj with
            | 0, hj => simp at hj; subst hj; simp [Addr.add]
          case c2 => intro u hu; simp at hu; subst hu; rfl
          case c4 => omega
          case c5 => have := HSW.out; simp <;> omega
          intro v' w3 hown' hgrow _
          have HO3 := Lib.hid hown'
          have HB3 := Lib.hid (grown_below (HB9.out.alloc HSW.out _) (HO9.out.alloc _) (Nat.le_refl _) (by have := HSW.out; simp <;> omega) hgrow)
          have hlt := HLT.out
          clear hown' hgrow
          go_wp2
          go_roundw
          case rel =>
            refine ⟨k + 1, by omega, by go_num, ?_, HB3.out⟩
            have := HO3.out
            rw [HTK.out]
            simpa [bools] using this
          case measure => simp [intOf]; omega
      · by_cases hb1 : lb.length = 1
        · have h1a : 1 < la.length := by have := HL0.out; omega
          have hka : k < la.length := by have := HI.out; omega
          obtain ⟨ba, oa, boa, bca, hbe, _, ca0, ca1, ca2, ca3, _⟩ := HVA2.out.at (List.getElem?_eq_getElem hka)
          cases hbe
          obtain ⟨xa, hxa⟩ : ∃ x, la[k]'hka = x := ⟨_, rfl⟩
          have HPKa := Lib.hid (show pk dI la k = xa by unfold pk; rw [if_neg ha1, List.getD_eq_getElem?_getD, List.getElem?_eq_getElem hka, hxa]; rfl)
          have HFNa := Lib.hid (show Fnt xa.2.1 by rw [← hxa]; exact HFA.out _ (List.getElem_mem _))
          rw [hxa] at ca0 ca1 ca2 ca3
          obtain ⟨sa2, hsa2⟩ : ∃ s, Value.slice boa xa.2.2.2.length bca = s := ⟨_, rfl⟩
          have hna2 : (∀ (w : World) (a : Addr) (m : Mode), (store a sa2 m).run Tryz.prog w = stored Tryz.prog w a sa2 m) := by subst hsa2; exact fun w a m => run_store Tryz.prog w a _ m rfl
          rw [hsa2] at ca3
          clear hxa hsa2 ha1
          have ta0 := HP.out.2.1
          have ta1 := HP.out.2.2.1
          have ta2 := HP.out.2.2.2.1
          have ta3 := HP.out.2.2.2.2.1
          have za0 := HP.out.2.2.2.2.2 0
          have za1 := HP.out.2.2.2.2.2 1
          have za2 := HP.out.2.2.2.2.2 2
          have za3 := HP.out.2.2.2.2.2 3
          obtain ⟨W3, hWW3⟩ : ∃ xw9, ((((W2.setCell ⟨pb, 0, none⟩ (.int .i64 xa.1)).setCell ⟨pb, 1, none⟩ (.float .f64 xa.2.1)).setCell ⟨pb, 2, none⟩ (.int .i32 xa.2.2.1)).setCell ⟨pb, 3, none⟩ (sa2)) = xw9 := ⟨_, rfl⟩
          replace HP := Lib.hid (show Blk4 W3 pb (.int .i64 xa.1) (.float .f64 xa.2.1) (.int .i32 xa.2.2.1) (sa2) by rw [← hWW3]; exact ((((HP.out.set0 _).set1 _).set2 _).set3 _))
          replace HQ := Lib.hid (show Blk4 W3 qb _ _ _ _ by rw [← hWW3]; exact ((((HQ.out.other ⟨pb, 0, none⟩ (Ne.symm HNE.out) _).other ⟨pb, 1, none⟩ (Ne.symm HNE.out) _).other ⟨pb, 2, none⟩ (Ne.symm HNE.out) _).other ⟨pb, 3, none⟩ (Ne.symm HNE.out) _))
          replace HB2 := Lib.hid (show Below wr.heap.size wr W3 by rw [← hWW3]; exact ((((HB2.out.setCell (p := ⟨pb, 0, none⟩) HPG.out _).setCell (p := ⟨pb, 1, none⟩) HPG.out _).setCell (p := ⟨pb, 2, none⟩) HPG.out _).setCell (p := ⟨pb, 3, none⟩) HPG.out _))
          replace HVA2 := Lib.hid (HVA.out.grow HB2.out)
          replace HVB2 := Lib.hid (HVB.out.grow HB2.out)
          have h1b : ¬ 1 < lb.length := by omega
          have HPKb := Lib.hid (show pk dI lb k = ib by unfold pk; rw [if_pos hb1, List.getD_eq_getElem?_getD, List.getElem?_eq_getElem HL0.out.2, HIB.out]; rfl)
          have HFNb := Lib.hid (show Fnt ib.2.1 by rw [← HIB.out]; exact HFB.out _ (List.getElem_mem _))
          clear hb1
          have p1 := HP.out.2.2.1
          have p2 := HP.out.2.2.2.1
          have q1 := HQ.out.2.2.1
          have q2 := HQ.out.2.2.2.1
          have HO9 := Lib.hid (owns_below HO.out HB2.out)
          have HB9 := Lib.hid (HB.out.trans (HB2.out.mono HB.out.size))
          have HSW := Lib.hid HB9.out.size
          rw [HPKa.out, HPKb.out] at HTK
          go_wp2_with fail
          refine (rrone_calls 16 xa.2.1 ib.2.1 _ HFNa.out HFNb.out).mono ?_
          rintro e w' ⟨rfl, rfl⟩
          have HRV := Lib.hid (show rrV 16 1 0 xa ib = true by unfold rrV; rw [if_neg (by decide)]; rfl)
          rw [HRV.out] at HTK
          have HM1 : Hid (k + 1 ≤ maxLen) := Lib.hid (by have := HLT.out; unfold maxLen; omega)
          go_wp2_with (at_builtin; refine wpList_append_own _ rfl _ _ 37 rfl w.heap.size 4 i0 (.bool false) 1 1 Tryz.underlying37 HI0.out.1 HI0.out.2.1 HI0.out.2.2.1 HI0.out.2.2.2 rfl (by decide) _ _ _ rfl (HO9.out.alloc _) ⟨W3.heap.size, 0, none⟩ 1 1 [.bool true] rfl rfl ?c1 ?c2 HM1.out ?c4 ?c5 ?_)
          case c1 =>
            intro j u hj
            match j, hj with
            | 0, hj => simp at hj; subst hj; simp [Addr.add]
          case c2 => intro u hu; simp at hu; subst hu; rfl
          case c4 => omega
          case c5 => have := HSW.out; simp <;> omega
          intro v' w3 hown' hgrow _
          have HO3 := Lib.hid hown'
          have HB3 := Lib.hid (grown_below (HB9.out.alloc HSW.out _) (HO9.out.alloc _) (Nat.le_refl _) (by have := HSW.out; simp <;> omega) hgrow)
          have hlt := HLT.out
          clear hown' hgrow
          go_wp2
          go_roundw
          case rel =>
            refine ⟨k + 1, by omega, by go_num, ?_, HB3.out⟩
            have := HO3.out
            rw [HTK.out]
            simpa [bools] using this
          case measure => simp [intOf]; omega
        · have h1a : 1 < la.length := by have := HL0.out; omega
          have hka : k < la.length := by have := HI.out; omega
          obtain ⟨ba, oa, boa, bca, hbe, _, ca0, ca1, ca2, ca3, _⟩ := HVA2.out.at (List.getElem?_eq_getElem hka)
          cases hbe
          obtain ⟨xa, hxa⟩ : ∃ x, la[k]'hka = x := ⟨_, rfl⟩
          have HPKa := Lib.hid (show pk dI la k = xa by unfold pk; rw [if_neg ha1, List.getD_eq_getElem?_getD, List.getElem?_eq_getElem hka, hxa]; rfl)
          have HFNa := Lib.hid (show Fnt xa.2.1 by rw [← hxa]; exact HFA.out _ (List.getElem_mem _))
          rw [hxa] at ca0 ca1 ca2 ca3
          obtain ⟨sa2, hsa2⟩ : ∃ s, Value.slice boa xa.2.2.2.length bca = s := ⟨_, rfl⟩
          have hna2 : (∀ (w : World) (a : Addr) (m : Mode), (store a sa2 m).run Tryz.prog w = stored Tryz.prog w a sa2 m) := by subst hsa2; exact fun w a m => run_store Tryz.prog w a _ m rfl
          rw [hsa2] at ca3
          clear hxa hsa2 ha1
          have ta0 := HP.out.2.1
          have ta1 := HP.out.2.2.1
          have ta2 := HP.out.2.2.2.1
          have ta3 := HP.out.2.2.2.2.1
          have za0 := HP.out.2.2.2.2.2 0
          have za1 := HP.out.2.2.2.2.2 1
          have za2 := HP.out.2.2.2.2.2 2
          have za3 := HP.out.2.2.2.2.2 3
          obtain ⟨W3, hWW3⟩ : ∃ xw9, ((((W2.setCell ⟨pb, 0, none⟩ (.int .i64 xa.1)).setCell ⟨pb, 1, none⟩ (.float .f64 xa.2.1)).setCell ⟨pb, 2, none⟩ (.int .i32 xa.2.2.1)).setCell ⟨pb, 3, none⟩ (sa2)) = xw9 := ⟨_, rfl⟩
          replace HP := Lib.hid (show Blk4 W3 pb (.int .i64 xa.1) (.float .f64 xa.2.1) (.int .i32 xa.2.2.1) (sa2) by rw [← hWW3]; exact ((((HP.out.set0 _).set1 _).set2 _).set3 _))
          replace HQ := Lib.hid (show Blk4 W3 qb _ _ _ _ by rw [← hWW3]; exact ((((HQ.out.other ⟨pb, 0, none⟩ (Ne.symm HNE.out) _).other ⟨pb, 1, none⟩ (Ne.symm HNE.out) _).other ⟨pb, 2, none⟩ (Ne.symm HNE.out) _).other ⟨pb, 3, none⟩ (Ne.symm HNE.out) _))
          replace HB2 := Lib.hid (show Below wr.heap.size wr W3 by rw [← hWW3]; exact ((((HB2.out.setCell (p := ⟨pb, 0, none⟩) HPG.out _).setCell (p := ⟨pb, 1, none⟩) HPG.out _).setCell (p := ⟨pb, 2, none⟩) HPG.out _).setCell (p := ⟨pb, 3, none⟩) HPG.out _))
          replace HVA2 := Lib.hid (HVA.out.grow HB2.out)
          replace HVB2 := Lib.hid (HVB.out.grow HB2.out)
          have h1b : 1 < lb.length := by have := HL0.out; omega
          have hkb : k < lb.length := by have := HI.out; omega
          obtain ⟨bb, ob, bob, bcb, hbe, _, cb0, cb1, cb2, cb3, _⟩ := HVB2.out.at (List.getElem?_eq_getElem hkb)
          cases hbe
          obtain ⟨xb, hxb⟩ : ∃ x, lb[k]'hkb = x := ⟨_, rfl⟩
          have HPKb := Lib.hid (show pk dI lb k = xb by unfold pk; rw [if_neg hb1, List.getD_eq_getElem?_getD, List.getElem?_eq_getElem hkb, hxb]; rfl)
          have HFNb := Lib.hid (show Fnt xb.2.1 by rw [← hxb]; exact HFB.out _ (List.getElem_mem _))
          rw [hxb] at cb0 cb1 cb2 cb3
          obtain ⟨sb2, hsb2⟩ : ∃ s, Value.slice bob xb.2.2.2.length bcb = s := ⟨_, rfl⟩
          have hnb2 : (∀ (w : World) (a : Addr) (m : Mode), (store a sb2 m).run Tryz.prog w = stored Tryz.prog w a sb2 m) := by subst hsb2; exact fun w a m => run_store Tryz.prog w a _ m rfl
          rw [hsb2] at cb3
          clear hxb hsb2 hb1
          have tb0 := HQ.out.2.1
          have tb1 := HQ.out.2.2.1
          have tb2 := HQ.out.2.2.2.1
          have tb3 := HQ.out.2.2.2.2.1
          have zb0 := HQ.out.2.2.2.2.2 0
          have zb1 := HQ.out.2.2.2.2.2 1
          have zb2 := HQ.out.2.2.2.2.2 2
          have zb3 := HQ.out.2.2.2.2.2 3
          obtain ⟨W4, hWW4⟩ : ∃ xw9, ((((W3.setCell ⟨qb, 0, none⟩ (.int .i64 xb.1)).setCell ⟨qb, 1, none⟩ (.float .f64 xb.2.1)).setCell ⟨qb, 2, none⟩ (.int .i32 xb.2.2.1)).setCell ⟨qb, 3, none⟩ (sb2)) = xw9 := ⟨_, rfl⟩
          replace HQ := Lib.hid (show Blk4 W4 qb (.int .i64 xb.1) (.float .f64 xb.2.1) (.int .i32 xb.2.2.1) (sb2) by rw [← hWW4]; exact ((((HQ.out.set0 _).set1 _).set2 _).set3 _))
          replace HP := Lib.hid (show Blk4 W4 pb _ _ _ _ by rw [← hWW4]; exact ((((HP.out.other ⟨qb, 0, none⟩ HNE.out _).other ⟨qb, 1, none⟩ HNE.out _).other ⟨qb, 2, none⟩ HNE.out _).other ⟨qb, 3, none⟩ HNE.out _))
          replace HB2 := Lib.hid (show Below wr.heap.size wr W4 by rw [← hWW4]; exact ((((HB2.out.setCell (p := ⟨qb, 0, none⟩) HQG.out _).setCell (p := ⟨qb, 1, none⟩) HQG.out _).setCell (p := ⟨qb, 2, none⟩) HQG.out _).setCell (p := ⟨qb, 3, none⟩) HQG.out _))
          replace HVA2 := Lib.hid (HVA.out.grow HB2.out)
          replace HVB2 := Lib.hid (HVB.out.grow HB2.out)
          have p1 := HP.out.2.2.1
          have p2 := HP.out.2.2.2.1
          have q1 := HQ.out.2.2.1
          have q2 := HQ.out.2.2.2.1
          have HO9 := Lib.hid (owns_below HO.out HB2.out)
          have HB9 := Lib.hid (HB.out.trans (HB2.out.mono HB.out.size))
          have HSW := Lib.hid HB9.out.size
          rw [HPKa.out, HPKb.out] at HTK
          go_wp2_with fail
          refine (rrone_calls 16 xa.2.1 xb.2.1 _ HFNa.out HFNb.out).mono ?_
          rintro e w' ⟨rfl, rfl⟩
          have HRV := Lib.hid (show rrV 16 1 0 xa xb = true by unfold rrV; rw [if_neg (by decide)]; rfl)
          rw [HRV.out] at HTK
          have HM1 : Hid (k + 1 ≤ maxLen) := Lib.hid (by have := HLT.out; unfold maxLen; omega)
          go_wp2_with (at_builtin; refine wpList_append_own _ rfl _ _ 37 rfl w.heap.size 4 i0 (.bool false) 1 1 Tryz.underlying37 HI0.out.1 HI0.out.2.1 HI0.out.2.2.1 HI0.out.2.2.2 rfl (by decide) _ _ _ rfl (HO9.out.alloc _) ⟨W4.heap.size, 0, none⟩ 1 1 [.bool true] rfl rfl ?c1 ?c2 HM1.out ?c4 ?c5 ?_)
          case c1 =>
            intro j u hj
            match j, hj with
            | 0, hj => simp at hj; subst hj; simp [Addr.add]
          case c2 => intro u hu; simp at hu; subst hu; rfl
          case c4 => omega
          case c5 => have := HSW.out; simp <;> omega
          intro v' w3 hown' hgrow _
          have HO3 := Lib.hid hown'
          have HB3 := Lib.hid (grown_below (HB9.out.alloc HSW.out _) (HO9.out.alloc _) (Nat.le_refl _) (by have := HSW.out; simp <;> omega) hgrow)
          have hlt := HLT.out
          clear hown' hgrow
          go_wp2
          go_roundw
          case rel =>
            refine ⟨k + 1, by omega, by go_num, ?_, HB3.out⟩
            have := HO3.out
            rw [HTK.out]
            simpa [bools] using this
          case measure => simp [intOf]; omega
    · have hkn : k = n := by omega
      have HTA := Lib.hid (show bools (R.take k) = bools R by rw [hkn, List.take_of_length_le (Nat.le_of_eq HRL.out)])
      have HKN := Lib.hid hkn
      clear hkn
      go_wp2
      go_ret2
      refine ⟨_, rfl, ?_, HB.out⟩
      have := Slc.owned HO.out
      rw [HTA.out, HKN.out] at this
      rw [HRL.out]
      exact this
set_option maxHeartbeats 8000000 in
theorem rr1611_calls {okA okB : Nat → Prop} (va vb : Value) (la lb : List PI) (w : World) (hva : Its w okA va la) (hvb : Its w okB vb lb) (hla : la.length ≤ 1048576) (hlb : lb.length ≤ 1048576) (fa : ∀ p ∈ la, Fnt p.2.1) (fb : ∀ p ∈ lb, Fnt p.2.1) (hg : goesA la.length lb.length) :
    Calls Tryz.prog 9 #[.int .i64 16, va, .int .i64 1, vb, .int .i64 1] w (Told (rrL 16 1 1 la lb) w) := by
  obtain ⟨n, hn⟩ : ∃ n, lenN la.length lb.length = n := ⟨_, rfl⟩
  obtain ⟨R, hR⟩ : ∃ R, rrL 16 1 1 la lb = R := ⟨_, rfl⟩
  have HRL := Lib.hid (show R.length = n by rw [← hR, ← hn]; exact rrL_len _ _ _ _ _)
  have HRT := Lib.hid (show ∀ k, k < n → R.take (k + 1) = R.take k ++ [rrV 16 1 1 (pk dI la k) (pk dI lb k)] by rw [← hR]; intro k hk; exact rrL_take (by rw [hn]; exact hk))
  have HIN := Lib.hid (show ∀ i, i < n → (la.length = 1 ∨ i < la.length) ∧ (lb.length = 1 ∨ i < lb.length) by
    intro i hi
    rw [← hn] at hi
    exact lenN_in hg hi)
  rw [hR]
  have HNL := Lib.hid (show n ≤ 1048576 by rw [← hn]; exact lenN_le hla hlb)
  have HN := Lib.hid hn
  have HG := Lib.hid hg
  have HFA := Lib.hid fa
  have HFB := Lib.hid fb
  have HLL := Lib.hid (And.intro hla hlb)
  have HVA := Lib.hid hva
  have HVB := Lib.hid hvb
  obtain ⟨ao, cap, rfl, _, _⟩ := hva.len
  obtain ⟨bo, cbp, rfl, _, _⟩ := hvb.len
  have hst := run_store_float
  clear hn hR hva hvb hla hlb fa fb hg
  obtain ⟨i0, hi, hz0, hz1, hz2⟩ := info_parts info_bool1
  have HI0 := Lib.hid (And.intro hi (And.intro hz0 (And.intro hz1 hz2)))
  clear hi hz0 hz1 hz2
  go_enter Tryz.func9, Tryz.ntmps9
  go_wp2_with (refine (ralen_yes _ _ _ HG.out).mono ?_; rintro e w' ⟨rfl, rfl⟩; rw [HN.out])
  go_loopw [13, 14] (fun v i wr => ∃ k : Nat, k ≤ n ∧ i = .int .i64 k ∧ wr.ownsRow w.heap.size 4 1 v k (bools (R.take k)) ∧ Below w.heap.size w wr) (fun _ i _ => n - (intOf i).toNat)
  case atStart => exact ⟨0, by omega, rfl, World.ownsRow_nil _ _ _ _, Below.refl _ _⟩
  case round =>
    obtain ⟨k, hk, rfl, hown, hB⟩ := hrel
    have HO := Lib.hid hown
    have HB := Lib.hid hB
    clear hown hB
    have hnm := HNL.out
    by_cases hlt : k < n
    · have HI := Lib.hid (HIN.out k hlt)
      have HL0 := Lib.hid (show 0 < la.length ∧ 0 < lb.length by have := HI.out; omega)
      have hl1 := HL0.out.1
      have hl2 := HL0.out.2
      have HVA := Lib.hid (HVA.out.grow HB.out)
      have HVB := Lib.hid (HVB.out.grow HB.out)
      have HTK := Lib.hid (HRT.out k hlt)
      have HLT := Lib.hid hlt
      obtain ⟨b0, o0, bo0, bc0, rfl, _, c0, c1, c2, c3, _⟩ := HVA.out.at (List.getElem?_eq_getElem HL0.out.1)
      obtain ⟨d0, p0, do0, dc0, rfl, _, e0, e1, e2, e3, _⟩ := HVB.out.at (List.getElem?_eq_getElem HL0.out.2)
      simp only [Nat.zero_mul, Nat.add_zero] at c0 c1 c2 c3 e0 e1 e2 e3
      obtain ⟨ia, hia⟩ : ∃ ia, la[0]'HL0.out.1 = ia := ⟨_, rfl⟩
      obtain ⟨ib, hib⟩ : ∃ ib, lb[0]'HL0.out.2 = ib := ⟨_, rfl⟩
      have HIA := Lib.hid hia
      have HIB := Lib.hid hib
      rw [hia] at c0 c1 c2 c3
      rw [hib] at e0 e1 e2 e3
      obtain ⟨sa, hsa⟩ : ∃ sa, Value.slice bo0 ia.2.2.2.length bc0 = sa := ⟨_, rfl⟩
      obtain ⟨sb, hsb⟩ : ∃ sb, Value.slice do0 ib.2.2.2.length dc0 = sb := ⟨_, rfl⟩
      have hna : (∀ (w : World) (a : Addr) (m : Mode), (store a sa m).run Tryz.prog w = stored Tryz.prog w a sa m) := by subst hsa; exact fun w a m => run_store Tryz.prog w a _ m rfl
      have hnb : (∀ (w : World) (a : Addr) (m : Mode), (store a sb m).run Tryz.prog w = stored Tryz.prog w a sb m) := by subst hsb; exact fun w a m => run_store Tryz.prog w a _ m rfl
      rw [hsa] at c3
      rw [hsb] at e3
      clear hia hib hsa hsb hlt
      have HC := Lib.hid (And.intro c0 (And.intro c1 (And.intro c2 (And.intro c3 (And.intro e0 (And.intro e1 (And.intro e2 e3)))))))
      go_wp2_with fail
      rw [show decide (k < n) = true from decide_eq_true HLT.out]
      clear c0 c1 c2 c3 e0 e1 e2 e3
      refine wp_mid (fun a a' w' => ∃ pb qb : Nat, a' = ((((((((a.put (some 59) (.slice (some ⟨b0, o0, none⟩) la.length cap)).put (some 60) (.pointer (some ⟨b0, o0, none⟩))).put (some 61) (.agg #[.int .i64 ia.1, .float .f64 ia.2.1, .int .i32 ia.2.2.1, sa])).put (some 62) (.slice (some ⟨d0, p0, none⟩) lb.length cbp)).put (some 63) (.pointer (some ⟨d0, p0, none⟩))).put (some 64) (.agg #[.int .i64 ib.1, .float .f64 ib.2.1, .int .i32 ib.2.2.1, sb])).put (some 15) (.pointer (some ⟨pb, 0, none⟩))).put (some 16) (.pointer (some ⟨qb, 0, none⟩))) ∧ Blk4 w' pb (.int .i64 ia.1) (.float .f64 ia.2.1) (.int .i32 ia.2.2.1) sa ∧ Blk4 w' qb (.int .i64 ib.1) (.float .f64 ib.2.1) (.int .i32 ib.2.2.1) sb ∧ pb ≠ qb ∧ wr.heap.size ≤ pb ∧ wr.heap.size ≤ qb ∧ Below wr.heap.size wr w') ?_ ?_
      · have HW0 := Lib.hid (Below.refl wr.heap.size wr)
        obtain ⟨W11, hWD⟩ : ∃ xw9, wr.drew = xw9 := ⟨_, rfl⟩
        have hB : Below wr.heap.size wr W11 := by rw [← hWD]; exact Below.drewN' (Below.refl _ _) 1
        replace HW0 := Lib.hid (HW0.out.trans (hB.mono HW0.out.size))
        clear hB
        refine wp_region_held_drew (S := fun w' => w'.cell? ⟨b0, o0, none⟩ = some (.int .i64 ia.1) ∧ w'.cell? ⟨b0, o0 + 1, none⟩ = some (.float .f64 ia.2.1) ∧ w'.cell? ⟨b0, o0 + 2, none⟩ = some (.int .i32 ia.2.2.1) ∧ w'.cell? ⟨b0, o0 + 3, none⟩ = some (sa) ∧ w'.cell? ⟨d0, p0, none⟩ = some (.int .i64 ib.1) ∧ w'.cell? ⟨d0, p0 + 1, none⟩ = some (.float .f64 ib.2.1) ∧ w'.cell? ⟨d0, p0 + 2, none⟩ = some (.int .i32 ib.2.2.1) ∧ w'.cell? ⟨d0, p0 + 3, none⟩ = some (sb)) (by kernel_rfl) (by rw [hWD]; exact ⟨keep_below HW0.out _ _ HC.out.1, keep_below HW0.out _ _ HC.out.2.1, keep_below HW0.out _ _ HC.out.2.2.1, keep_below HW0.out _ _ HC.out.2.2.2.1, keep_below HW0.out _ _ HC.out.2.2.2.2.1, keep_below HW0.out _ _ HC.out.2.2.2.2.2.1, keep_below HW0.out _ _ HC.out.2.2.2.2.2.2.1, keep_below HW0.out _ _ HC.out.2.2.2.2.2.2.2⟩) (fun hHeld => ?_)
        rw [hWD] at hHeld ⊢
        clear hWD
        refine wpAnyH_take (i := 0) (v := ?_) rfl (by kernel_rfl) (by kernel_rfl) (by kernel_rfl) (fun _ _ _ h => absurd h.1 (by simp)) (Or.inl ⟨by rfl, ?_⟩) (by assumption) ?_
        rotate_left
        · (intro w hSw; (try dsimp only at hSw); go_simp; try with_reducible rfl)
        simp only [Act.put, List.getElem_toArray, List.getElem_cons_zero, List.setIfInBounds_toArray, List.set_cons_zero, List.set_cons_succ]
        refine wpAnyH_take (i := 1) (v := ?_) rfl (by kernel_rfl) (by kernel_rfl) (by kernel_rfl) (fun _ _ _ h => absurd h.1 (by simp)) (Or.inl ⟨by rfl, ?_⟩) (by assumption) ?_
        rotate_left
        · (intro w hSw; (try dsimp only at hSw); go_simp; try with_reducible rfl)
        simp only [Act.put, List.getElem_toArray, List.getElem_cons_succ, List.getElem_cons_zero, List.setIfInBounds_toArray, List.set_cons_zero, List.set_cons_succ]
        refine wpAnyH_take (i := 2) (v := ?_) rfl (by kernel_rfl) (by kernel_rfl) (by kernel_rfl) (fun _ _ _ h => absurd h.1 (by simp)) (Or.inl ⟨by rfl, ?_⟩) (by assumption) ?_
        rotate_left
        · (intro w hSw; (try dsimp only at hSw); go_simp; try with_reducible rfl)
        simp only [Act.put, List.getElem_toArray, List.getElem_cons_succ, List.getElem_cons_zero, List.setIfInBounds_toArray, List.set_cons_zero, List.set_cons_succ]
        refine wpAnyH_take (i := 3) (v := ?_) rfl (by kernel_rfl) (by kernel_rfl) (by kernel_rfl) (fun _ _ _ h => absurd h.1 (by simp)) (Or.inl ⟨by rfl, ?_⟩) (by assumption) ?_
        rotate_left
        · (intro w hSw; (try dsimp only at hSw); go_simp; try with_reducible rfl)
        simp only [Act.put, List.getElem_toArray, List.getElem_cons_succ, List.getElem_cons_zero, List.setIfInBounds_toArray, List.set_cons_zero, List.set_cons_succ]
        refine wpAnyH_take (i := 4) (v := ?_) rfl (by kernel_rfl) (by kernel_rfl) (by kernel_rfl) (fun _ _ _ h => absurd h.1 (by simp)) (Or.inl ⟨by rfl, ?_⟩) (by assumption) ?_
        rotate_left
        · (intro w hSw; (try dsimp only at hSw); go_simp; try with_reducible rfl)
        simp only [Act.put, List.getElem_toArray, List.getElem_cons_succ, List.getElem_cons_zero, List.setIfInBounds_toArray, List.set_cons_zero, List.set_cons_succ]
        refine wpAnyH_take (i := 5) (v := ?_) rfl (by kernel_rfl) (by kernel_rfl) (by kernel_rfl) (fun _ _ _ h => absurd h.1 (by simp)) (Or.inl ⟨by rfl, ?_⟩) (by assumption) ?_
        rotate_left
        · (intro w hSw; (try dsimp only at hSw); go_simp; try with_reducible rfl)
        simp only [Act.put, List.getElem_toArray, List.getElem_cons_succ, List.getElem_cons_zero, List.setIfInBounds_toArray, List.set_cons_zero, List.set_cons_succ]
        refine wpAnyH_ready (rs := [6, 7]) (by kernel_rfl) (by simp) ?_
        refine AllReadyH.cons (o := _) rfl (fun K hK => ?_) ?_
        · clear hHeld
          go_simp
          obtain ⟨W12, hWn⟩ : ∃ xw9, W11.alloc (.cells #[.int .i64 0, .float .f64 0, .int .i32 0, .slice none 0 0] 58) = xw9 := ⟨_, rfl⟩
          have hB : Below W11.heap.size W11 W12 := by rw [← hWn]; exact below_new _ _
          have hNB : Blk4 W12 W11.heap.size (.int .i64 0) (.float .f64 0) (.int .i32 0) (.slice none 0 0) := by rw [← hWn]; exact Blk4.new _ _ _ _ _ _
          have hge : wr.heap.size ≤ W11.heap.size := HW0.out.size
          rw [hWn]
          clear hWn
          obtain ⟨pb, hnm⟩ : ∃ x, W11.heap.size = x := ⟨_, rfl⟩
          rw [hnm] at hNB hge ⊢
          replace HW0 := Lib.hid (HW0.out.trans (hB.mono HW0.out.size))
          have HP := Lib.hid hNB
          have HPG := Lib.hid hge
          clear hNB hB hnm hge
          refine hK.out _ _ ?_ (fun hHeld => ?_)
          · exact ⟨keep_below HW0.out _ _ HC.out.1, keep_below HW0.out _ _ HC.out.2.1, keep_below HW0.out _ _ HC.out.2.2.1, keep_below HW0.out _ _ HC.out.2.2.2.1, keep_below HW0.out _ _ HC.out.2.2.2.2.1, keep_below HW0.out _ _ HC.out.2.2.2.2.2.1, keep_below HW0.out _ _ HC.out.2.2.2.2.2.2.1, keep_below HW0.out _ _ HC.out.2.2.2.2.2.2.2⟩
          clear hK K
          refine wpAnyH_ready (rs := [7]) (by kernel_rfl) (by simp) ?_
          refine AllReadyH.cons (o := _) rfl (fun K hK => ?_) ?_
          · clear hHeld
            go_simp
            obtain ⟨W13, hWn⟩ : ∃ xw9, W12.alloc (.cells #[.int .i64 0, .float .f64 0, .int .i32 0, .slice none 0 0] 58) = xw9 := ⟨_, rfl⟩
            have hB : Below W12.heap.size W12 W13 := by rw [← hWn]; exact below_new _ _
            have hNB : Blk4 W13 W12.heap.size (.int .i64 0) (.float .f64 0) (.int .i32 0) (.slice none 0 0) := by rw [← hWn]; exact Blk4.new _ _ _ _ _ _
            have hge : wr.heap.size ≤ W12.heap.size := HW0.out.size
            rw [hWn]
            clear hWn
            obtain ⟨qb, hnm⟩ : ∃ x, W12.heap.size = x := ⟨_, rfl⟩
            rw [hnm] at hNB hge ⊢
            have HNE := Lib.hid (show pb ≠ qb by rw [← hnm]; exact Nat.ne_of_lt HP.out.1)
            replace HW0 := Lib.hid (HW0.out.trans (hB.mono HW0.out.size))
            replace HP := Lib.hid (HP.out.below hB)
            have HQ := Lib.hid hNB
            have HQG := Lib.hid hge
            clear hNB hB hnm hge
            refine hK.out _ _ ?_ (fun hHeld => ?_)
            · exact ⟨keep_below HW0.out _ _ HC.out.1, keep_below HW0.out _ _ HC.out.2.1, keep_below HW0.out _ _ HC.out.2.2.1, keep_below HW0.out _ _ HC.out.2.2.2.1, keep_below HW0.out _ _ HC.out.2.2.2.2.1, keep_below HW0.out _ _ HC.out.2.2.2.2.2.1, keep_below HW0.out _ _ HC.out.2.2.2.2.2.2.1, keep_below HW0.out _ _ HC.out.2.2.2.2.2.2.2⟩
            clear hK K
            refine wpAnyH_ready (rs := [8]) (by kernel_rfl) (by simp) ?_
            refine AllReadyH.cons (o := _) rfl (fun K hK => ?_) ?_
            · clear hHeld
              have s0 := HP.out.2.1
              have s1 := HP.out.2.2.1
              have s2 := HP.out.2.2.2.1
              have s3 := HP.out.2.2.2.2.1
              have z0 := HP.out.2.2.2.2.2 0
              have z1 := HP.out.2.2.2.2.2 1
              have z2 := HP.out.2.2.2.2.2 2
              have z3 := HP.out.2.2.2.2.2 3
              go_simp
              clear s0 s1 s2 s3 z0 z1 z2 z3
              obtain ⟨W14, hWn⟩ : ∃ xw9, ((((W13.setCell ⟨pb, 0, none⟩ (.int .i64 ia.1)).setCell ⟨pb, 1, none⟩ (.float .f64 ia.2.1)).setCell ⟨pb, 2, none⟩ (.int .i32 ia.2.2.1)).setCell ⟨pb, 3, none⟩ (sa)) = xw9 := ⟨_, rfl⟩
              rw [hWn]
              replace HP := Lib.hid (show Blk4 W14 pb (.int .i64 ia.1) (.float .f64 ia.2.1) (.int .i32 ia.2.2.1) (sa) by rw [← hWn]; exact ((((HP.out.set0 _).set1 _).set2 _).set3 _))
              replace HQ := Lib.hid (show Blk4 W14 qb _ _ _ _ by rw [← hWn]; exact ((((HQ.out.other ⟨pb, 0, none⟩ (Ne.symm HNE.out) _).other ⟨pb, 1, none⟩ (Ne.symm HNE.out) _).other ⟨pb, 2, none⟩ (Ne.symm HNE.out) _).other ⟨pb, 3, none⟩ (Ne.symm HNE.out) _))
              replace HW0 := Lib.hid (show Below wr.heap.size wr W14 by rw [← hWn]; exact ((((HW0.out.setCell (p := ⟨pb, 0, none⟩) HPG.out _).setCell (p := ⟨pb, 1, none⟩) HPG.out _).setCell (p := ⟨pb, 2, none⟩) HPG.out _).setCell (p := ⟨pb, 3, none⟩) HPG.out _))
              clear hWn
              refine hK.out _ _ ?_ (fun hHeld => ?_)
              · exact ⟨keep_below HW0.out _ _ HC.out.1, keep_below HW0.out _ _ HC.out.2.1, keep_below HW0.out _ _ HC.out.2.2.1, keep_below HW0.out _ _ HC.out.2.2.2.1, keep_below HW0.out _ _ HC.out.2.2.2.2.1, keep_below HW0.out _ _ HC.out.2.2.2.2.2.1, keep_below HW0.out _ _ HC.out.2.2.2.2.2.2.1, keep_below HW0.out _ _ HC.out.2.2.2.2.2.2.2⟩
              clear hK K
              refine wpAnyH_ready (rs := [9]) (by kernel_rfl) (by simp) ?_
              refine AllReadyH.cons (o := _) rfl (fun K hK => ?_) ?_
              · clear hHeld
                have s0 := HQ.out.2.1
                have s1 := HQ.out.2.2.1
                have s2 := HQ.out.2.2.2.1
                have s3 := HQ.out.2.2.2.2.1
                have z0 := HQ.out.2.2.2.2.2 0
                have z1 := HQ.out.2.2.2.2.2 1
                have z2 := HQ.out.2.2.2.2.2 2
                have z3 := HQ.out.2.2.2.2.2 3
                go_simp
                clear s0 s1 s2 s3 z0 z1 z2 z3
                obtain ⟨W15, hWn⟩ : ∃ xw9, ((((W14.setCell ⟨qb, 0, none⟩ (.int .i64 ib.1)).setCell ⟨qb, 1, none⟩ (.float .f64 ib.2.1)).setCell ⟨qb, 2, none⟩ (.int .i32 ib.2.2.1)).setCell ⟨qb, 3, none⟩ (sb)) = xw9 := ⟨_, rfl⟩
                rw [hWn]
                replace HQ := Lib.hid (show Blk4 W15 qb (.int .i64 ib.1) (.float .f64 ib.2.1) (.int .i32 ib.2.2.1) (sb) by rw [← hWn]; exact ((((HQ.out.set0 _).set1 _).set2 _).set3 _))
                replace HP := Lib.hid (show Blk4 W15 pb _ _ _ _ by rw [← hWn]; exact ((((HP.out.other ⟨qb, 0, none⟩ HNE.out _).other ⟨qb, 1, none⟩ HNE.out _).other ⟨qb, 2, none⟩ HNE.out _).other ⟨qb, 3, none⟩ HNE.out _))
                replace HW0 := Lib.hid (show Below wr.heap.size wr W15 by rw [← hWn]; exact ((((HW0.out.setCell (p := ⟨qb, 0, none⟩) HQG.out _).setCell (p := ⟨qb, 1, none⟩) HQG.out _).setCell (p := ⟨qb, 2, none⟩) HQG.out _).setCell (p := ⟨qb, 3, none⟩) HQG.out _))
                clear hWn
                refine hK.out _ _ ?_ (fun hHeld => ?_)
                · exact ⟨keep_below HW0.out _ _ HC.out.1, keep_below HW0.out _ _ HC.out.2.1, keep_below HW0.out _ _ HC.out.2.2.1, keep_below HW0.out _ _ HC.out.2.2.2.1, keep_below HW0.out _ _ HC.out.2.2.2.2.1, keep_below HW0.out _ _ HC.out.2.2.2.2.2.1, keep_below HW0.out _ _ HC.out.2.2.2.2.2.2.1, keep_below HW0.out _ _ HC.out.2.2.2.2.2.2.2⟩
                clear hK K
                refine wpAnyH_done (by kernel_rfl) ?_ _
                clear hHeld
                refine ⟨rfl, pb, qb, ?_, HP.out, HQ.out, HNE.out, HPG.out, HQG.out, HW0.out⟩
                rfl
              exact AllReadyH.nil
            exact AllReadyH.nil
          exact AllReadyH.nil
        refine AllReadyH.cons (o := _) rfl (fun K hK => ?_) ?_
        · clear hHeld
          go_simp
          obtain ⟨W12, hWn⟩ : ∃ xw9, W11.alloc (.cells #[.int .i64 0, .float .f64 0, .int .i32 0, .slice none 0 0] 58) = xw9 := ⟨_, rfl⟩
          have hB : Below W11.heap.size W11 W12 := by rw [← hWn]; exact below_new _ _
          have hNB : Blk4 W12 W11.heap.size (.int .i64 0) (.float .f64 0) (.int .i32 0) (.slice none 0 0) := by rw [← hWn]; exact Blk4.new _ _ _ _ _ _
          have hge : wr.heap.size ≤ W11.heap.size := HW0.out.size
          rw [hWn]
          clear hWn
          obtain ⟨qb, hnm⟩ : ∃ x, W11.heap.size = x := ⟨_, rfl⟩
          rw [hnm] at hNB hge ⊢
          replace HW0 := Lib.hid (HW0.out.trans (hB.mono HW0.out.size))
          have HQ := Lib.hid hNB
          have HQG := Lib.hid hge
          clear hNB hB hnm hge
          refine hK.out _ _ ?_ (fun hHeld => ?_)
          · exact ⟨keep_below HW0.out _ _ HC.out.1, keep_below HW0.out _ _ HC.out.2.1, keep_below HW0.out _ _ HC.out.2.2.1, keep_below HW0.out _ _ HC.out.2.2.2.1, keep_below HW0.out _ _ HC.out.2.2.2.2.1, keep_below HW0.out _ _ HC.out.2.2.2.2.2.1, keep_below HW0.out _ _ HC.out.2.2.2.2.2.2.1, keep_below HW0.out _ _ HC.out.2.2.2.2.2.2.2⟩
          clear hK K
          refine wpAnyH_ready (rs := [6]) (by kernel_rfl) (by simp) ?_
          refine AllReadyH.cons (o := _) rfl (fun K hK => ?_) ?_
          · clear hHeld
            go_simp
            obtain ⟨W13, hWn⟩ : ∃ xw9, W12.alloc (.cells #[.int .i64 0, .float .f64 0, .int .i32 0, .slice none 0 0] 58) = xw9 := ⟨_, rfl⟩
            have hB : Below W12.heap.size W12 W13 := by rw [← hWn]; exact below_new _ _
            have hNB : Blk4 W13 W12.heap.size (.int .i64 0) (.float .f64 0) (.int .i32 0) (.slice none 0 0) := by rw [← hWn]; exact Blk4.new _ _ _ _ _ _
            have hge : wr.heap.size ≤ W12.heap.size := HW0.out.size
            rw [hWn]
            clear hWn
            obtain ⟨pb, hnm⟩ : ∃ x, W12.heap.size = x := ⟨_, rfl⟩
            rw [hnm] at hNB hge ⊢
            have HNE := Lib.hid (show qb ≠ pb by rw [← hnm]; exact Nat.ne_of_lt HQ.out.1)
            replace HW0 := Lib.hid (HW0.out.trans (hB.mono HW0.out.size))
            replace HQ := Lib.hid (HQ.out.below hB)
            have HP := Lib.hid hNB
            have HPG := Lib.hid hge
            clear hNB hB hnm hge
            refine hK.out _ _ ?_ (fun hHeld => ?_)
            · exact ⟨keep_below HW0.out _ _ HC.out.1, keep_below HW0.out _ _ HC.out.2.1, keep_below HW0.out _ _ HC.out.2.2.1, keep_below HW0.out _ _ HC.out.2.2.2.1, keep_below HW0.out _ _ HC.out.2.2.2.2.1, keep_below HW0.out _ _ HC.out.2.2.2.2.2.1, keep_below HW0.out _ _ HC.out.2.2.2.2.2.2.1, keep_below HW0.out _ _ HC.out.2.2.2.2.2.2.2⟩
            clear hK K
            refine wpAnyH_ready (rs := [8]) (by kernel_rfl) (by simp) ?_
            refine AllReadyH.cons (o := _) rfl (fun K hK => ?_) ?_
            · clear hHeld
              have s0 := HP.out.2.1
              have s1 := HP.out.2.2.1
              have s2 := HP.out.2.2.2.1
              have s3 := HP.out.2.2.2.2.1
              have z0 := HP.out.2.2.2.2.2 0
              have z1 := HP.out.2.2.2.2.2 1
              have z2 := HP.out.2.2.2.2.2 2
              have z3 := HP.out.2.2.2.2.2 3
              go_simp
              clear s0 s1 s2 s3 z0 z1 z2 z3
              obtain ⟨W14, hWn⟩ : ∃ xw9, ((((W13.setCell ⟨pb, 0, none⟩ (.int .i64 ia.1)).setCell ⟨pb, 1, none⟩ (.float .f64 ia.2.1)).setCell ⟨pb, 2, none⟩ (.int .i32 ia.2.2.1)).setCell ⟨pb, 3, none⟩ (sa)) = xw9 := ⟨_, rfl⟩
              rw [hWn]
              replace HP := Lib.hid (show Blk4 W14 pb (.int .i64 ia.1) (.float .f64 ia.2.1) (.int .i32 ia.2.2.1) (sa) by rw [← hWn]; exact ((((HP.out.set0 _).set1 _).set2 _).set3 _))
              replace HQ := Lib.hid (show Blk4 W14 qb _ _ _ _ by rw [← hWn]; exact ((((HQ.out.other ⟨pb, 0, none⟩ HNE.out _).other ⟨pb, 1, none⟩ HNE.out _).other ⟨pb, 2, none⟩ HNE.out _).other ⟨pb, 3, none⟩ HNE.out _))
              replace HW0 := Lib.hid (show Below wr.heap.size wr W14 by rw [← hWn]; exact ((((HW0.out.setCell (p := ⟨pb, 0, none⟩) HPG.out _).setCell (p := ⟨pb, 1, none⟩) HPG.out _).setCell (p := ⟨pb, 2, none⟩) HPG.out _).setCell (p := ⟨pb, 3, none⟩) HPG.out _))
              clear hWn
              refine hK.out _ _ ?_ (fun hHeld => ?_)
              · exact ⟨keep_below HW0.out _ _ HC.out.1, keep_below HW0.out _ _ HC.out.2.1, keep_below HW0.out _ _ HC.out.2.2.1, keep_below HW0.out _ _ HC.out.2.2.2.1, keep_below HW0.out _ _ HC.out.2.2.2.2.1, keep_below HW0.out _ _ HC.out.2.2.2.2.2.1, keep_below HW0.out _ _ HC.out.2.2.2.2.2.2.1, keep_below HW0.out _ _ HC.out.2.2.2.2.2.2.2⟩
              clear hK K
              refine wpAnyH_ready (rs := [9]) (by kernel_rfl) (by simp) ?_
              refine AllReadyH.cons (o := _) rfl (fun K hK => ?_) ?_
              · clear hHeld
                have s0 := HQ.out.2.1
                have s1 := HQ.out.2.2.1
                have s2 := HQ.out.2.2.2.1
                have s3 := HQ.out.2.2.2.2.1
                have z0 := HQ.out.2.2.2.2.2 0
                have z1 := HQ.out.2.2.2.2.2 1
                have z2 := HQ.out.2.2.2.2.2 2
                have z3 := HQ.out.2.2.2.2.2 3
                go_simp
                clear s0 s1 s2 s3 z0 z1 z2 z3
                obtain ⟨W15, hWn⟩ : ∃ xw9, ((((W14.setCell ⟨qb, 0, none⟩ (.int .i64 ib.1)).setCell ⟨qb, 1, none⟩ (.float .f64 ib.2.1)).setCell ⟨qb, 2, none⟩ (.int .i32 ib.2.2.1)).setCell ⟨qb, 3, none⟩ (sb)) = xw9 := ⟨_, rfl⟩
                rw [hWn]
                replace HQ := Lib.hid (show Blk4 W15 qb (.int .i64 ib.1) (.float .f64 ib.2.1) (.int .i32 ib.2.2.1) (sb) by rw [← hWn]; exact ((((HQ.out.set0 _).set1 _).set2 _).set3 _))
                replace HP := Lib.hid (show Blk4 W15 pb _ _ _ _ by rw [← hWn]; exact ((((HP.out.other ⟨qb, 0, none⟩ (Ne.symm HNE.out) _).other ⟨qb, 1, none⟩ (Ne.symm HNE.out) _).other ⟨qb, 2, none⟩ (Ne.symm HNE.out) _).other ⟨qb, 3, none⟩ (Ne.symm HNE.out) _))
                replace HW0 := Lib.hid (show Below wr.heap.size wr W15 by rw [← hWn]; exact ((((HW0.out.setCell (p := ⟨qb, 0, none⟩) HQG.out _).setCell (p := ⟨qb, 1, none⟩) HQG.out _).setCell (p := ⟨qb, 2, none⟩) HQG.out _).setCell (p := ⟨qb, 3, none⟩) HQG.out _))
                clear hWn
                refine hK.out _ _ ?_ (fun hHeld => ?_)
                · exact ⟨keep_below HW0.out _ _ HC.out.1, keep_below HW0.out _ _ HC.out.2.1, keep_below HW0.out _ _ HC.out.2.2.1, keep_below HW0.out _ _ HC.out.2.2.2.1, keep_below HW0.out _ _ HC.out.2.2.2.2.1, keep_below HW0.out _ _ HC.out.2.2.2.2.2.1, keep_below HW0.out _ _ HC.out.2.2.2.2.2.2.1, keep_below HW0.out _ _ HC.out.2.2.2.2.2.2.2⟩
                clear hK K
                refine wpAnyH_done (by kernel_rfl) ?_ _
                clear hHeld
                refine ⟨rfl, pb, qb, ?_, HP.out, HQ.out, (Ne.symm HNE.out), HPG.out, HQG.out, HW0.out⟩
                rfl
              exact AllReadyH.nil
            exact AllReadyH.nil
          exact AllReadyH.nil
        exact AllReadyH.nil
      rintro _ W2 ⟨pb, qb, rfl, hp, hq, hne, hpg, hqg, hB⟩
      have HP := Lib.hid hp
      have HQ := Lib.hid hq
      have HNE := Lib.hid hne
      have HPG := Lib.hid hpg
      have HQG := Lib.hid hqg
      have HB2 := Lib.hid hB
      have HVA2 := Lib.hid (HVA.out.grow hB)
      have HVB2 := Lib.hid (HVB.out.grow hB)
      simp only [Act.put, List.setIfInBounds_toArray, List.set_cons_zero, List.set_cons_succ]
      clear hp hq hne hpg hqg hB HC
      by_cases ha1 : la.length = 1
      · by_cases hb1 : lb.length = 1
        · have h1a : ¬ 1 < la.length := by omega
          have HPKa := Lib.hid (show pk dI la k = ia by unfold pk; rw [if_pos ha1, List.getD_eq_getElem?_getD, List.getElem?_eq_getElem HL0.out.1, HIA.out]; rfl)
          have HFNa := Lib.hid (show Fnt ia.2.1 by rw [← HIA.out]; exact HFA.out _ (List.getElem_mem _))
          clear ha1
          have h1b : ¬ 1 < lb.length := by omega
          have HPKb := Lib.hid (show pk dI lb k = ib by unfold pk; rw [if_pos hb1, List.getD_eq_getElem?_getD, List.getElem?_eq_getElem HL0.out.2, HIB.out]; rfl)
          have HFNb := Lib.hid (show Fnt ib.2.1 by rw [← HIB.out]; exact HFB.out _ (List.getElem_mem _))
          clear hb1
          have p1 := HP.out.2.2.1
          have p2 := HP.out.2.2.2.1
          have q1 := HQ.out.2.2.1
          have q2 := HQ.out.2.2.2.1
          have HO9 := Lib.hid (owns_below HO.out HB2.out)
          have HB9 := Lib.hid (HB.out.trans (HB2.out.mono HB.out.size))
          have HSW := Lib.hid HB9.out.size
          rw [HPKa.out, HPKb.out] at HTK
          go_wp2_with fail
          refine (rrone_calls 16 ia.2.1 ib.2.1 _ HFNa.out HFNb.out).mono ?_
          rintro e w' ⟨rfl, rfl⟩
          by_cases he : ia.2.2.1 = ib.2.2.1
          · have heb : (ia.2.2.1 == ib.2.2.1) = true := by simpa using he
            have HEB := Lib.hid heb
            clear he
            have HRV := Lib.hid (show rrV 16 1 1 ia ib = false by unfold rrV; rw [if_neg (by decide), HEB.out]; rfl)
            rw [HRV.out] at HTK
            have HM1 : Hid (k + 1 ≤ maxLen) := Lib.hid (by have := HLT.out; unfold maxLen; omega)
            go_wp2_with (at_builtin; refine wpList_append_own _ rfl _ _ 37 rfl w.heap.size 4 i0 (.bool false) 1 1 Tryz.underlying37 HI0.out.1 HI0.out.2.1 HI0.out.2.2.1 HI0.out.2.2.2 rfl (by decide) _ _ _ rfl (HO9.out.alloc _) ⟨W2.heap.size, 0, none⟩ 1 1 [.bool false] rfl rfl ?c1 ?c2 HM1.out ?c4 ?c5 ?_)
            case c1 =>
              intro j u hj
              match j, hj with
              | 0, hj => simp at hj; subst hj; simp [Addr.add]
            case c2 => intro u hu; simp at hu; subst hu; rfl
            case c4 => omega
            case c5 => have := HSW.out; simp <;> omega
            intro v' w3 hown' hgrow _
            have HO3 := Lib.hid hown'
            have HB3 := Lib.hid (grown_below (HB9.out.alloc HSW.out _) (HO9.out.alloc _) (Nat.le_refl _) (by have := HSW.out; simp <;> omega) hgrow)
            have hlt := HLT.out
            clear hown' hgrow
            go_wp2
            go_roundw
            case rel =>
              refine ⟨k + 1, by omega, by go_num, ?_, HB3.out⟩
              have := HO3.out
              rw [HTK.out]
              simpa [bools] using this
            case measure => simp [intOf]; omega
          · have heb : (ia.2.2.1 == ib.2.2.1) = false := by simpa using he
            have HEB := Lib.hid heb
            clear he
            have HRV := Lib.hid (show rrV 16 1 1 ia ib = true by unfold rrV; rw [if_neg (by decide), HEB.out]; rfl)
            rw [HRV.out] at HTK
            have HM1 : Hid (k + 1 ≤ maxLen) := Lib.hid (by have := HLT.out; unfold maxLen; omega)
            go_wp2_with (at_builtin; refine wpList_append_own _ rfl _ _ 37 rfl w.heap.size 4 i0 (.bool false) 1 1 Tryz.underlying37 HI0.out.1 HI0.out.2.1 HI0.out.2.2.1 HI0.out.2.2.2 rfl (by decide) _ _ _ rfl (HO9.out.alloc _) ⟨W2.heap.size, 0, none⟩ 1 1 [.bool true] rfl rfl ?c1 ?c2 HM1.out ?c4 ?c5 ?_)
            case c1 =>
              intro j u hj
              match j, hj with
              | 0, hj => simp at hj; subst hj; simp [Addr.add]
            case c2 => intro u hu; simp at hu; subst hu; rfl
            case c4 => omega
            case c5 => have := HSW.out; simp <;> omega
            intro v' w3 hown' hgrow _
            have HO3 := Lib.hid hown'
            have HB3 := Lib.hid (grown_below (HB9.out.alloc HSW.out _) (HO9.out.alloc _) (Nat.le_refl _) (by have := HSW.out; simp <;> omega) hgrow)
            have hlt := HLT.out
            clear hown' hgrow
            go_wp2
            go_roundw
            case rel =>
              refine ⟨k + 1, by omega, by go_num, ?_, HB3.out⟩
              have := HO3.out
              rw [HTK.out]
              simpa [bools] using this
            case measure => simp [intOf]; omega
        · have h1a : ¬ 1 < la.length := by omega
          have HPKa := Lib.hid (show pk dI la k = ia by unfold pk; rw [if_pos ha1, List.getD_eq_getElem?_getD, List.getElem?_eq_getElem HL0.out.1, HIA.out]; rfl)
          have HFNa := Lib.hid (show Fnt ia.2.1 by rw [← HIA.out]; exact HFA.out _ (List.getElem_mem _))
          clear ha1
          have h1b : 1 < lb.length := by have := HL0.out; omega
          have hkb : k < lb.length := by have := HI.out; omega
          obtain ⟨bb, ob, bob, bcb, hbe, _, cb0, cb1, cb2, cb3, _⟩ := HVB2.out.at (List.getElem?_eq_getElem hkb)
          cases hbe
          obtain ⟨xb, hxb⟩ : ∃ x, lb[k]'hkb = x := ⟨_, rfl⟩
          have HPKb := Lib.hid (show pk dI lb k = xb by unfold pk; rw [if_neg hb1, List.getD_eq_getElem?_getD, List.getElem?_eq_getElem hkb, hxb]; rfl)
          have HFNb := Lib.hid (show Fnt xb.2.1 by rw [← hxb]; exact HFB.out _ (List.getElem_mem _))
          rw [hxb] at cb0 cb1 cb2 cb3
          obtain ⟨sb2, hsb2⟩ : ∃ s, Value.slice bob xb.2.2.2.length bcb = s := ⟨_, rfl⟩
          have hnb2 : (∀ (w : World) (a : Addr) (m : Mode), (store a sb2 m).run Tryz.prog w = stored Tryz.prog w a sb2 m) := by subst hsb2; exact fun w a m => run_store Tryz.prog w a _ m rfl
          rw [hsb2] at cb3
          clear hxb hsb2 hb1
          have tb0 := HQ.out.2.1
          have tb1 := HQ.out.2.2.1
          have tb2 := HQ.out.2.2.2.1
          have tb3 := HQ.out.2.2.2.2.1
          have zb0 := HQ.out.2.2.2.2.2 0
          have zb1 := HQ.out.2.2.2.2.2 1
          have zb2 := HQ.out.2.2.2.2.2 2
          have zb3 := HQ.out.2.2.2.2.2 3
          obtain ⟨W4, hWW4⟩ : ∃ xw9, ((((W2.setCell ⟨qb, 0, none⟩ (.int .i64 xb.1)).setCell ⟨qb, 1, none⟩ (.float .f64 xb.2.1)).setCell ⟨qb, 2, none⟩ (.int .i32 xb.2.2.1)).setCell ⟨qb, 3, none⟩ (sb2)) = xw9 := ⟨_, rfl⟩
          replace HQ := Lib.hid (show Blk4 W4 qb (.int .i64 xb.1) (.float .f64 xb.2.1) (.int .i32 xb.2.2.1) (sb2) by rw [← hWW4]; exact ((((HQ.out.set0 _).set1 _).set2 _).set3 _))
          replace HP := Lib.hid (show Blk4 W4 pb _ _ _ _ by rw [← hWW4]; exact ((((HP.out.other ⟨qb, 0, none⟩ HNE.out _).other ⟨qb, 1, none⟩ HNE.out _).other ⟨qb, 2, none⟩ HNE.out _).other ⟨qb, 3, none⟩ HNE.out _))
          replace HB2 := Lib.hid (show Below wr.heap.size wr W4 by rw [← hWW4]; exact ((((HB2.out.setCell (p := ⟨qb, 0, none⟩) HQG.out _).setCell (p := ⟨qb, 1, none⟩) HQG.out _).setCell (p := ⟨qb, 2, none⟩) HQG.out _).setCell (p := ⟨qb, 3, none⟩) HQG.out _))
          replace HVA2 := Lib.hid (HVA.out.grow HB2.out)
          replace HVB2 := Lib.hid (HVB.out.grow HB2.out)
          have p1 := HP.out.2.2.1
          have p2 := HP.out.2.2.2.1
          have q1 := HQ.out.2.2.1
          have q2 := HQ.out.2.2.2.1
          have HO9 := Lib.hid (owns_below HO.out HB2.out)
          have HB9 := Lib.hid (HB.out.trans (HB2.out.mono HB.out.size))
          have HSW := Lib.hid HB9.out.size
          rw [HPKa.out, HPKb.out] at HTK
          go_wp2_with fail
          refine (rrone_calls 16 ia.2.1 xb.2.1 _ HFNa.out HFNb.out).mono ?_
          rintro e w' ⟨rfl, rfl⟩
          by_cases he : ia.2.2.1 = xb.2.2.1
          · have heb : (ia.2.2.1 == xb.2.2.1) = true := by simpa using he
            have HEB := Lib.hid heb
            clear he
            have HRV := Lib.hid (show rrV 16 1 1 ia xb = false by unfold rrV; rw [if_neg (by decide), HEB.out]; rfl)
            rw [HRV.out] at HTK
            have HM1 : Hid (k + 1 ≤ maxLen) := Lib.hid (by have := HLT.out; unfold maxLen; omega)
            go_wp2_with (at_builtin; refine wpList_append_own _ rfl _ _ 37 rfl w.heap.size 4 i0 (.bool false) 1 1 Tryz.underlying37 HI0.out.1 HI0.out.2.1 HI0.out.2.2.1 HI0.out.2.2.2 rfl (by decide) _ _ _ rfl (HO9.out.alloc _) ⟨W4.heap.size, 0, none⟩ 1 1 [.bool false] rfl rfl ?c1 ?c2 HM1.out ?c4 ?c5 ?_)
            case c1 =>
              intro j u hj
              match j, hj with
              | 0, hj => simp at hj; subst hj; simp [Addr.add]
            case c2 => intro u hu; simp at hu; subst hu; rfl
            case c4 => omega
            case c5 => have := HSW.out; simp <;> omega
            intro v' w3 hown' hgrow _
            have HO3 := Lib.hid hown'
            have HB3 := Lib.hid (grown_below (HB9.out.alloc HSW.out _) (HO9.out.alloc _) (Nat.le_refl _) (by have := HSW.out; simp <;> omega) hgrow)
            have hlt := HLT.out
            clear hown' hgrow
            go_wp2
            go_roundw
            case rel =>
              refine ⟨k + 1, by omega, by go_num, ?_, HB3.out⟩
              have := HO3.out
              rw [HTK.out]
              simpa [bools] using this
            case measure => simp [intOf]; omega
          · have heb : (ia.2.2.1 == xb.2.2.1) = false := by simpa using he
            have HEB := Lib.hid heb
            clear he
            have HRV := Lib.hid (show rrV 16 1 1 ia xb = true by unfold rrV; rw [if_neg (by decide), HEB.out]; rfl)
            rw [HRV.out] at HTK
            have HM1 : Hid (k + 1 ≤ maxLen) := Lib.hid (by have := HLT.out; unfold maxLen; omega)
            go_wp2_with (at_builtin; refine wpList_append_own _ rfl _ _ 37 rfl w.heap.size 4 i0 (.bool false) 1 1 Tryz.underlying37 HI0.out.1 HI0.out.2.1 HI0.out.2.2.1 HI0.out.2.2.2 rfl (by decide) _ _ _ rfl (HO9.out.alloc _) ⟨W4.heap.size, 0, none⟩ 1 1 [.bool true] rfl rfl ?c1 ?c2 HM1.out ?c4 ?c5 ?_)
            case c1 =>
              intro j u hj
              match j, hj with
              | 0, hj => simp at hj; subst hj; simp [Addr.add]
            case c2 => intro u hu; simp at hu; subst hu; rfl
            case c4 => omega
            case c5 => have := HSW.out; simp <;> omega
            intro v' w3 hown' hgrow _
            have HO3 := Lib.hid hown'
            have HB3 := Lib.hid (grown_below (HB9.out.alloc HSW.out _) (HO9.out.alloc _) (Nat.le_refl _) (by have := HSW.out; simp <;> omega) hgrow)
            have hlt := HLT.out
            clear hown' hgrow
            go_wp2
            go_roundw
            case rel =>
              refine ⟨k + 1, by omega, by go_num, ?_, HB3.out⟩
              have := HO3.out
              rw [HTK.out]
              simpa [bools] using this
            case measure => simp [intOf]; omega
      · by_cases hb1 : lb.length = 1
        · have h1a : 1 < la.length := by have := HL0.out; omega
          have hka : k < la.length := by have := HI.out; omega
          obtain ⟨ba, oa, boa, bca, hbe, _, ca0, ca1, ca2, ca3, _⟩ := HVA2.out.at (List.getElem?_eq_getElem hka)
          cases hbe
          obtain ⟨xa, hxa⟩ : ∃ x, la[k]'hka = x := ⟨_, rfl⟩
          have HPKa := Lib.hid (show pk dI la k = xa by unfold pk; rw [if_neg ha1, List.getD_eq_getElem?_getD, List.getElem?_eq_getElem hka, hxa]; rfl)
          have HFNa := Lib.hid (show Fnt xa.2.1 by rw [← hxa]; exact HFA.out _ (List.getElem_mem _))
          rw [hxa] at ca0 ca1 ca2 ca3
          obtain ⟨sa2, hsa2⟩ : ∃ s, Value.slice boa xa.2.2.2.length bca = s := ⟨_, rfl⟩
          have hna2 : (∀ (w : World) (a : Addr) (m : Mode), (store a sa2 m).run Tryz.prog w = stored Tryz.prog w a sa2 m) := by subst hsa2; exact fun w a m => run_store Tryz.prog w a _ m rfl
          rw [hsa2] at ca3
          clear hxa hsa2 ha1
          have ta0 := HP.out.2.1
          have ta1 := HP.out.2.2.1
          have ta2 := HP.out.2.2.2.1
          have ta3 := HP.out.2.2.2.2.1
          have za0 := HP.out.2.2.2.2.2 0
          have za1 := HP.out.2.2.2.2.2 1
          have za2 := HP.out.2.2.2.2.2 2
          have za3 := HP.out.2.2.2.2.2 3
          obtain ⟨W3, hWW3⟩ : ∃ xw9, ((((W2.setCell ⟨pb, 0, none⟩ (.int .i64 xa.1)).setCell ⟨pb, 1, none⟩ (.float .f64 xa.2.1)).setCell ⟨pb, 2, none⟩ (.int .i32 xa.2.2.1)).setCell ⟨pb, 3, none⟩ (sa2)) = xw9 := ⟨_, rfl⟩
          replace HP := Lib.hid (show Blk4 W3 pb (.int .i64 xa.1) (.float .f64 xa.2.1) (.int .i32 xa.2.2.1) (sa2) by rw [← hWW3]; exact ((((HP.out.set0 _).set1 _).set2 _).set3 _))
          replace HQ := Lib.hid (show Blk4 W3 qb _ _ _ _ by rw [← hWW3]; exact ((((HQ.out.other ⟨pb, 0, none⟩ (Ne.symm HNE.out) _).other ⟨pb, 1, none⟩ (Ne.symm HNE.out) _).other ⟨pb, 2, none⟩ (Ne.symm HNE.out) _).other ⟨pb, 3, none⟩ (Ne.symm HNE.out) _))
          replace HB2 := Lib.hid (show Below wr.heap.size wr W3 by rw [← hWW3]; exact ((((HB2.out.setCell (p := ⟨pb, 0, none⟩) HPG.out _).setCell (p := ⟨pb, 1, none⟩) HPG.out _).setCell (p := ⟨pb, 2, none⟩) HPG.out _).setCell (p := ⟨pb, 3, none⟩) HPG.out _))
          replace HVA2 := Lib.hid (HVA.out.grow HB2.out)
          replace HVB2 := Lib.hid (HVB.out.grow HB2.out)
          have h1b : ¬ 1 < lb.length := by omega
          have HPKb := Lib.hid (show pk dI lb k = ib by unfold pk; rw [if_pos hb1, List.getD_eq_getElem?_getD, List.getElem?_eq_getElem HL0.out.2, HIB.out]; rfl)
          have HFNb := Lib.hid (show Fnt ib.2.1 by rw [← HIB.out]; exact HFB.out _ (List.getElem_mem _))
          clear hb1
          have p1 := HP.out.2.2.1
          have p2 := HP.out.2.2.2.1
          have q1 := HQ.out.2.2.1
          have q2 := HQ.out.2.2.2.1
          have HO9 := Lib.hid (owns_below HO.out HB2.out)
          have HB9 := Lib.hid (HB.out.trans (HB2.out.mono HB.out.size))
          have HSW := Lib.hid HB9.out.size
          rw [HPKa.out, HPKb.out] at HTK
          go_wp2_with fail
          refine (rrone_calls 16 xa.2.1 ib.2.1 _ HFNa.out HFNb.out).mono ?_
          rintro e w' ⟨rfl, rfl⟩
          by_cases he : xa.2.2.1 = ib.2.2.1
          · have heb : (xa.2.2.1 == ib.2.2.1) = true := by simpa using he
            have HEB := Lib.hid heb
            clear he
            have HRV := Lib.hid (show rrV 16 1 1 xa ib = false by unfold rrV; rw [if_neg (by decide), HEB.out]; rfl)
            rw [HRV.out] at HTK
            have HM1 : Hid (k + 1 ≤ maxLen) := Lib.hid (by have := HLT.out; unfold maxLen; omega)
            go_wp2_with (at_builtin; refine wpList_append_own _ rfl _ _ 37 rfl w.heap.size 4 i0 (.bool false) 1 1 Tryz.underlying37 HI0.out.1 HI0.out.2.1 HI0.out.2.2.1 HI0.out.2.2.2 rfl (by decide) _ _ _ rfl (HO9.out.alloc _) ⟨W3.heap.size, 0, none⟩ 1 1 [.bool false] rfl rfl ?c1 ?c2 HM1.out ?c4 ?c5 ?_)
            case c1 =>
              intro j u hj
              match j, hj with
              | 0, hj => simp at hj; subst hj; simp [Addr.add]
            case c2 => intro u hu; simp at hu; subst hu; rfl
            case c4 => omega
            case c5 => have := HSW.out; simp <;> omega
            intro v' w3 hown' hgrow _
            have HO3 := Lib.hid hown'
            have HB3 := Lib.hid (grown_below (HB9.out.alloc HSW.out _) (HO9.out.alloc _) (Nat.le_refl _) (by have := HSW.out; simp <;> omega) hgrow)
            have hlt := HLT.out
            clear hown' hgrow
            go_wp2
            go_roundw
            case rel =>
              refine ⟨k + 1, by omega, by go_num, ?_, HB3.out⟩
              have := HO3.out
              rw [HTK.out]
              simpa [bools] using this
            case measure => simp [intOf]; omega
          · have heb : (xa.2.2.1 == ib.2.2.1) = false := by simpa using he
            have HEB := Lib.hid heb
            clear he
            have HRV := Lib.hid (show rrV 16 1 1 xa ib = true by unfold rrV; rw [if_neg (by decide), HEB.out]; rfl)
            rw [HRV.out] at HTK
            have HM1 : Hid (k + 1 ≤ maxLen) := Lib.hid (by have := HLT.out; unfold maxLen; omega)
            go_wp2_with (at_builtin; refine wpList_append_own _ rfl _ _ 37 rfl w.heap.size 4 i0 (.bool false) 1 1 Tryz.underlying37 HI0.out.1 HI0.out.2.1 HI0.out.2.2.1 HI0.out.2.2.2 rfl (by decide) _ _ _ rfl (HO9.out.alloc _) ⟨W3.heap.size, 0, none⟩ 1 1 [.bool true] rfl rfl ?c1 ?c2 HM1.out ?c4 ?c5 ?_)
            case c1 =>
              intro j u hj
              match j, hj with
              | 0, hj => simp at hj; subst hj; simp [Addr.add]
            case c2 => intro u hu; simp at hu; subst hu; rfl
            case c4 => omega
            case c5 => have := HSW.out; simp <;> omega
            intro v' w3 hown' hgrow _
            have HO3 := Lib.hid hown'
            have HB3 := Lib.hid (grown_below (HB9.out.alloc HSW.out _) (HO9.out.alloc _) (Nat.le_refl _) (by have := HSW.out; simp <;> omega) hgrow)
            have hlt := HLT.out
            clear hown' hgrow
            go_wp2
            go_roundw
            case rel =>
              refine ⟨k + 1, by omega, by go_num, ?_, HB3.out⟩
              have := HO3.out
              rw [HTK.out]
              simpa [bools] using this
            case measure => simp [intOf]; omega
        · have h1a : 1 < la.length := by have := HL0.out; omega
          have hka : k < la.length := by have := HI.out; omega
          obtain ⟨ba, oa, boa, bca, hbe, _, ca0, ca1, ca2, ca3, _⟩ := HVA2.out.at (List.getElem?_eq_getElem hka)
          cases hbe
          obtain ⟨xa, hxa⟩ : ∃ x, la[k]'hka = x := ⟨_, rfl⟩
          have HPKa := Lib.hid (show pk dI la k = xa by unfold pk; rw [if_neg ha1, List.getD_eq_getElem?_getD, List.getElem?_eq_getElem hka, hxa]; rfl)
          have HFNa := Lib.hid (show Fnt xa.2.1 by rw [← hxa]; exact HFA.out _ (List.getElem_mem _))
          rw [hxa] at ca0 ca1 ca2 ca3
          obtain ⟨sa2, hsa2⟩ : ∃ s, Value.slice boa xa.2.2.2.length bca = s := ⟨_, rfl⟩
          have hna2 : (∀ (w : World) (a : Addr) (m : Mode), (store a sa2 m).run Tryz.prog w = stored Tryz.prog w a sa2 m) := by subst hsa2; exact fun w a m => run_store Tryz.prog w a _ m rfl
          rw [hsa2] at ca3
          clear hxa hsa2 ha1
          have ta0 := HP.out.2.1
          have ta1 := HP.out.2.2.1
          have ta2 := HP.out.2.2.2.1
          have ta3 := HP.out.2.2.2.2.1
          have za0 := HP.out.2.2.2.2.2 0
          have za1 := HP.out.2.2.2.2.2 1
          have za2 := HP.out.2.2.2.2.2 2
          have za3 := HP.out.2.2.2.2.2 3
          obtain ⟨W3, hWW3⟩ : ∃ xw9, ((((W2.setCell ⟨pb, 0, none⟩ (.int .i64 xa.1)).setCell ⟨pb, 1, none⟩ (.float .f64 xa.2.1)).setCell ⟨pb, 2, none⟩ (.int .i32 xa.2.2.1)).setCell ⟨pb, 3, none⟩ (sa2)) = xw9 := ⟨_, rfl⟩
          replace HP := Lib.hid (show Blk4 W3 pb (.int .i64 xa.1) (.float .f64 xa.2.1) (.int .i32 xa.2.2.1) (sa2) by rw [← hWW3]; exact ((((HP.out.set0 _).set1 _).set2 _).set3 _))
          replace HQ := Lib.hid (show Blk4 W3 qb _ _ _ _ by rw [← hWW3]; exact ((((HQ.out.other ⟨pb, 0, none⟩ (Ne.symm HNE.out) _).other ⟨pb, 1, none⟩ (Ne.symm HNE.out) _).other ⟨pb, 2, none⟩ (Ne.symm HNE.out) _).other ⟨pb, 3, none⟩ (Ne.symm HNE.out) _))
          replace HB2 := Lib.hid (show Below wr.heap.size wr W3 by rw [← hWW3]; exact ((((HB2.out.setCell (p := ⟨pb, 0, none⟩) HPG.out _).setCell (p := ⟨pb, 1, none⟩) HPG.out _).setCell (p := ⟨pb, 2, none⟩) HPG.out _).setCell (p := ⟨pb, 3, none⟩) HPG.out _))
          replace HVA2 := Lib.hid (HVA.out.grow HB2.out)
          replace HVB2 := Lib.hid (HVB.out.grow HB2.out)
          have h1b : 1 < lb.length := by have := HL0.out; omega
          have hkb : k < lb.length := by have := HI.out; omega
          obtain ⟨bb, ob, bob, bcb, hbe, _, cb0, cb1, cb2, cb3, _⟩ := HVB2.out.at (List.getElem?_eq_getElem hkb)
          cases hbe
          obtain ⟨xb, hxb⟩ : ∃ x, lb[k]'hkb = x := ⟨_, rfl⟩
          have HPKb := Lib.hid (show pk dI lb k = xb by unfold pk; rw [if_neg hb1, List.getD_eq_getElem?_getD, List.getElem?_eq_getElem hkb, hxb]; rfl)
          have HFNb := Lib.hid (show Fnt xb.2.1 by rw [← hxb]; exact HFB.out _ (List.getElem_mem _))
          rw [hxb] at cb0 cb1 cb2 cb3
          obtain ⟨sb2, hsb2⟩ : ∃ s, Value.slice bob xb.2.2.2.length bcb = s := ⟨_, rfl⟩
          have hnb2 : (∀ (w : World) (a : Addr) (m : Mode), (store a sb2 m).run Tryz.prog w = stored Tryz.prog w a sb2 m) := by subst hsb2; exact fun w a m => run_store Tryz.prog w a _ m rfl
          rw [hsb2] at cb3
          clear hxb hsb2 hb1
          have tb0 := HQ.out.2.1
          have tb1 := HQ.out.2.2.1
          have tb2 := HQ.out.2.2.2.1
          have tb3 := HQ.out.2.2.2.2.1
          have zb0 := HQ.out.2.2.2.2.2 0
          have zb1 := HQ.out.2.2.2.2.2 1
          have zb2 := HQ.out.2.2.2.2.2 2
          have zb3 := HQ.out.2.2.2.2.2 3
          obtain ⟨W4, hWW4⟩ : ∃ xw9, ((((W3.setCell ⟨qb, 0, none⟩ (.int .i64 xb.1)).setCell ⟨qb, 1, none⟩ (.float .f64 xb.2.1)).setCell ⟨qb, 2, none⟩ (.int .i32 xb.2.2.1)).setCell ⟨qb, 3, none⟩ (sb2)) = xw9 := ⟨_, rfl⟩
          replace HQ := Lib.hid (show Blk4 W4 qb (.int .i64 xb.1) (.float .f64 xb.2.1) (.int .i32 xb.2.2.1) (sb2) by rw [← hWW4]; exact ((((HQ.out.set0 _).set1 _).set2 _).set3 _))
          replace HP := Lib.hid (show Blk4 W4 pb _ _ _ _ by rw [← hWW4]; exact ((((HP.out.other ⟨qb, 0, none⟩ HNE.out _).other ⟨qb, 1, none⟩ HNE.out _).other ⟨qb, 2, none⟩ HNE.out _).other ⟨qb, 3, none⟩ HNE.out _))
          replace HB2 := Lib.hid (show Below wr.heap.size wr W4 by rw [← hWW4]; exact ((((HB2.out.setCell (p := ⟨qb, 0, none⟩) HQG.out _).setCell (p := ⟨qb, 1, none⟩) HQG.out _).setCell (p := ⟨qb, 2, none⟩) HQG.out _).setCell (p := ⟨qb, 3, none⟩) HQG.out _))
          replace HVA2 := Lib.hid (HVA.out.grow HB2.out)
          replace HVB2 := Lib.hid (HVB.out.grow HB2.out)
          have p1 := HP.out.2.2.1
          have p2 := HP.out.2.2.2.1
          have q1 := HQ.out.2.2.1
          have q2 := HQ.out.2.2.2.1
          have HO9 := Lib.hid (owns_below HO.out HB2.out)
          have HB9 := Lib.hid (HB.out.trans (HB2.out.mono HB.out.size))
          have HSW := Lib.hid HB9.out.size
          rw [HPKa.out, HPKb.out] at HTK
          go_wp2_with fail
          refine (rrone_calls 16 xa.2.1 xb.2.1 _ HFNa.out HFNb.out).mono ?_
          rintro e w' ⟨rfl, rfl⟩
          by_cases he : xa.2.2.1 = xb.2.2.1
          · have heb : (xa.2.2.1 == xb.2.2.1) = true := by simpa using he
            have HEB := Lib.hid heb
            clear he
            have HRV := Lib.hid (show rrV 16 1 1 xa xb = false by unfold rrV; rw [if_neg (by decide), HEB.out]; rfl)
            rw [HRV.out] at HTK
            have HM1 : Hid (k + 1 ≤ maxLen) := Lib.hid (by have := HLT.out; unfold maxLen; omega)
            go_wp2_with (at_builtin; refine wpList_append_own _ rfl _ _ 37 rfl w.heap.size 4 i0 (.bool false) 1 1 Tryz.underlying37 HI0.out.1 HI0.out.2.1 HI0.out.2.2.1 HI0.out.2.2.2 rfl (by decide) _ _ _ rfl (HO9.out.alloc _) ⟨W4.heap.size, 0, none⟩ 1 1 [.bool false] rfl rfl ?c1 ?c2 HM1.out ?c4 ?c5 ?_)
            case c1 =>
              intro j u hj
              match j, hj with
              | 0, hj => simp at hj; subst hj; simp [Addr.add]
            case c2 => intro u hu; simp at hu; subst hu; rfl
            case c4 => omega
            case c5 => have := HSW.out; simp <;> omega
            intro v' w3 hown' hgrow _
            have HO3 := Lib.hid hown'
            have HB3 := Lib.hid (grown_below (HB9.out.alloc HSW.out _) (HO9.out.alloc _) (Nat.le_refl _) (by have := HSW.out; simp <;> omega) hgrow)
            have hlt := HLT.out
            clear hown' hgrow
            go_wp2
            go_roundw
            case rel =>
              refine ⟨k + 1, by omega, by go_num, ?_, HB3.out⟩
              have := HO3.out
              rw [HTK.out]
              simpa [bools] using this
            case measure => simp [intOf]; omega
          · have heb : (xa.2.2.1 == xb.2.2.1) = false := by simpa using he
            have HEB := Lib.hid heb
            clear he
            have HRV := Lib.hid (show rrV 16 1 1 xa xb = true by unfold rrV; rw [if_neg (by decide), HEB.out]; rfl)
            rw [HRV.out] at HTK
            have HM1 : Hid (k + 1 ≤ maxLen) := Lib.hid (by have := HLT.out; unfold maxLen; omega)
            go_wp2_with (at_builtin; refine wpList_append_own _ rfl _ _ 37 rfl w.heap.size 4 i0 (.bool false) 1 1 Tryz.underlying37 HI0.out.1 HI0.out.2.1 HI0.out.2.2.1 HI0.out.2.2.2 rfl (by decide) _ _ _ rfl (HO9.out.alloc _) ⟨W4.heap.size, 0, none⟩ 1 1 [.bool true] rfl rfl ?c1 ?c2 HM1.out ?c4 ?c5 ?_)
            case c1 =>
              intro j u hj
              match j, hj with
              | 0, hj => simp at hj; subst hj; simp [Addr.add]
            case c2 => intro u hu; simp at hu; subst hu; rfl
            case c4 => omega
            case c5 => have := HSW.out; simp <;> omega
            intro v' w3 hown' hgrow _
            have HO3 := Lib.hid hown'
            have HB3 := Lib.hid (grown_below (HB9.out.alloc HSW.out _) (HO9.out.alloc _) (Nat.le_refl _) (by have := HSW.out; simp <;> omega) hgrow)
            have hlt := HLT.out
            clear hown' hgrow
            go_wp2
            go_roundw
            case rel =>
              refine ⟨k + 1, by omega, by go_num, ?_, HB3.out⟩
              have := HO3.out
              rw [HTK.out]
              simpa [bools] using this
            case measure => simp [intOf]; omega
    · have hkn : k = n := by omega
      have HTA := Lib.hid (show bools (R.take k) = bools R by rw [hkn, List.take_of_length_le (Nat.le_of_eq HRL.out)])
      have HKN := Lib.hid hkn
      clear hkn
      go_wp2
      go_ret2
      refine ⟨_, rfl, ?_, HB.out⟩
      have := Slc.owned HO.out
      rw [HTA.out, HKN.out] at this
      rw [HRL.out]
      exact this
end Go.Proofs.YtfbecmnlbjhjaaaGreatDoor

/- Layer 11, plain: what the reference tells of two vectors' items is what the program tells of the vectors. -/
namespace Go.Proofs.YtfbecmnlbjhjaaaGreatDoor
set_option maxRecDepth 100000
open Go.RowKit Fl
set_option linter.unusedVariables false

theorem itsA_fnt {d : Nat} {V : VV} (hok : V.ok) (hn : V.nm) : ∀ p ∈ itsA d V, Fnt p.2.1 := by
  intro p hp
  obtain ⟨i, _, rfl⟩ := List.mem_map.1 hp
  unfold itA
  split
  · exact fin_zero
  · split
    · exact fin_zero
    · show Fnt (atI V.nums 0 (i : Int))
      rcases atI_or V.nums 0 (i : Int) with ⟨k, _, hk, e⟩ | ⟨_, e⟩
      · rw [e]; exact (VV.nums_num hok hn _ (List.getElem_mem hk)).1
      · rw [e]; exact fin_zero
theorem pk_atI {α : Type} (d : α) (l : List α) (i : Nat) : pk d l i = atI l d ((if l.length = 1 then 0 else i : Nat) : Int) := by
  unfold pk atI
  rw [if_pos (Int.natCast_nonneg _), Int.toNat_natCast]
theorem pk_its {d : Nat} {V : VV} {i : Nat} (h : V.len = 1 ∨ i < V.len) : pk dI (itsA d V) i = itA (plA d) V (if V.len = 1 then 0 else i) := by
  unfold pk
  rw [itsA_len, List.getD_eq_getElem?_getD, itsA_get (by split <;> omega)]
  rfl
theorem itA_zero {t : List Int × VV → PA} {V : VV} {i : Nat} (h : V.cls = 0) : itA t V i = (0, atI V.nums 0 (i : Int), 0, []) := by
  unfold itA; rw [if_neg (by rw [h]; decide), if_neg (by rw [h]; decide)]
theorem itA_one {t : List Int × VV → PA} {V : VV} {i : Nat} (h : V.cls = 1) : itA t V i = (1, 0, atI V.text 0 (i : Int), []) := by
  unfold itA; rw [if_pos h]
theorem map_prs {α β γ : Type} {da : α} {db : β} {a b : List α} {a2 b2 : List β} {n : Nat} {g : α × α → γ} {h : β × β → γ} (e : ∀ i, i < n → g (pk da a i, pk da b i) = h (pk db a2 i, pk db b2 i)) : (prs da a b n).map g = (prs db a2 b2 n).map h := by
  unfold prs
  rw [List.map_map, List.map_map]
  exact List.map_congr_left fun i hi => e i (List.mem_range.1 hi)
theorem alw_cls {f : Int} {c : Int} (h : alw f c = true) : c = 0 ∨ (c = 1 ∧ (f = 13 ∨ f = 16)) := of_decide_eq_true h
theorem rrL_its {d : Nat} {f : Int} {A B : VV} (hA : alw f A.cls = true) (hB : alw f B.cls = true) (hg : goesA A.len B.len) : rrL f A.cls B.cls (itsA d A) (itsA d B) = relL f A B (lenN A.len B.len) := by
  unfold rrL
  rw [itsA_len, itsA_len]
  obtain ⟨n, hn⟩ : ∃ n, lenN A.len B.len = n := ⟨_, rfl⟩
  have hin : ∀ i, i < n → (A.len = 1 ∨ i < A.len) ∧ (B.len = 1 ∨ i < B.len) := by intro i hi; rw [← hn] at hi; exact lenN_in hg hi
  rw [hn]
  by_cases hc : A.cls = B.cls
  · rcases alw_cls hA with h0 | ⟨h1, hf⟩
    · rw [← relL_nums f n h0 (hc ▸ h0), ← hc, h0]
      refine map_prs fun i hi => ?_
      obtain ⟨a, b⟩ := hin i hi
      rw [pk_its a, pk_its b, pk_atI 0 A.nums, pk_atI 0 B.nums, VV.nums_len0 h0, VV.nums_len0 (hc ▸ h0), itA_zero h0, itA_zero (hc ▸ h0)]
      exact if_pos ⟨rfl, rfl⟩
    · rw [← relL_text f n h1 (hc ▸ h1), ← hc, h1]
      refine map_prs fun i hi => ?_
      obtain ⟨a, b⟩ := hin i hi
      rw [pk_its a, pk_its b, pk_atI 0 A.text, pk_atI 0 B.text, VV.text_len1 h1, VV.text_len1 (hc ▸ h1), itA_one h1, itA_one (hc ▸ h1)]
      unfold rrV
      rw [if_neg (by decide)]
      obtain ⟨a, ha⟩ : ∃ a, atI A.text 0 ((if A.len = 1 then 0 else i : Nat) : Int) = a := ⟨_, rfl⟩
      obtain ⟨b, hb⟩ : ∃ b, atI B.text 0 ((if B.len = 1 then 0 else i : Nat) : Int) = b := ⟨_, rfl⟩
      rw [ha, hb]
      rcases hf with rfl | rfl <;> by_cases h : a = b <;> simp [relI, h]
  · rw [← relL_apart f n hc]
    have hz : ¬ (A.cls = 0 ∧ B.cls = 0) := fun h => hc (h.1.trans h.2.symm)
    have hf : f = 13 ∨ f = 16 := by
      rcases alw_cls hA with h0 | ⟨_, hf⟩
      · rcases alw_cls hB with h1 | ⟨_, hf⟩
        · exact absurd ⟨h0, h1⟩ hz
        · exact hf
      · exact hf
    have hcb : (A.cls == B.cls) = false := by simpa using hc
    apply List.ext_getElem (by simp [prs_len])
    intro i h1 h2
    simp only [List.getElem_map, List.getElem_replicate]
    unfold rrV
    rw [if_neg hz]
    simp only [hcb, Bool.false_and]
    rcases hf with rfl | rfl <;> rfl
end Go.Proofs.YtfbecmnlbjhjaaaGreatDoor

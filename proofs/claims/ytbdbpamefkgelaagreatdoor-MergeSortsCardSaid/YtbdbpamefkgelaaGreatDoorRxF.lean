/- Layer 17, walked: Bits. -/
import Derived.Test.YtbdbpamefkgelaaGreatDoorRxO
import Derived.Test.YtbdbpamefkgelaaGreatDoorRxE
import Derived.Test.YtbdbpamefkgelaaGreatDoorBxA
namespace Go.Proofs.YtbdbpamefkgelaaGreatDoor
set_option maxRecDepth 100000
open Go.RowKit Fl
set_option linter.unusedVariables false

theorem step_append_any {P : Program} {ops : Array Oper} {o : Oper} {a : Act} {w : World} {K : Act → World → Prop} {Q : Exit → Act → World → Prop} {E : Prop}
    (hg : o.guard = none) (s x : Operand) (t : TypeId) (ho : o.op = .call { callee := .builtin .append, args := #[s, x], argTypes := #[t, t] })
    (base : Nat) (e : TypeId) (i : TypeInfo) (z : Value) (bytes : Nat) (ht : P.underlying t = some (.slice e)) (hi : P.info? e = some i) (hz : i.zero = some z) (hsize : i.size = 1) (hby : i.bytes = bytes) (hzs : z.cells.size = 1)
    (v : Value) (n : Nat) (xs : List Value) (hsv : a.eval s = v) (hown : w.ownsRow base e 1 v n xs) {ok : Nat → Prop} (ao : Option Addr) (m c : Nat) (news : List Value) (hx : a.eval x = .slice ao m c) (hs : Slx w ok (.slice ao m c) m news) (h1 : ∀ u ∈ news, u.oneCell' = true)
    (h63 : n + m ≤ maxLen) (hbytes : (n + m) * bytes ≤ 140737488355328) (hbase : base ≤ w.heap.size)
    (h : ∀ v' w', w'.ownsRow base e 1 v' (n + m) (xs ++ news) → w.grownBy w' v.ownBlock → K (a.put o.dst v') w') :
    if Region.wanted o (yielded ops a.tmps) = true then Oper.wp P o a w K Q else E := by
  have hw : Region.wanted o (yielded ops a.tmps) = true := by simp [Region.wanted, hg]
  rw [if_pos hw]
  obtain ⟨v', w', hr, h2, h3⟩ := run_append_any (P := P) t o.type e i z bytes ht hi hz hsize hby hzs base v n xs hown ao m c news hs h1 h63 hbytes hbase
  have hk := h v' w' h2 h3
  suffices hg : Oper.upon P o a K Q (Result.ok (Next.value v') w') by simpa [Oper.wp, execOp, ho, resolve, invoke, builtin, hsv, hx, hr] using hg
  exact hk
theorem slc_low9 {w : World} {a : Nat} {s : Value} {n : Nat} {xs : List Value} (h : Slc w (fun x => a + 1 ≤ x) s n xs) : Slc w (fun x => a ≤ x) s n xs := h.keep (Kept.refl _ _) (fun x _ h2 => Nat.le_trans (Nat.le_succ a) h2)
theorem sq_not {l : List Bool} {j : Nat} (h : j < l.length) : sq (l.map fun b => !b) j = !(sq l j) := by
  simp [sq, List.getElem?_map, List.getElem?_eq_getElem h]
theorem filt_eq {F G : Nat → Bool} {n : Nat} (h : ∀ j, j < n → F j = G j) : (List.range n).filter F = (List.range n).filter G := List.filter_congr fun j hj => h j (List.mem_range.1 hj)
theorem bs_false (l : List Bool) : zL (bsL l false) = onesTo (sq (l.map fun b => !b)) (l.map fun b => !b).length ++ onesTo (sq l) l.length := by
  rw [bsL_zL, List.length_map, onesTo_zL, onesTo_zL, onesTo_zL, onesTo_zL]
  congr 2
  · exact filt_eq fun j hj => by rw [sq_not hj]; cases sq l j <;> rfl
  · exact filt_eq fun j hj => by cases sq l j <;> rfl
theorem bs_true (l : List Bool) : zL (bsL l true) = onesTo (sq l) l.length ++ onesTo (sq (l.map fun b => !b)) (l.map fun b => !b).length := by
  rw [bsL_zL, List.length_map, onesTo_zL, onesTo_zL, onesTo_zL, onesTo_zL]
  congr 2
  · exact filt_eq fun j hj => by cases sq l j <;> rfl
  · exact filt_eq fun j hj => by rw [sq_not hj]; cases sq l j <;> rfl
set_option maxHeartbeats 8000000 in
theorem rxbits_calls (v : Value) (l : List Bool) (down : Bool) (w : World) (hv : IsBits w v l) (hm : l.length ≤ 1048576) (hT : TabAt w) :
    Calls Tryz.prog 70 #[v, .bool down] w fun e w' => ∃ v, e = .returned v ∧ Slc w' (fun b => w.heap.size ≤ b) v l.length (ints (zL (bsL l down))) ∧ Below w.heap.size w w' := by
  obtain ⟨i0, hi, hz0, hz1, hz2⟩ := info_parts info_int
  have HV0 := Lib.hid hv
  obtain ⟨ao, cap, rfl, _⟩ := hv.opened
  obtain ⟨M, hM⟩ : ∃ M, (l.length + 63) / 64 = M := ⟨_, rfl⟩
  obtain ⟨n, hn⟩ : ∃ n, l.length = n := ⟨_, rfl⟩
  have HN := Lib.hid hn
  have HLM := Lib.hid hm
  have HLN := Lib.hid (show (l.map fun b => !b).length ≤ 1048576 by rw [List.length_map]; exact hm)
  obtain ⟨T, hTT⟩ : ∃ T, onesTo (sq l) l.length = T := ⟨_, rfl⟩
  obtain ⟨F, hF⟩ : ∃ F, onesTo (sq (l.map fun b => !b)) (l.map fun b => !b).length = F := ⟨_, rfl⟩
  have HTT := Lib.hid hTT
  have HFF := Lib.hid hF
  have HE0 := Lib.hid (show zL (bsL l false) = F ++ T by rw [bs_false, hTT, hF])
  have HE1 := Lib.hid (show zL (bsL l true) = T ++ F by rw [bs_true, hTT, hF])
  have HEL := Lib.hid (show F.length + T.length = n by rw [← List.length_append, ← HE0.out, zL_len, bsL_len, hn])
  rw [hM] at HV0 ⊢
  rw [hn] at HV0 ⊢
  obtain ⟨W1, hW1⟩ : ∃ W1, W1 = w.alloc (.cells #[.int .i64 (n : Int), .slice ao M cap] 82) := ⟨_, rfl⟩
  have HB := Lib.hid (show Below w.heap.size w W1 by rw [hW1]; exact below_new _ _)
  have HP := Lib.hid (show At2 W1 w.heap.size (.int .i64 (n : Int)) (.slice ao M cap) by rw [hW1]; exact At2.new w _ _ _)
  have HV := Lib.hid (show IsBits W1 (.agg #[.int .i64 (n : Int), .slice ao M cap]) l from HV0.out.keep (keep_below HB.out))
  have HT := Lib.hid (show TabAt W1 from fun j hj => keep_below HB.out _ _ (hT j hj))
  have hfold := hW1.symm
  clear hv hW1 hT hM hn hTT hF hm HV0
  cases down
  · have cHP0 := HP.out.2.1
    have cHP1 := HP.out.2.2.1
    go_enter Tryz.func70, Tryz.ntmps70
    go_wp2_with fail
    clear hfold
    obtain ⟨W11, hWD⟩ : ∃ xw9, W1.drew = xw9 := ⟨_, rfl⟩
    have hB : Below W1.heap.size W1 W11 := by rw [← hWD]; exact Below.drewN' (Below.refl _ _) 1
    clear cHP0 cHP1
    replace HP := Lib.hid (HP.out.below hB)
    replace HB := Lib.hid (HB.out.trans (hB.mono HB.out.size))
    replace HV := Lib.hid (HV.out.keep (keep_below hB))
    replace HT := Lib.hid (fun j hj => keep_below hB _ _ (HT.out j hj))
    clear hB
    refine wp_region_held_drew (S := fun w' => w'.cell? ⟨w.heap.size, 0, none⟩ = some (.int .i64 (n : Int)) ∧ w'.cell? ⟨w.heap.size, 1, none⟩ = some (.slice ao M cap)) (by kernel_rfl) (by rw [hWD]; exact ⟨HP.out.2.1, HP.out.2.2.1⟩) (fun hHeld => ?_)
    rw [hWD] at hHeld ⊢
    clear hWD
    refine wpAnyH_take (i := 0) (v := ?_) rfl (by kernel_rfl) (by kernel_rfl) (by kernel_rfl) (fun _ _ _ h => h) (Or.inl ⟨by rfl, ?_⟩) (by assumption) ?_
    rotate_left
    · (intro w hSw; (try dsimp only at hSw); go_simp; try with_reducible rfl)
    simp only [Act.put, List.getElem_toArray, List.getElem_cons_zero, List.setIfInBounds_toArray, List.set_cons_zero, List.set_cons_succ]
    refine wpAnyH_take (i := 3) (v := ?_) rfl (by kernel_rfl) (by kernel_rfl) (by kernel_rfl) (fun _ _ _ h => h) (Or.inl ⟨by rfl, ?_⟩) (by assumption) ?_
    rotate_left
    · (intro w hSw; (try dsimp only at hSw); go_simp; try with_reducible rfl)
    simp only [Act.put, List.getElem_toArray, List.getElem_cons_succ, List.getElem_cons_zero, List.setIfInBounds_toArray, List.set_cons_zero, List.set_cons_succ]
    refine wpAnyH_ready (rs := [1]) (by kernel_rfl) (by simp) ?_
    refine AllReadyH.cons (o := _) rfl (fun K hK => ?_) ?_
    · clear hHeld
      go_simp
      refine (not_calls _ l _ HV.out HLM.out).mono ?_
      rintro e W12 ⟨vb, rfl, hvb, hB⟩
      replace HP := Lib.hid (HP.out.below hB)
      replace HB := Lib.hid (HB.out.trans (hB.mono HB.out.size))
      replace HV := Lib.hid (HV.out.keep (keep_below hB))
      replace HT := Lib.hid (fun j hj => keep_below hB _ _ (HT.out j hj))
      have HNB := Lib.hid hvb
      clear hvb
      clear hB
      refine hK.out _ _ ?_ (fun hHeld => ?_)
      · exact ⟨HP.out.2.1, HP.out.2.2.1⟩
      clear hK K
      refine wpAnyH_ready (rs := [2]) (by kernel_rfl) (by simp) ?_
      refine AllReadyH.cons (o := _) rfl (fun K hK => ?_) ?_
      · clear hHeld
        go_simp
        have hq9 := HP.out.1
        refine (ones_own _ (l.map fun b => !b) _ HNB.out HLN.out HT.out).mono ?_
        rintro e W13 ⟨vn, rfl, vnh, hB⟩
        replace HP := Lib.hid (HP.out.below hB)
        replace HB := Lib.hid (HB.out.trans (hB.mono HB.out.size))
        replace HV := Lib.hid (HV.out.keep (keep_below hB))
        replace HT := Lib.hid (fun j hj => keep_below hB _ _ (HT.out j hj))
        replace HNB := Lib.hid (HNB.out.keep (keep_below hB))
        rw [HFF.out] at vnh
        have HON := Lib.hid (own_lower vnh (show w.heap.size + 1 ≤ W12.heap.size by omega))
        obtain ⟨vno, vnc, rfl, _⟩ := (Slc.owned vnh).opened
        clear vnh hq9
        clear hB
        refine hK.out _ _ ?_ (fun hHeld => ?_)
        · exact ⟨HP.out.2.1, HP.out.2.2.1⟩
        clear hK K
        refine wpAnyH_ready (rs := [4]) (by kernel_rfl) (by simp) ?_
        refine AllReadyH.cons (o := _) rfl (fun K hK => ?_) ?_
        · clear hHeld
          go_simp
          have hq9 := HP.out.1
          refine (ones_own _ l _ HV.out HLM.out HT.out).mono ?_
          rintro e W14 ⟨vp, rfl, vph, hB⟩
          replace HP := Lib.hid (HP.out.below hB)
          replace HB := Lib.hid (HB.out.trans (hB.mono HB.out.size))
          replace HV := Lib.hid (HV.out.keep (keep_below hB))
          replace HT := Lib.hid (fun j hj => keep_below hB _ _ (HT.out j hj))
          replace HNB := Lib.hid (HNB.out.keep (keep_below hB))
          replace HON := Lib.hid (owns_below HON.out hB)
          rw [HTT.out] at vph
          have HOP := Lib.hid (own_lower vph (show w.heap.size + 1 ≤ W13.heap.size by omega))
          obtain ⟨vpo, vpc, rfl, _⟩ := (Slc.owned vph).opened
          clear vph hq9
          clear hB
          refine hK.out _ _ ?_ (fun hHeld => ?_)
          · exact ⟨HP.out.2.1, HP.out.2.2.1⟩
          clear hK K
          refine wpAnyH_ready (rs := [5]) (by kernel_rfl) (by simp) ?_
          refine AllReadyH.cons (o := _) rfl (fun K hK => ?_) ?_
          · clear hHeld
            have hq9 := HP.out.1
            have hql := HEL.out
            have hqm := HLM.out
            rw [HN.out] at hqm
            refine step_append_any rfl _ _ 24 rfl (w.heap.size + 1) 3 i0 (.int .i64 0) 8 Tryz.underlying24 hi hz0 hz1 hz2 rfl _ F.length (ints F) rfl HON.out vpo T.length vpc (ints T) rfl (Slc.owned HOP.out).1 (ints_one1 _) (by unfold maxLen; omega) (by omega) (by omega) ?_
            intro vr wr hownr hgrowr
            have HR := Lib.hid hownr
            replace HP := Lib.hid (HP.out.grown hgrowr (fun e => by have := (HON.out.lt _ e.symm).1; omega))
            replace HB := Lib.hid (grown_below HB.out HON.out (by omega) (by omega) hgrowr)
            clear hownr hgrowr hq9 hql hqm
            refine hK.out _ _ ?_ (fun hHeld => ?_)
            · exact ⟨HP.out.2.1, HP.out.2.2.1⟩
            clear hK K
            refine wpAnyH_take (i := 6) (v := ?_) rfl (by kernel_rfl) (by kernel_rfl) (by kernel_rfl) (fun _ _ _ h => h) (Or.inl ⟨by rfl, ?_⟩) (by assumption) ?_
            rotate_left
            · (intro w hSw; (try dsimp only at hSw); go_simp; try with_reducible rfl)
            simp only [Act.put, List.getElem_toArray, List.getElem_cons_succ, List.getElem_cons_zero, List.setIfInBounds_toArray, List.set_cons_zero, List.set_cons_succ]
            refine wpAnyH_done (by kernel_rfl) ?_ _
            clear hHeld
            go_wp2_with fail
            go_ret
            refine ⟨_, rfl, ?_, HB.out⟩
            have h9 := slc_low9 (Slc.owned HR.out)
            rw [HE0.out, ints_append2, ← HEL.out]
            exact h9
          exact AllReadyH.nil
        exact AllReadyH.nil
      exact AllReadyH.nil
    exact AllReadyH.nil
  · have cHP0 := HP.out.2.1
    have cHP1 := HP.out.2.2.1
    go_enter Tryz.func70, Tryz.ntmps70
    go_wp2_with fail
    clear hfold
    obtain ⟨W11, hWD⟩ : ∃ xw9, W1.drew = xw9 := ⟨_, rfl⟩
    have hB : Below W1.heap.size W1 W11 := by rw [← hWD]; exact Below.drewN' (Below.refl _ _) 1
    clear cHP0 cHP1
    replace HP := Lib.hid (HP.out.below hB)
    replace HB := Lib.hid (HB.out.trans (hB.mono HB.out.size))
    replace HV := Lib.hid (HV.out.keep (keep_below hB))
    replace HT := Lib.hid (fun j hj => keep_below hB _ _ (HT.out j hj))
    clear hB
    refine wp_region_held_drew (S := fun w' => w'.cell? ⟨w.heap.size, 0, none⟩ = some (.int .i64 (n : Int)) ∧ w'.cell? ⟨w.heap.size, 1, none⟩ = some (.slice ao M cap)) (by kernel_rfl) (by rw [hWD]; exact ⟨HP.out.2.1, HP.out.2.2.1⟩) (fun hHeld => ?_)
    rw [hWD] at hHeld ⊢
    clear hWD
    refine wpAnyH_take (i := 0) (v := ?_) rfl (by kernel_rfl) (by kernel_rfl) (by kernel_rfl) (fun _ _ _ h => h) (Or.inl ⟨by rfl, ?_⟩) (by assumption) ?_
    rotate_left
    · (intro w hSw; (try dsimp only at hSw); go_simp; try with_reducible rfl)
    simp only [Act.put, List.getElem_toArray, List.getElem_cons_zero, List.setIfInBounds_toArray, List.set_cons_zero, List.set_cons_succ]
    refine wpAnyH_take (i := 2) (v := ?_) rfl (by kernel_rfl) (by kernel_rfl) (by kernel_rfl) (fun _ _ _ h => h) (Or.inl ⟨by rfl, ?_⟩) (by assumption) ?_
    rotate_left
    · (intro w hSw; (try dsimp only at hSw); go_simp; try with_reducible rfl)
    simp only [Act.put, List.getElem_toArray, List.getElem_cons_succ, List.getElem_cons_zero, List.setIfInBounds_toArray, List.set_cons_zero, List.set_cons_succ]
    refine wpAnyH_ready (rs := [1]) (by kernel_rfl) (by simp) ?_
    refine AllReadyH.cons (o := _) rfl (fun K hK => ?_) ?_
    · clear hHeld
      go_simp
      have hq9 := HP.out.1
      refine (ones_own _ l _ HV.out HLM.out HT.out).mono ?_
      rintro e W12 ⟨vp, rfl, vph, hB⟩
      replace HP := Lib.hid (HP.out.below hB)
      replace HB := Lib.hid (HB.out.trans (hB.mono HB.out.size))
      replace HV := Lib.hid (HV.out.keep (keep_below hB))
      replace HT := Lib.hid (fun j hj => keep_below hB _ _ (HT.out j hj))
      rw [HTT.out] at vph
      have HOP := Lib.hid (own_lower vph (show w.heap.size + 1 ≤ W11.heap.size by omega))
      obtain ⟨vpo, vpc, rfl, _⟩ := (Slc.owned vph).opened
      clear vph hq9
      clear hB
      refine hK.out _ _ ?_ (fun hHeld => ?_)
      · exact ⟨HP.out.2.1, HP.out.2.2.1⟩
      clear hK K
      refine wpAnyH_ready (rs := [3]) (by kernel_rfl) (by simp) ?_
      refine AllReadyH.cons (o := _) rfl (fun K hK => ?_) ?_
      · clear hHeld
        go_simp
        refine (not_calls _ l _ HV.out HLM.out).mono ?_
        rintro e W13 ⟨vb, rfl, hvb, hB⟩
        replace HP := Lib.hid (HP.out.below hB)
        replace HB := Lib.hid (HB.out.trans (hB.mono HB.out.size))
        replace HV := Lib.hid (HV.out.keep (keep_below hB))
        replace HT := Lib.hid (fun j hj => keep_below hB _ _ (HT.out j hj))
        replace HOP := Lib.hid (owns_below HOP.out hB)
        have HNB := Lib.hid hvb
        clear hvb
        clear hB
        refine hK.out _ _ ?_ (fun hHeld => ?_)
        · exact ⟨HP.out.2.1, HP.out.2.2.1⟩
        clear hK K
        refine wpAnyH_ready (rs := [4]) (by kernel_rfl) (by simp) ?_
        refine AllReadyH.cons (o := _) rfl (fun K hK => ?_) ?_
        · clear hHeld
          go_simp
          have hq9 := HP.out.1
          refine (ones_own _ (l.map fun b => !b) _ HNB.out HLN.out HT.out).mono ?_
          rintro e W14 ⟨vn, rfl, vnh, hB⟩
          replace HP := Lib.hid (HP.out.below hB)
          replace HB := Lib.hid (HB.out.trans (hB.mono HB.out.size))
          replace HV := Lib.hid (HV.out.keep (keep_below hB))
          replace HT := Lib.hid (fun j hj => keep_below hB _ _ (HT.out j hj))
          replace HOP := Lib.hid (owns_below HOP.out hB)
          replace HNB := Lib.hid (HNB.out.keep (keep_below hB))
          rw [HFF.out] at vnh
          have HON := Lib.hid (own_lower vnh (show w.heap.size + 1 ≤ W13.heap.size by omega))
          obtain ⟨vno, vnc, rfl, _⟩ := (Slc.owned vnh).opened
          clear vnh hq9
          clear hB
          refine hK.out _ _ ?_ (fun hHeld => ?_)
          · exact ⟨HP.out.2.1, HP.out.2.2.1⟩
          clear hK K
          refine wpAnyH_ready (rs := [5]) (by kernel_rfl) (by simp) ?_
          refine AllReadyH.cons (o := _) rfl (fun K hK => ?_) ?_
          · clear hHeld
            have hq9 := HP.out.1
            have hql := HEL.out
            have hqm := HLM.out
            rw [HN.out] at hqm
            refine step_append_any rfl _ _ 24 rfl (w.heap.size + 1) 3 i0 (.int .i64 0) 8 Tryz.underlying24 hi hz0 hz1 hz2 rfl _ T.length (ints T) rfl HOP.out vno F.length vnc (ints F) rfl (Slc.owned HON.out).1 (ints_one1 _) (by unfold maxLen; omega) (by omega) (by omega) ?_
            intro vr wr hownr hgrowr
            have HR := Lib.hid hownr
            replace HP := Lib.hid (HP.out.grown hgrowr (fun e => by have := (HOP.out.lt _ e.symm).1; omega))
            replace HB := Lib.hid (grown_below HB.out HOP.out (by omega) (by omega) hgrowr)
            clear hownr hgrowr hq9 hql hqm
            refine hK.out _ _ ?_ (fun hHeld => ?_)
            · exact ⟨HP.out.2.1, HP.out.2.2.1⟩
            clear hK K
            refine wpAnyH_take (i := 6) (v := ?_) rfl (by kernel_rfl) (by kernel_rfl) (by kernel_rfl) (fun _ _ _ h => h) (Or.inl ⟨by rfl, ?_⟩) (by assumption) ?_
            rotate_left
            · (intro w hSw; (try dsimp only at hSw); go_simp; try with_reducible rfl)
            simp only [Act.put, List.getElem_toArray, List.getElem_cons_succ, List.getElem_cons_zero, List.setIfInBounds_toArray, List.set_cons_zero, List.set_cons_succ]
            refine wpAnyH_done (by kernel_rfl) ?_ _
            clear hHeld
            go_wp2_with fail
            go_ret
            refine ⟨_, rfl, ?_, HB.out⟩
            have h9 := slc_low9 (Slc.owned HR.out)
            rw [HE1.out, ints_append2, ← HEL.out]
            rw [Nat.add_comm]
            exact h9
          exact AllReadyH.nil
        exact AllReadyH.nil
      exact AllReadyH.nil
    exact AllReadyH.nil
end Go.Proofs.YtbdbpamefkgelaaGreatDoor

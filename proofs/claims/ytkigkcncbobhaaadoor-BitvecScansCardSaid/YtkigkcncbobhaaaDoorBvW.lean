/- BitvecScans, walked. -/
import Derived.Test.YtkigkcncbobhaaaDoorBvT
import Derived.Deep.RegionLaw
import Derived.Deep.RegionHeld3
namespace Go.Proofs.YtkigkcncbobhaaaDoor
open Go.RowKit
set_option linter.unusedVariables false
set_option maxRecDepth 100000

theorem undrew {w w1 : World} (h : Below w.drew.heap.size w.drew w1) : Below w.heap.size w w1 := ⟨h.os, h.tape, h.output, h.size, h.block⟩
theorem pfx_cnt (F : Nat → Bool) : ∀ n, pfx F n = decide (cnt F n % 2 = 1)
  | 0 => rfl
  | n + 1 => by
    rw [pfx, pfx_cnt F n, cnt]
    cases F n
    · simp
    · have : cnt F n % 2 = 0 ∨ cnt F n % 2 = 1 := by omega
      rcases this with h | h
      · have h2 : (cnt F n + 1) % 2 = 1 := by omega
        simp [h, h2]
      · have h2 : (cnt F n + 1) % 2 = 0 := by omega
        simp [h, h2]

set_option maxHeartbeats 4000000 in
theorem scans_calls (v : Value) (l : List Bool) (w : World) (hv : RowC w v (bools l)) (hl : l.length ≤ maxLen) (hT : TabAt w) :
    Calls Tryd.prog 6 #[v] w fun e w' => e = .returned (.bool true) ∧ Below w.heap.size w w' := by
  unfold maxLen at hl
  have HT := Lib.hid hT
  have HS := Lib.hid (hv.1.sl)
  obtain ⟨ao, cap, rfl, hcap, hcm, hcells⟩ := hv.opened
  rw [bools_len] at HS hcap ⊢
  clear hv hT hcells
  by_cases hbig : 2000 < l.length
  · go_enter Tryd.func6, Tryd.ntmps6
    go_wp2_with fail
    refine (awake_calls w HT.out).mono ?_
    rintro e w1 ⟨rfl, hB⟩
    have HB := Lib.hid hB
    clear hB
    go_wp2
    go_ret
    exact ⟨rfl, HB.out⟩
  · have hl2 : l.length ≤ 1048576 := by omega
    have hcnt := cnt_le (sq l) l.length
    have hodd : l.length ≠ 0 → sqI (oddL l l.length) ((l.length : Int) - 1) = ((cnt (sq l) l.length : Int) % 2 == 1) := (fun h0 => by
      have e1 : sqI (oddL l l.length) ((l.length : Int) - 1) = pfx (sq l) l.length := by
        obtain ⟨n, hn⟩ := Nat.exists_eq_succ_of_ne_zero h0
        rw [hn, Nat.succ_eq_add_one]
        have : ((n + 1 : Nat) : Int) - 1 = (n : Int) := by omega
        rw [this]
        simp [sqI, sq, oddL]
      rw [e1, pfx_cnt, Bool.eq_iff_iff, beq_iff_eq, decide_eq_true_iff]
      omega)
    by_cases hz : l.length = 0
    · have hzb : ((l.length : Int) == 0) = true := by rw [hz]; rfl
      clear hz hodd
      go_enter Tryd.func6, Tryd.ntmps6
      go_wp2_with fail
      refine (pack_calls _ l w HS.out hl2).mono ?_
      rintro e w1 ⟨v1, rfl, hb, hB⟩
      obtain ⟨bo, bcap, rfl, _⟩ := hb.opened
      obtain ⟨L, hL⟩ : ∃ L, (l.length + 63) / 64 = L := ⟨_, rfl⟩
      rw [hL] at hb ⊢
      obtain ⟨W0, hW0⟩ : ∃ W0, W0 = w1.alloc (.cells #[.int .i64 l.length, .slice bo L bcap] 26) := ⟨_, rfl⟩
      have HP1 : Hid (At2 W0 w1.heap.size (.int .i64 l.length) (.slice bo L bcap)) := Lib.hid (by rw [hW0]; exact At2.new _ _ _ _)
      have HVl1 : Hid (IsBits W0 (.agg #[.int .i64 l.length, .slice bo L bcap]) l) := Lib.hid (by rw [hW0]; exact hb.keep (keep_alloc _ _))
      have HB1 : Hid (Below w.heap.size w W0) := Lib.hid (by rw [hW0]; exact (hB.alloc hB.size _))
      have hp := HP1.out
      clear hb hB hL
      go_wp2
      rw [← hW0]
      clear hW0
      obtain ⟨pl, p0, p1, pf⟩ := hp
      clear pf
      refine wp_region_held_drew (S := (fun w' => w'.cell? ⟨w1.heap.size, 0, none⟩ = some (.int .i64 (l.length : Int)) ∧ w'.cell? ⟨w1.heap.size, 1, none⟩ = some (.slice bo L bcap))) (by kernel_rfl) ⟨p0, p1⟩ (fun hHeld => ?_)
      refine wpAnyH_take (i := 0) (v := ?_) rfl (by kernel_rfl) (by kernel_rfl) (by kernel_rfl) (fun _ _ _ h => h) (Or.inl ⟨by rfl, ?_⟩) (by assumption) ?_
      rotate_left
      · (intro w hSw; (try dsimp only at hSw); go_simp; try with_reducible rfl)
      simp only [Act.put, List.getElem_toArray, List.getElem_cons_zero, List.setIfInBounds_toArray, List.set_cons_zero, List.set_cons_succ]
      refine wpAnyH_take (i := 2) (v := ?_) rfl (by kernel_rfl) (by kernel_rfl) (by kernel_rfl) (fun _ _ _ h => h) (Or.inl ⟨by rfl, ?_⟩) (by assumption) ?_
      rotate_left
      · (intro w hSw; (try dsimp only at hSw); go_simp; try with_reducible rfl)
      simp only [Act.put, List.getElem_toArray, List.getElem_cons_succ, List.getElem_cons_zero, List.setIfInBounds_toArray, List.set_cons_zero, List.set_cons_succ]
      refine wpAnyH_ready (rs := [1]) (by kernel_rfl) (by simp) ?_
      refine AllReadyH.cons (o := _) rfl (fun K hK => ?_) AllReadyH.nil
      go_simp
      (go_at_call 27; refine (parity_calls _ l _ ?_ hl2).mono ?_; exact HVl1.out; rintro e w2 ⟨v2, rfl, hb, hB⟩; have HVl2 := Lib.hid (HVl1.out.keep (keep_below (undrew hB))); have HP2 := Lib.hid (HP1.out.below (undrew hB)); have HB2 := Lib.hid (bthen' HB1.out (undrew hB)); have HQ2 : Hid (IsBits w2 v2 (oddL l l.length)) := Lib.hid hb; clear hb hB)
      try go_simp
      refine hK.out _ _ ?_ (fun hHeld => ?_)
      · exact ⟨HP2.out.2.1, HP2.out.2.2.1⟩
      clear hK K
      refine wpAnyH_ready (rs := [3]) (by kernel_rfl) (by simp) ?_
      refine AllReadyH.cons (o := _) rfl (fun K hK => ?_) AllReadyH.nil
      go_simp
      (go_at_call_of 28 (Value.bool true); refine (rscan_odd _ l _ ?_ hl2).mono ?_; exact HS.out.keep (keep_below HB2.out); rintro e w3 ⟨s3, rfl, hs, hB⟩; have HVl3 := Lib.hid (HVl2.out.keep (keep_below hB)); have HP3 := Lib.hid (HP2.out.below hB); have HB3 := Lib.hid (bthen' HB2.out hB); have HQ3 := Lib.hid (HQ2.out.keep (keep_below hB)); have HR3 : Hid (Sl w3 s3 (oddL l l.length).length (bools (oddL l l.length))) := Lib.hid (by rw [oddL_len]; exact hs); clear hs hB)
      try go_simp
      refine hK.out _ _ ?_ (fun hHeld => ?_)
      · exact ⟨HP3.out.2.1, HP3.out.2.2.1⟩
      clear hK K
      refine wpAnyH_ready (rs := [4]) (by kernel_rfl) (by simp) ?_
      refine AllReadyH.cons (o := _) rfl (fun K hK => ?_) AllReadyH.nil
      go_simp
      (go_at_call_of 11 v2; refine (shows_calls _ _ _ _ HQ3.out HR3.out (by rw [oddL_len]; exact hl2)).mono ?_; rintro e w4 ⟨rfl, hB⟩; have HVl4 := Lib.hid (HVl3.out.keep (keep_below hB)); have HP4 := Lib.hid (HP3.out.below hB); have HB4 := Lib.hid (bthen' HB3.out hB); clear hB)
      try go_simp
      refine hK.out _ _ ?_ (fun hHeld => ?_)
      · exact ⟨HP4.out.2.1, HP4.out.2.2.1⟩
      clear hK K
      refine wpAnyH_take (i := 5) (v := ?_) rfl (by kernel_rfl) (by kernel_rfl) (by kernel_rfl) (fun _ _ _ h => h) (Or.inl ⟨by rfl, ?_⟩) (by assumption) ?_
      rotate_left
      · (intro w hSw; (try dsimp only at hSw); go_simp; try with_reducible rfl)
      simp only [Act.put, List.getElem_toArray, List.getElem_cons_succ, List.getElem_cons_zero, List.setIfInBounds_toArray, List.set_cons_zero, List.set_cons_succ]
      refine wpAnyH_take (i := 6) (v := ?_) rfl (by kernel_rfl) (by kernel_rfl) (by kernel_rfl) (fun _ _ _ h => h) (Or.inl ⟨by rfl, ?_⟩) (by assumption) ?_
      rotate_left
      · (intro w hSw; (try dsimp only at hSw); go_simp; try with_reducible rfl)
      simp only [Act.put, List.getElem_toArray, List.getElem_cons_succ, List.getElem_cons_zero, List.setIfInBounds_toArray, List.set_cons_zero, List.set_cons_succ]
      refine wpAnyH_take (i := 8) (v := ?_) rfl (by kernel_rfl) (by kernel_rfl) (by kernel_rfl) (fun _ _ _ h => h) (Or.inl ⟨by rfl, ?_⟩) (by assumption) ?_
      rotate_left
      · (intro w hSw; (try dsimp only at hSw); go_simp; try with_reducible rfl)
      simp only [Act.put, List.getElem_toArray, List.getElem_cons_succ, List.getElem_cons_zero, List.setIfInBounds_toArray, List.set_cons_zero, List.set_cons_succ]
      refine wpAnyH_ready (rs := [7]) (by kernel_rfl) (by simp) ?_
      refine AllReadyH.cons (o := _) rfl (fun K hK => ?_) AllReadyH.nil
      go_simp
      (go_at_call 29; refine (fill_calls _ l _ ?_ hl2).mono ?_; exact HVl4.out; rintro e w5 ⟨v5, rfl, hb, hB⟩; have HVl5 := Lib.hid (HVl4.out.keep (keep_below hB)); have HP5 := Lib.hid (HP4.out.below hB); have HB5 := Lib.hid (bthen' HB4.out hB); have HQ5 : Hid (IsBits w5 v5 (anyL l l.length)) := Lib.hid hb; clear hb hB)
      try go_simp
      refine hK.out _ _ ?_ (fun hHeld => ?_)
      · exact ⟨HP5.out.2.1, HP5.out.2.2.1⟩
      clear hK K
      refine wpAnyH_ready (rs := [9]) (by kernel_rfl) (by simp) ?_
      refine AllReadyH.cons (o := _) rfl (fun K hK => ?_) AllReadyH.nil
      go_simp
      (go_at_call_of 28 (Value.bool false); refine (rscan_any _ l _ ?_ hl2).mono ?_; exact HS.out.keep (keep_below HB5.out); rintro e w6 ⟨s6, rfl, hs, hB⟩; have HVl6 := Lib.hid (HVl5.out.keep (keep_below hB)); have HP6 := Lib.hid (HP5.out.below hB); have HB6 := Lib.hid (bthen' HB5.out hB); have HQ6 := Lib.hid (HQ5.out.keep (keep_below hB)); have HR6 : Hid (Sl w6 s6 (anyL l l.length).length (bools (anyL l l.length))) := Lib.hid (by rw [anyL_len]; exact hs); clear hs hB)
      try go_simp
      refine hK.out _ _ ?_ (fun hHeld => ?_)
      · exact ⟨HP6.out.2.1, HP6.out.2.2.1⟩
      clear hK K
      refine wpAnyH_ready (rs := [10]) (by kernel_rfl) (by simp) ?_
      refine AllReadyH.cons (o := _) rfl (fun K hK => ?_) AllReadyH.nil
      go_simp
      (go_at_call_of 11 v5; refine (shows_calls _ _ _ _ HQ6.out HR6.out (by rw [anyL_len]; exact hl2)).mono ?_; rintro e w7 ⟨rfl, hB⟩; have HVl7 := Lib.hid (HVl6.out.keep (keep_below hB)); have HP7 := Lib.hid (HP6.out.below hB); have HB7 := Lib.hid (bthen' HB6.out hB); clear hB)
      try go_simp
      refine hK.out _ _ ?_ (fun hHeld => ?_)
      · exact ⟨HP7.out.2.1, HP7.out.2.2.1⟩
      clear hK K
      refine wpAnyH_take (i := 11) (v := ?_) rfl (by kernel_rfl) (by kernel_rfl) (by kernel_rfl) (fun _ _ _ h => h) (Or.inl ⟨by rfl, ?_⟩) (by assumption) ?_
      rotate_left
      · (intro w hSw; (try dsimp only at hSw); go_simp; try with_reducible rfl)
      simp only [Act.put, List.getElem_toArray, List.getElem_cons_succ, List.getElem_cons_zero, List.setIfInBounds_toArray, List.set_cons_zero, List.set_cons_succ]
      refine wpAnyH_take (i := 12) (v := ?_) rfl (by kernel_rfl) (by kernel_rfl) (by kernel_rfl) (fun _ _ _ h => h) (Or.inl ⟨by rfl, ?_⟩) (by assumption) ?_
      rotate_left
      · (intro w hSw; (try dsimp only at hSw); go_simp; try with_reducible rfl)
      simp only [Act.put, List.getElem_toArray, List.getElem_cons_succ, List.getElem_cons_zero, List.setIfInBounds_toArray, List.set_cons_zero, List.set_cons_succ]
      refine wpAnyH_take (i := 13) (v := ?_) rfl (by kernel_rfl) (by kernel_rfl) (by kernel_rfl) (fun _ _ _ h => h) (Or.inl ⟨by rfl, ?_⟩) (by assumption) ?_
      rotate_left
      · (intro w hSw; (try dsimp only at hSw); go_simp; try with_reducible rfl)
      simp only [Act.put, List.getElem_toArray, List.getElem_cons_succ, List.getElem_cons_zero, List.setIfInBounds_toArray, List.set_cons_zero, List.set_cons_succ]
      refine wpAnyH_take (i := 14) (v := ?_) rfl (by kernel_rfl) (by kernel_rfl) (by kernel_rfl) (fun _ _ _ h => h) (Or.inl ⟨by rfl, ?_⟩) (by assumption) ?_
      rotate_left
      · (intro w hSw; (try dsimp only at hSw); go_simp; try with_reducible rfl)
      simp only [Act.put, List.getElem_toArray, List.getElem_cons_succ, List.getElem_cons_zero, List.setIfInBounds_toArray, List.set_cons_zero, List.set_cons_succ]
      refine wpAnyH_take (i := 15) (v := ?_) rfl (by kernel_rfl) (by kernel_rfl) (by kernel_rfl) (fun _ _ _ h => h) (Or.inl ⟨by rfl, ?_⟩) (by assumption) ?_
      rotate_left
      · (intro w hSw; (try dsimp only at hSw); go_simp; try with_reducible rfl)
      simp only [Act.put, List.getElem_toArray, List.getElem_cons_succ, List.getElem_cons_zero, List.setIfInBounds_toArray, List.set_cons_zero, List.set_cons_succ]
      refine wpAnyH_take (i := 16) (v := ?_) rfl (by kernel_rfl) (by kernel_rfl) (by kernel_rfl) (fun _ _ _ h => h) (Or.inl ⟨by rfl, ?_⟩) (by assumption) ?_
      rotate_left
      · (intro w hSw; (try dsimp only at hSw); go_simp; try with_reducible rfl)
      simp only [Act.put, List.getElem_toArray, List.getElem_cons_succ, List.getElem_cons_zero, List.setIfInBounds_toArray, List.set_cons_zero, List.set_cons_succ]
      refine wpAnyH_take (i := 17) (v := undef) rfl (by kernel_rfl) (by kernel_rfl) (by kernel_rfl) (fun _ _ _ h => h) (Or.inr ⟨by rfl, rfl⟩) (by assumption) ?_
      simp only [Act.put, List.getElem_toArray, List.getElem_cons_succ, List.getElem_cons_zero, List.setIfInBounds_toArray, List.set_cons_zero, List.set_cons_succ]
      refine wpAnyH_take (i := 18) (v := undef) rfl (by kernel_rfl) (by kernel_rfl) (by kernel_rfl) (fun _ _ _ h => h) (Or.inr ⟨by rfl, rfl⟩) (by assumption) ?_
      simp only [Act.put, List.getElem_toArray, List.getElem_cons_succ, List.getElem_cons_zero, List.setIfInBounds_toArray, List.set_cons_zero, List.set_cons_succ]
      refine wpAnyH_take (i := 19) (v := undef) rfl (by kernel_rfl) (by kernel_rfl) (by kernel_rfl) (fun _ _ _ h => h) (Or.inr ⟨by rfl, rfl⟩) (by assumption) ?_
      simp only [Act.put, List.getElem_toArray, List.getElem_cons_succ, List.getElem_cons_zero, List.setIfInBounds_toArray, List.set_cons_zero, List.set_cons_succ]
      refine wpAnyH_take (i := 20) (v := undef) rfl (by kernel_rfl) (by kernel_rfl) (by kernel_rfl) (fun _ _ _ h => h) (Or.inr ⟨by rfl, rfl⟩) (by assumption) ?_
      simp only [Act.put, List.getElem_toArray, List.getElem_cons_succ, List.getElem_cons_zero, List.setIfInBounds_toArray, List.set_cons_zero, List.set_cons_succ]
      refine wpAnyH_take (i := 21) (v := undef) rfl (by kernel_rfl) (by kernel_rfl) (by kernel_rfl) (fun _ _ _ h => h) (Or.inr ⟨by rfl, rfl⟩) (by assumption) ?_
      simp only [Act.put, List.getElem_toArray, List.getElem_cons_succ, List.getElem_cons_zero, List.setIfInBounds_toArray, List.set_cons_zero, List.set_cons_succ]
      refine wpAnyH_take (i := 22) (v := undef) rfl (by kernel_rfl) (by kernel_rfl) (by kernel_rfl) (fun _ _ _ h => h) (Or.inr ⟨by rfl, rfl⟩) (by assumption) ?_
      simp only [Act.put, List.getElem_toArray, List.getElem_cons_succ, List.getElem_cons_zero, List.setIfInBounds_toArray, List.set_cons_zero, List.set_cons_succ]
      refine wpAnyH_take (i := 23) (v := undef) rfl (by kernel_rfl) (by kernel_rfl) (by kernel_rfl) (fun _ _ _ h => h) (Or.inr ⟨by rfl, rfl⟩) (by assumption) ?_
      simp only [Act.put, List.getElem_toArray, List.getElem_cons_succ, List.getElem_cons_zero, List.setIfInBounds_toArray, List.set_cons_zero, List.set_cons_succ]
      refine wpAnyH_take (i := 24) (v := undef) rfl (by kernel_rfl) (by kernel_rfl) (by kernel_rfl) (fun _ _ _ h => h) (Or.inr ⟨by rfl, rfl⟩) (by assumption) ?_
      simp only [Act.put, List.getElem_toArray, List.getElem_cons_succ, List.getElem_cons_zero, List.setIfInBounds_toArray, List.set_cons_zero, List.set_cons_succ]
      refine wpAnyH_take (i := 25) (v := undef) rfl (by kernel_rfl) (by kernel_rfl) (by kernel_rfl) (fun _ _ _ h => h) (Or.inr ⟨by rfl, rfl⟩) (by assumption) ?_
      simp only [Act.put, List.getElem_toArray, List.getElem_cons_succ, List.getElem_cons_zero, List.setIfInBounds_toArray, List.set_cons_zero, List.set_cons_succ]
      refine wpAnyH_take (i := 26) (v := undef) rfl (by kernel_rfl) (by kernel_rfl) (by kernel_rfl) (fun _ _ _ h => h) (Or.inr ⟨by rfl, rfl⟩) (by assumption) ?_
      simp only [Act.put, List.getElem_toArray, List.getElem_cons_succ, List.getElem_cons_zero, List.setIfInBounds_toArray, List.set_cons_zero, List.set_cons_succ]
      refine wpAnyH_take (i := 27) (v := undef) rfl (by kernel_rfl) (by kernel_rfl) (by kernel_rfl) (fun _ _ _ h => h) (Or.inr ⟨by rfl, rfl⟩) (by assumption) ?_
      simp only [Act.put, List.getElem_toArray, List.getElem_cons_succ, List.getElem_cons_zero, List.setIfInBounds_toArray, List.set_cons_zero, List.set_cons_succ]
      refine wpAnyH_take (i := 28) (v := ?_) rfl (by kernel_rfl) (by kernel_rfl) (by kernel_rfl) (fun _ _ _ h => h) (Or.inl ⟨by rfl, ?_⟩) (by assumption) ?_
      rotate_left
      · (intro w hSw; (try dsimp only at hSw); go_simp; try with_reducible rfl)
      simp only [Act.put, List.getElem_toArray, List.getElem_cons_succ, List.getElem_cons_zero, List.setIfInBounds_toArray, List.set_cons_zero, List.set_cons_succ]
      refine wpAnyH_take (i := 29) (v := ?_) rfl (by kernel_rfl) (by kernel_rfl) (by kernel_rfl) (fun _ _ _ h => h) (Or.inl ⟨by rfl, ?_⟩) (by assumption) ?_
      rotate_left
      · (intro w hSw; (try dsimp only at hSw); go_simp; try with_reducible rfl)
      simp only [Act.put, List.getElem_toArray, List.getElem_cons_succ, List.getElem_cons_zero, List.setIfInBounds_toArray, List.set_cons_zero, List.set_cons_succ]
      refine wpAnyH_take (i := 30) (v := ?_) rfl (by kernel_rfl) (by kernel_rfl) (by kernel_rfl) (fun _ _ _ h => h) (Or.inl ⟨by rfl, ?_⟩) (by assumption) ?_
      rotate_left
      · (intro w hSw; (try dsimp only at hSw); go_simp; try with_reducible rfl)
      simp only [Act.put, List.getElem_toArray, List.getElem_cons_succ, List.getElem_cons_zero, List.setIfInBounds_toArray, List.set_cons_zero, List.set_cons_succ]
      refine wpAnyH_ready (rs := [31]) (by kernel_rfl) (by simp) ?_
      refine AllReadyH.cons (o := _) rfl (fun K hK => ?_) AllReadyH.nil
      go_simp
      (go_at_call 9; refine (awake_calls _ ?_).mono ?_; exact (fun j hj => keep_below HB7.out _ _ (HT.out j hj)); rintro e w11 ⟨rfl, hB⟩; have HP11 := Lib.hid (HP7.out.below hB); have HBZ := Lib.hid (bthen' HB7.out hB); clear hB)
      try go_simp
      refine hK.out _ _ ?_ (fun hHeld => ?_)
      · exact ⟨HP11.out.2.1, HP11.out.2.2.1⟩
      clear hK K
      refine wpAnyH_take (i := 32) (v := ?_) rfl (by kernel_rfl) (by kernel_rfl) (by kernel_rfl) (fun _ _ _ h => h) (Or.inl ⟨by rfl, ?_⟩) (by assumption) ?_
      rotate_left
      · (intro w hSw; (try dsimp only at hSw); go_simp; try with_reducible rfl)
      simp only [Act.put, List.getElem_toArray, List.getElem_cons_succ, List.getElem_cons_zero, List.setIfInBounds_toArray, List.set_cons_zero, List.set_cons_succ]
      refine wpAnyH_take (i := 33) (v := ?_) rfl (by kernel_rfl) (by kernel_rfl) (by kernel_rfl) (fun _ _ _ h => h) (Or.inl ⟨by rfl, ?_⟩) (by assumption) ?_
      rotate_left
      · (intro w hSw; (try dsimp only at hSw); go_simp; try with_reducible rfl)
      simp only [Act.put, List.getElem_toArray, List.getElem_cons_succ, List.getElem_cons_zero, List.setIfInBounds_toArray, List.set_cons_zero, List.set_cons_succ]
      refine wpAnyH_done (by kernel_rfl) ?_ _
      go_wp2
      go_ret
      exact ⟨rfl, HBZ.out⟩
    · have hzb : ((l.length : Int) == 0) = false := by rw [beq_eq_false_iff_ne]; omega
      have hod := hodd hz
      obtain ⟨c, hc⟩ : ∃ c, cnt (sq l) l.length = c := ⟨_, rfl⟩
      rw [hc] at hod hcnt
      have HC := Lib.hid hc
      have qs : IntKind.i64.wrap ((l.length : Int) - 1) = (l.length : Int) - 1 := IntWalk.i64_in _ (by omega)
      clear hz hodd hc
      by_cases hp2 : c % 2 = 1
      · have hr : (c : Int) % 2 = 1 := by omega
        have hr2 : (c : Int).tmod 2 = 1 := by rw [Int.tmod_eq_emod_of_nonneg (by omega)]; omega
        have HOD : Hid (sqI (oddL l l.length) ((l.length : Int) - 1) = true) := Lib.hid (by rw [hod, hr]; rfl)
        clear hod hp2
        go_enter Tryd.func6, Tryd.ntmps6
        go_wp2_with fail
        refine (pack_calls _ l w HS.out hl2).mono ?_
        rintro e w1 ⟨v1, rfl, hb, hB⟩
        obtain ⟨bo, bcap, rfl, _⟩ := hb.opened
        obtain ⟨L, hL⟩ : ∃ L, (l.length + 63) / 64 = L := ⟨_, rfl⟩
        rw [hL] at hb ⊢
        obtain ⟨W0, hW0⟩ : ∃ W0, W0 = w1.alloc (.cells #[.int .i64 l.length, .slice bo L bcap] 26) := ⟨_, rfl⟩
        have HP1 : Hid (At2 W0 w1.heap.size (.int .i64 l.length) (.slice bo L bcap)) := Lib.hid (by rw [hW0]; exact At2.new _ _ _ _)
        have HVl1 : Hid (IsBits W0 (.agg #[.int .i64 l.length, .slice bo L bcap]) l) := Lib.hid (by rw [hW0]; exact hb.keep (keep_alloc _ _))
        have HB1 : Hid (Below w.heap.size w W0) := Lib.hid (by rw [hW0]; exact (hB.alloc hB.size _))
        have hp := HP1.out
        clear hb hB hL
        go_wp2
        rw [← hW0]
        clear hW0
        obtain ⟨pl, p0, p1, pf⟩ := hp
        clear pf
        go_region_held3 (fun w' => w'.cell? ⟨w1.heap.size, 0, none⟩ = some (.int .i64 (l.length : Int)) ∧ w'.cell? ⟨w1.heap.size, 1, none⟩ = some (.slice bo L bcap))
          ((first | exact ⟨p0, p1⟩ | exact ⟨HP2.out.2.1, HP2.out.2.2.1⟩ | exact ⟨HP3.out.2.1, HP3.out.2.2.1⟩ | exact ⟨HP4.out.2.1, HP4.out.2.2.1⟩ | exact ⟨HP5.out.2.1, HP5.out.2.2.1⟩ | exact ⟨HP6.out.2.1, HP6.out.2.2.1⟩ | exact ⟨HP7.out.2.1, HP7.out.2.2.1⟩ | exact ⟨HP8.out.2.1, HP8.out.2.2.1⟩ | exact ⟨HP9.out.2.1, HP9.out.2.2.1⟩ | exact ⟨HP10.out.2.1, HP10.out.2.2.1⟩ | exact ⟨HP11.out.2.1, HP11.out.2.2.1⟩ | go_keep))
          ((first
          | (go_at_call 27; refine (parity_calls _ l _ ?_ hl2).mono ?_; exact HVl1.out; rintro e w2 ⟨v2, rfl, hb, hB⟩; have HVl2 := Lib.hid (HVl1.out.keep (keep_below (undrew hB))); have HP2 := Lib.hid (HP1.out.below (undrew hB)); have HB2 := Lib.hid (bthen' HB1.out (undrew hB)); have HQ2 : Hid (IsBits w2 v2 (oddL l l.length)) := Lib.hid hb; clear hb hB)
          | (go_at_call_of 28 (Value.bool true); refine (rscan_odd _ l _ ?_ hl2).mono ?_; exact HS.out.keep (keep_below HB2.out); rintro e w3 ⟨s3, rfl, hs, hB⟩; have HVl3 := Lib.hid (HVl2.out.keep (keep_below hB)); have HP3 := Lib.hid (HP2.out.below hB); have HB3 := Lib.hid (bthen' HB2.out hB); have HQ3 := Lib.hid (HQ2.out.keep (keep_below hB)); have HR3 : Hid (Sl w3 s3 (oddL l l.length).length (bools (oddL l l.length))) := Lib.hid (by rw [oddL_len]; exact hs); clear hs hB)
          | (go_at_call_of 11 v2; refine (shows_calls _ _ _ _ HQ3.out HR3.out (by rw [oddL_len]; exact hl2)).mono ?_; rintro e w4 ⟨rfl, hB⟩; have HVl4 := Lib.hid (HVl3.out.keep (keep_below hB)); have HP4 := Lib.hid (HP3.out.below hB); have HB4 := Lib.hid (bthen' HB3.out hB); clear hB)
          | (go_at_call 29; refine (fill_calls _ l _ ?_ hl2).mono ?_; exact HVl4.out; rintro e w5 ⟨v5, rfl, hb, hB⟩; have HVl5 := Lib.hid (HVl4.out.keep (keep_below hB)); have HP5 := Lib.hid (HP4.out.below hB); have HB5 := Lib.hid (bthen' HB4.out hB); have HQ5 : Hid (IsBits w5 v5 (anyL l l.length)) := Lib.hid hb; clear hb hB)
          | (go_at_call_of 28 (Value.bool false); refine (rscan_any _ l _ ?_ hl2).mono ?_; exact HS.out.keep (keep_below HB5.out); rintro e w6 ⟨s6, rfl, hs, hB⟩; have HVl6 := Lib.hid (HVl5.out.keep (keep_below hB)); have HP6 := Lib.hid (HP5.out.below hB); have HB6 := Lib.hid (bthen' HB5.out hB); have HQ6 := Lib.hid (HQ5.out.keep (keep_below hB)); have HR6 : Hid (Sl w6 s6 (anyL l l.length).length (bools (anyL l l.length))) := Lib.hid (by rw [anyL_len]; exact hs); clear hs hB)
          | (go_at_call_of 11 v5; refine (shows_calls _ _ _ _ HQ6.out HR6.out (by rw [anyL_len]; exact hl2)).mono ?_; rintro e w7 ⟨rfl, hB⟩; have HVl7 := Lib.hid (HVl6.out.keep (keep_below hB)); have HP7 := Lib.hid (HP6.out.below hB); have HB7 := Lib.hid (bthen' HB6.out hB); clear hB)
          | (go_at_call 27; refine (parity_calls _ l _ ?_ hl2).mono ?_; exact HVl7.out; rintro e w8 ⟨v8, rfl, hb, hB⟩; have HVl8 := Lib.hid (HVl7.out.keep (keep_below hB)); have HP8 := Lib.hid (HP7.out.below hB); have HB8 := Lib.hid (bthen' HB7.out hB); have HQ8 : Hid (IsBits w8 v8 (oddL l l.length)) := Lib.hid hb; clear hb hB)
          | (go_at_call 12; refine (at_calls _ (oddL l l.length) _ _ ?_ ?_).mono ?_; exact HQ8.out; (rw [oddL_len]; exact hl2); rintro e w9 ⟨rfl, hB⟩; rw [HOD.out]; have HVl9 := Lib.hid (HVl8.out.keep (keep_below hB)); have HP9 := Lib.hid (HP8.out.below hB); have HB9 := Lib.hid (bthen' HB8.out hB); clear hB)
          | (go_at_call 22; refine (count_calls _ l _ ?_ hl2).mono ?_; exact HVl9.out; rintro e w10 ⟨rfl, hB⟩; rw [HC.out]; have HVl10 := Lib.hid (HVl9.out.keep (keep_below hB)); have HP10 := Lib.hid (HP9.out.below hB); have HB10 := Lib.hid (bthen' HB9.out hB); clear hB)
          | (go_at_call 9; refine (awake_calls _ ?_).mono ?_; exact (fun j hj => keep_below HB10.out _ _ (HT.out j hj)); rintro e w11 ⟨rfl, hB⟩; have HP11 := Lib.hid (HP10.out.below hB); have HBZ := Lib.hid (bthen' HB10.out hB); clear hB)))
        all_goals
          go_wp2
          go_ret
          exact ⟨rfl, HBZ.out⟩
      · have hr : (c : Int) % 2 = 0 := by omega
        have hr2 : (c : Int).tmod 2 = 0 := by rw [Int.tmod_eq_emod_of_nonneg (by omega)]; omega
        have HOD : Hid (sqI (oddL l l.length) ((l.length : Int) - 1) = false) := Lib.hid (by rw [hod, hr]; rfl)
        clear hod hp2
        go_enter Tryd.func6, Tryd.ntmps6
        go_wp2_with fail
        refine (pack_calls _ l w HS.out hl2).mono ?_
        rintro e w1 ⟨v1, rfl, hb, hB⟩
        obtain ⟨bo, bcap, rfl, _⟩ := hb.opened
        obtain ⟨L, hL⟩ : ∃ L, (l.length + 63) / 64 = L := ⟨_, rfl⟩
        rw [hL] at hb ⊢
        obtain ⟨W0, hW0⟩ : ∃ W0, W0 = w1.alloc (.cells #[.int .i64 l.length, .slice bo L bcap] 26) := ⟨_, rfl⟩
        have HP1 : Hid (At2 W0 w1.heap.size (.int .i64 l.length) (.slice bo L bcap)) := Lib.hid (by rw [hW0]; exact At2.new _ _ _ _)
        have HVl1 : Hid (IsBits W0 (.agg #[.int .i64 l.length, .slice bo L bcap]) l) := Lib.hid (by rw [hW0]; exact hb.keep (keep_alloc _ _))
        have HB1 : Hid (Below w.heap.size w W0) := Lib.hid (by rw [hW0]; exact (hB.alloc hB.size _))
        have hp := HP1.out
        clear hb hB hL
        go_wp2
        rw [← hW0]
        clear hW0
        obtain ⟨pl, p0, p1, pf⟩ := hp
        clear pf
        go_region_held3 (fun w' => w'.cell? ⟨w1.heap.size, 0, none⟩ = some (.int .i64 (l.length : Int)) ∧ w'.cell? ⟨w1.heap.size, 1, none⟩ = some (.slice bo L bcap))
          ((first | exact ⟨p0, p1⟩ | exact ⟨HP2.out.2.1, HP2.out.2.2.1⟩ | exact ⟨HP3.out.2.1, HP3.out.2.2.1⟩ | exact ⟨HP4.out.2.1, HP4.out.2.2.1⟩ | exact ⟨HP5.out.2.1, HP5.out.2.2.1⟩ | exact ⟨HP6.out.2.1, HP6.out.2.2.1⟩ | exact ⟨HP7.out.2.1, HP7.out.2.2.1⟩ | exact ⟨HP8.out.2.1, HP8.out.2.2.1⟩ | exact ⟨HP9.out.2.1, HP9.out.2.2.1⟩ | exact ⟨HP10.out.2.1, HP10.out.2.2.1⟩ | exact ⟨HP11.out.2.1, HP11.out.2.2.1⟩ | go_keep))
          ((first
          | (go_at_call 27; refine (parity_calls _ l _ ?_ hl2).mono ?_; exact HVl1.out; rintro e w2 ⟨v2, rfl, hb, hB⟩; have HVl2 := Lib.hid (HVl1.out.keep (keep_below (undrew hB))); have HP2 := Lib.hid (HP1.out.below (undrew hB)); have HB2 := Lib.hid (bthen' HB1.out (undrew hB)); have HQ2 : Hid (IsBits w2 v2 (oddL l l.length)) := Lib.hid hb; clear hb hB)
          | (go_at_call_of 28 (Value.bool true); refine (rscan_odd _ l _ ?_ hl2).mono ?_; exact HS.out.keep (keep_below HB2.out); rintro e w3 ⟨s3, rfl, hs, hB⟩; have HVl3 := Lib.hid (HVl2.out.keep (keep_below hB)); have HP3 := Lib.hid (HP2.out.below hB); have HB3 := Lib.hid (bthen' HB2.out hB); have HQ3 := Lib.hid (HQ2.out.keep (keep_below hB)); have HR3 : Hid (Sl w3 s3 (oddL l l.length).length (bools (oddL l l.length))) := Lib.hid (by rw [oddL_len]; exact hs); clear hs hB)
          | (go_at_call_of 11 v2; refine (shows_calls _ _ _ _ HQ3.out HR3.out (by rw [oddL_len]; exact hl2)).mono ?_; rintro e w4 ⟨rfl, hB⟩; have HVl4 := Lib.hid (HVl3.out.keep (keep_below hB)); have HP4 := Lib.hid (HP3.out.below hB); have HB4 := Lib.hid (bthen' HB3.out hB); clear hB)
          | (go_at_call 29; refine (fill_calls _ l _ ?_ hl2).mono ?_; exact HVl4.out; rintro e w5 ⟨v5, rfl, hb, hB⟩; have HVl5 := Lib.hid (HVl4.out.keep (keep_below hB)); have HP5 := Lib.hid (HP4.out.below hB); have HB5 := Lib.hid (bthen' HB4.out hB); have HQ5 : Hid (IsBits w5 v5 (anyL l l.length)) := Lib.hid hb; clear hb hB)
          | (go_at_call_of 28 (Value.bool false); refine (rscan_any _ l _ ?_ hl2).mono ?_; exact HS.out.keep (keep_below HB5.out); rintro e w6 ⟨s6, rfl, hs, hB⟩; have HVl6 := Lib.hid (HVl5.out.keep (keep_below hB)); have HP6 := Lib.hid (HP5.out.below hB); have HB6 := Lib.hid (bthen' HB5.out hB); have HQ6 := Lib.hid (HQ5.out.keep (keep_below hB)); have HR6 : Hid (Sl w6 s6 (anyL l l.length).length (bools (anyL l l.length))) := Lib.hid (by rw [anyL_len]; exact hs); clear hs hB)
          | (go_at_call_of 11 v5; refine (shows_calls _ _ _ _ HQ6.out HR6.out (by rw [anyL_len]; exact hl2)).mono ?_; rintro e w7 ⟨rfl, hB⟩; have HVl7 := Lib.hid (HVl6.out.keep (keep_below hB)); have HP7 := Lib.hid (HP6.out.below hB); have HB7 := Lib.hid (bthen' HB6.out hB); clear hB)
          | (go_at_call 27; refine (parity_calls _ l _ ?_ hl2).mono ?_; exact HVl7.out; rintro e w8 ⟨v8, rfl, hb, hB⟩; have HVl8 := Lib.hid (HVl7.out.keep (keep_below hB)); have HP8 := Lib.hid (HP7.out.below hB); have HB8 := Lib.hid (bthen' HB7.out hB); have HQ8 : Hid (IsBits w8 v8 (oddL l l.length)) := Lib.hid hb; clear hb hB)
          | (go_at_call 12; refine (at_calls _ (oddL l l.length) _ _ ?_ ?_).mono ?_; exact HQ8.out; (rw [oddL_len]; exact hl2); rintro e w9 ⟨rfl, hB⟩; rw [HOD.out]; have HVl9 := Lib.hid (HVl8.out.keep (keep_below hB)); have HP9 := Lib.hid (HP8.out.below hB); have HB9 := Lib.hid (bthen' HB8.out hB); clear hB)
          | (go_at_call 22; refine (count_calls _ l _ ?_ hl2).mono ?_; exact HVl9.out; rintro e w10 ⟨rfl, hB⟩; rw [HC.out]; have HVl10 := Lib.hid (HVl9.out.keep (keep_below hB)); have HP10 := Lib.hid (HP9.out.below hB); have HB10 := Lib.hid (bthen' HB9.out hB); clear hB)
          | (go_at_call 9; refine (awake_calls _ ?_).mono ?_; exact (fun j hj => keep_below HB10.out _ _ (HT.out j hj)); rintro e w11 ⟨rfl, hB⟩; have HP11 := Lib.hid (HP10.out.below hB); have HBZ := Lib.hid (bthen' HB10.out hB); clear hB)))
        all_goals
          go_wp2
          go_ret
          exact ⟨rfl, HBZ.out⟩

theorem scans_frame (w : World) (v : Value) (l : List Bool) (hr : RowC w v (l.map Value.bool)) (hl : l.length ≤ maxLen) (hT : TabAt w) :
    Calls Tryd.prog 6 #[v] w fun e w' => e = .returned (.bool true) ∧ Below w.heap.size w w' := scans_calls v l w hr hl hT
end Go.Proofs.YtkigkcncbobhaaaDoor

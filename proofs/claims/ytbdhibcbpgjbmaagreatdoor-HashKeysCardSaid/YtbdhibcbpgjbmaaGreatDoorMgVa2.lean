/- Merged: VaV, VaB. -/
import Derived.OpenShut
import Derived.Test.YtbdhibcbpgjbmaaGreatDoorMgVa1
/- Package value, walked: Same. -/
namespace Go.Proofs.YtbdhibcbpgjbmaaGreatDoor
open Go.RowKit Fl
set_option linter.unusedVariables false
set_option maxRecDepth 100000


set_option maxHeartbeats 8000000 in
theorem vsame_step (d : Nat) (ih : VSameAt d) : VSameAt (d + 1) := by
  intro ok ok2 A B sh u sh2 u2 w hg hg2 hA hB
  obtain ⟨s1, V⟩ := A
  obtain ⟨s2, V2⟩ := B
  obtain ⟨hpr, hok, hnm, htl, hbx⟩ := hg
  obtain ⟨hpr2, hok2, hnm2, htl2, hbx2⟩ := hg2
  simp only at hpr hok hnm hbx hpr2 hok2 hnm2 hbx2
  obtain ⟨hs, hv⟩ := hA
  obtain ⟨hs2, hv2⟩ := hB
  simp only at hs hv hs2 hv2
  obtain ⟨so, sc, rfl, _⟩ := hs.opened
  obtain ⟨so2, sc2, rfl, _⟩ := hs2.opened
  have HIH := Lib.hid ih
  have HOK := Lib.hid (And.intro hok hok2)
  have HNM := Lib.hid (And.intro hnm hnm2)
  have HBX := Lib.hid (And.intro hbx hbx2)
  have HLS := Lib.hid (And.intro (prodR_len hpr) (prodR_len hpr2))
  have hvl := (prodR_len hpr).2
  have hvl2 := (prodR_len hpr2).2
  have hsx := hv.store
  have hsx2 := hv2.store
  obtain ⟨W1, hW1⟩ : ∃ W1, W1 = (w.alloc (.cells #[.slice so s1.length sc, u] 38)).alloc (.cells #[.slice so2 s2.length sc2, u2] 38) := ⟨_, rfl⟩
  have HA := Lib.hid (show At2 W1 w.heap.size (.slice so s1.length sc) u by rw [hW1]; exact (At2.new _ _ _ _).below (below_new _ _))
  have HA2 := Lib.hid (show At2 W1 (w.heap.size + 1) (.slice so2 s2.length sc2) u2 by rw [hW1]; have := At2.new (w.alloc (.cells #[.slice so s1.length sc, u] 38)) (.slice so2 s2.length sc2) u2 38; simpa using this)
  have HB := Lib.hid (show Below w.heap.size w W1 by rw [hW1]; exact (below_new _ _).alloc (by simp) _)
  have HV := Lib.hid (hv.grow HB.out)
  have HV2 := Lib.hid (hv2.grow HB.out)
  have HS := Lib.hid (hs.below HB.out)
  have HS2 := Lib.hid (hs2.below HB.out)
  have HFW := Lib.hid hW1.symm
  clear ih hok hok2 hnm hnm2 hbx hbx2 hpr hpr2 htl htl2 hv hv2 hs hs2 hW1
  go_enter Tryz.func141, Tryz.ntmps141
  go_wp2_with fail
  rw [HFW.out]
  by_cases hss : s1 = s2
  rotate_left
  · have HSD := Lib.hid (decide_eq_false hss)
    have HC := Lib.hid (pq_no (p := plA (d + 1) (s1, V)) (q := plA (d + 1) (s2, V2)) (PA.ne_s hss))
    clear hss
    obtain ⟨W11, hWD⟩ : ∃ X, W1.drew = X := ⟨_, rfl⟩
    have hB : Below W1.heap.size W1 W11 := by rw [← hWD]; exact Below.drewN' (Below.refl _ _) 1
    replace HA := Lib.hid (HA.out.below hB)
    replace HA2 := Lib.hid (HA2.out.below hB)
    replace HB := Lib.hid (HB.out.trans (hB.mono HB.out.size))
    replace HV := Lib.hid (HV.out.grow hB)
    replace HV2 := Lib.hid (HV2.out.grow hB)
    replace HS := Lib.hid (HS.out.below hB)
    replace HS2 := Lib.hid (HS2.out.below hB)
    clear hB
    refine wp_region_held_drew (S := fun w' => w'.cell? ⟨w.heap.size, 0, none⟩ = some (.slice so s1.length sc) ∧ w'.cell? ⟨w.heap.size, 1, none⟩ = some (u) ∧ w'.cell? ⟨w.heap.size + 1, 0, none⟩ = some (.slice so2 s2.length sc2) ∧ w'.cell? ⟨w.heap.size + 1, 1, none⟩ = some (u2)) (by kernel_rfl) (by rw [hWD]; exact ⟨HA.out.2.1, HA.out.2.2.1, HA2.out.2.1, HA2.out.2.2.1⟩) (fun hHeld => ?_)
    rw [hWD] at hHeld ⊢
    clear hWD
    refine wpAnyH_take (i := 0) (v := ?_) rfl (by kernel_rfl) (by kernel_rfl) (by kernel_rfl) (fun _ _ _ h => h) (Or.inl ⟨by rfl, ?_⟩) (by assumption) ?_
    rotate_left
    · (intro w hSw; (try dsimp only at hSw); go_simp; try with_reducible rfl)
    simp only [Act.put, List.getElem_toArray, List.getElem_cons_zero, List.setIfInBounds_toArray, List.set_cons_zero, List.set_cons_succ]
    refine wpAnyH_take (i := 1) (v := ?_) rfl (by kernel_rfl) (by kernel_rfl) (by kernel_rfl) (fun _ _ _ h => h) (Or.inl ⟨by rfl, ?_⟩) (by assumption) ?_
    rotate_left
    · (intro w hSw; (try dsimp only at hSw); go_simp; try with_reducible rfl)
    simp only [Act.put, List.getElem_toArray, List.getElem_cons_succ, List.getElem_cons_zero, List.setIfInBounds_toArray, List.set_cons_zero, List.set_cons_succ]
    refine wpAnyH_take (i := 2) (v := ?_) rfl (by kernel_rfl) (by kernel_rfl) (by kernel_rfl) (fun _ _ _ h => h) (Or.inl ⟨by rfl, ?_⟩) (by assumption) ?_
    rotate_left
    · (intro w hSw; (try dsimp only at hSw); go_simp; try with_reducible rfl)
    simp only [Act.put, List.getElem_toArray, List.getElem_cons_succ, List.getElem_cons_zero, List.setIfInBounds_toArray, List.set_cons_zero, List.set_cons_succ]
    refine wpAnyH_take (i := 3) (v := ?_) rfl (by kernel_rfl) (by kernel_rfl) (by kernel_rfl) (fun _ _ _ h => h) (Or.inl ⟨by rfl, ?_⟩) (by assumption) ?_
    rotate_left
    · (intro w hSw; (try dsimp only at hSw); go_simp; try with_reducible rfl)
    simp only [Act.put, List.getElem_toArray, List.getElem_cons_succ, List.getElem_cons_zero, List.setIfInBounds_toArray, List.set_cons_zero, List.set_cons_succ]
    refine wpAnyH_ready (rs := [4]) (by kernel_rfl) (by simp) ?_
    refine AllReadyH.cons (o := _) rfl (fun K hK => ?_) AllReadyH.nil
    clear hHeld
    go_simp
    refine (ssame_calls _ _ s1 s2 _ HS.out (by have := HLS.out.1.1; omega) HS2.out (by have := HLS.out.2.1; omega)).mono ?_
    rintro e W12 ⟨rfl, hB⟩
    replace HA := Lib.hid (HA.out.below hB)
    replace HA2 := Lib.hid (HA2.out.below hB)
    replace HB := Lib.hid (HB.out.trans (hB.mono HB.out.size))
    replace HV := Lib.hid (HV.out.grow hB)
    replace HV2 := Lib.hid (HV2.out.grow hB)
    replace HS := Lib.hid (HS.out.below hB)
    replace HS2 := Lib.hid (HS2.out.below hB)
    rw [HSD.out]
    clear hB
    try go_simp
    refine hK.out _ _ ?_ (fun hHeld => ?_)
    · exact ⟨HA.out.2.1, HA.out.2.2.1, HA2.out.2.1, HA2.out.2.2.1⟩
    clear hK K
    refine wpAnyH_take (i := 5) (v := ?_) rfl (by kernel_rfl) (by kernel_rfl) (by kernel_rfl) (fun _ _ _ h => h) (Or.inl ⟨by rfl, ?_⟩) (by assumption) ?_
    rotate_left
    · (intro w hSw; (try dsimp only at hSw); go_simp; try with_reducible rfl)
    simp only [Act.put, List.getElem_toArray, List.getElem_cons_succ, List.getElem_cons_zero, List.setIfInBounds_toArray, List.set_cons_zero, List.set_cons_succ]
    refine wpAnyH_take (i := 6) (v := ?_) rfl (by kernel_rfl) (by kernel_rfl) (by kernel_rfl) (fun _ _ _ h => h) (Or.inl ⟨by rfl, ?_⟩) (by assumption) ?_
    rotate_left
    · (intro w hSw; (try dsimp only at hSw); go_simp; try with_reducible rfl)
    simp only [Act.put, List.getElem_toArray, List.getElem_cons_succ, List.getElem_cons_zero, List.setIfInBounds_toArray, List.set_cons_zero, List.set_cons_succ]
    refine wpAnyH_take (i := 7) (v := undef) rfl (by kernel_rfl) (by kernel_rfl) (by kernel_rfl) (fun _ _ _ h => h) (Or.inr ⟨by rfl, rfl⟩) (by assumption) ?_
    simp only [Act.put, List.getElem_toArray, List.getElem_cons_succ, List.getElem_cons_zero, List.setIfInBounds_toArray, List.set_cons_zero, List.set_cons_succ]
    refine wpAnyH_take (i := 8) (v := undef) rfl (by kernel_rfl) (by kernel_rfl) (by kernel_rfl) (fun _ _ _ h => h) (Or.inr ⟨by rfl, rfl⟩) (by assumption) ?_
    simp only [Act.put, List.getElem_toArray, List.getElem_cons_succ, List.getElem_cons_zero, List.setIfInBounds_toArray, List.set_cons_zero, List.set_cons_succ]
    refine wpAnyH_take (i := 9) (v := undef) rfl (by kernel_rfl) (by kernel_rfl) (by kernel_rfl) (fun _ _ _ h => h) (Or.inr ⟨by rfl, rfl⟩) (by assumption) ?_
    simp only [Act.put, List.getElem_toArray, List.getElem_cons_succ, List.getElem_cons_zero, List.setIfInBounds_toArray, List.set_cons_zero, List.set_cons_succ]
    refine wpAnyH_take (i := 10) (v := undef) rfl (by kernel_rfl) (by kernel_rfl) (by kernel_rfl) (fun _ _ _ h => h) (Or.inr ⟨by rfl, rfl⟩) (by assumption) ?_
    simp only [Act.put, List.getElem_toArray, List.getElem_cons_succ, List.getElem_cons_zero, List.setIfInBounds_toArray, List.set_cons_zero, List.set_cons_succ]
    refine wpAnyH_take (i := 11) (v := undef) rfl (by kernel_rfl) (by kernel_rfl) (by kernel_rfl) (fun _ _ _ h => h) (Or.inr ⟨by rfl, rfl⟩) (by assumption) ?_
    simp only [Act.put, List.getElem_toArray, List.getElem_cons_succ, List.getElem_cons_zero, List.setIfInBounds_toArray, List.set_cons_zero, List.set_cons_succ]
    refine wpAnyH_take (i := 12) (v := undef) rfl (by kernel_rfl) (by kernel_rfl) (by kernel_rfl) (fun _ _ _ h => h) (Or.inr ⟨by rfl, rfl⟩) (by assumption) ?_
    simp only [Act.put, List.getElem_toArray, List.getElem_cons_succ, List.getElem_cons_zero, List.setIfInBounds_toArray, List.set_cons_zero, List.set_cons_succ]
    refine wpAnyH_take (i := 13) (v := undef) rfl (by kernel_rfl) (by kernel_rfl) (by kernel_rfl) (fun _ _ _ h => h) (Or.inr ⟨by rfl, rfl⟩) (by assumption) ?_
    simp only [Act.put, List.getElem_toArray, List.getElem_cons_succ, List.getElem_cons_zero, List.setIfInBounds_toArray, List.set_cons_zero, List.set_cons_succ]
    refine wpAnyH_take (i := 14) (v := ?_) rfl (by kernel_rfl) (by kernel_rfl) (by kernel_rfl) (fun _ _ _ h => h) (Or.inl ⟨by rfl, ?_⟩) (by assumption) ?_
    rotate_left
    · (intro w hSw; (try dsimp only at hSw); go_simp; try with_reducible rfl)
    simp only [Act.put, List.getElem_toArray, List.getElem_cons_succ, List.getElem_cons_zero, List.setIfInBounds_toArray, List.set_cons_zero, List.set_cons_succ]
    refine wpAnyH_take (i := 15) (v := ?_) rfl (by kernel_rfl) (by kernel_rfl) (by kernel_rfl) (fun _ _ _ h => h) (Or.inl ⟨by rfl, ?_⟩) (by assumption) ?_
    rotate_left
    · (intro w hSw; (try dsimp only at hSw); go_simp; try with_reducible rfl)
    simp only [Act.put, List.getElem_toArray, List.getElem_cons_succ, List.getElem_cons_zero, List.setIfInBounds_toArray, List.set_cons_zero, List.set_cons_succ]
    refine wpAnyH_take (i := 16) (v := undef) rfl (by kernel_rfl) (by kernel_rfl) (by kernel_rfl) (fun _ _ _ h => h) (Or.inr ⟨by rfl, rfl⟩) (by assumption) ?_
    simp only [Act.put, List.getElem_toArray, List.getElem_cons_succ, List.getElem_cons_zero, List.setIfInBounds_toArray, List.set_cons_zero, List.set_cons_succ]
    refine wpAnyH_take (i := 17) (v := undef) rfl (by kernel_rfl) (by kernel_rfl) (by kernel_rfl) (fun _ _ _ h => h) (Or.inr ⟨by rfl, rfl⟩) (by assumption) ?_
    simp only [Act.put, List.getElem_toArray, List.getElem_cons_succ, List.getElem_cons_zero, List.setIfInBounds_toArray, List.set_cons_zero, List.set_cons_succ]
    refine wpAnyH_take (i := 18) (v := undef) rfl (by kernel_rfl) (by kernel_rfl) (by kernel_rfl) (fun _ _ _ h => h) (Or.inr ⟨by rfl, rfl⟩) (by assumption) ?_
    simp only [Act.put, List.getElem_toArray, List.getElem_cons_succ, List.getElem_cons_zero, List.setIfInBounds_toArray, List.set_cons_zero, List.set_cons_succ]
    refine wpAnyH_take (i := 19) (v := undef) rfl (by kernel_rfl) (by kernel_rfl) (by kernel_rfl) (fun _ _ _ h => h) (Or.inr ⟨by rfl, rfl⟩) (by assumption) ?_
    simp only [Act.put, List.getElem_toArray, List.getElem_cons_succ, List.getElem_cons_zero, List.setIfInBounds_toArray, List.set_cons_zero, List.set_cons_succ]
    refine wpAnyH_take (i := 20) (v := undef) rfl (by kernel_rfl) (by kernel_rfl) (by kernel_rfl) (fun _ _ _ h => h) (Or.inr ⟨by rfl, rfl⟩) (by assumption) ?_
    simp only [Act.put, List.getElem_toArray, List.getElem_cons_succ, List.getElem_cons_zero, List.setIfInBounds_toArray, List.set_cons_zero, List.set_cons_succ]
    refine wpAnyH_take (i := 21) (v := undef) rfl (by kernel_rfl) (by kernel_rfl) (by kernel_rfl) (fun _ _ _ h => h) (Or.inr ⟨by rfl, rfl⟩) (by assumption) ?_
    simp only [Act.put, List.getElem_toArray, List.getElem_cons_succ, List.getElem_cons_zero, List.setIfInBounds_toArray, List.set_cons_zero, List.set_cons_succ]
    refine wpAnyH_take (i := 22) (v := undef) rfl (by kernel_rfl) (by kernel_rfl) (by kernel_rfl) (fun _ _ _ h => h) (Or.inr ⟨by rfl, rfl⟩) (by assumption) ?_
    simp only [Act.put, List.getElem_toArray, List.getElem_cons_succ, List.getElem_cons_zero, List.setIfInBounds_toArray, List.set_cons_zero, List.set_cons_succ]
    refine wpAnyH_take (i := 23) (v := ?_) rfl (by kernel_rfl) (by kernel_rfl) (by kernel_rfl) (fun _ _ _ h => h) (Or.inl ⟨by rfl, ?_⟩) (by assumption) ?_
    rotate_left
    · (intro w hSw; (try dsimp only at hSw); go_simp; try with_reducible rfl)
    simp only [Act.put, List.getElem_toArray, List.getElem_cons_succ, List.getElem_cons_zero, List.setIfInBounds_toArray, List.set_cons_zero, List.set_cons_succ]
    refine wpAnyH_done (by kernel_rfl) ?_ _
    clear hHeld
    go_wp2
    go_ret
    exact BoolIs.mk HC.out.symm HB.out
  have HSD := Lib.hid (decide_eq_true hss)
  by_cases hcl : V.cls = V2.cls
  rotate_left
  · have HC := Lib.hid (pq_no (p := plA (d + 1) (s1, V)) (q := plA (d + 1) (s2, V2)) (PA.ne_f hcl))
    obtain ⟨k1, hk1⟩ : ∃ k1, V.cls = k1 := ⟨_, rfl⟩
    obtain ⟨k2, hk2⟩ : ∃ k2, V2.cls = k2 := ⟨_, rfl⟩
    have HC1 := Lib.hid hk1
    have HC2 := Lib.hid hk2
    have hne : (k1 != k2) = true := by rw [hk1, hk2] at hcl; simpa using hcl
    clear hcl hk1 hk2 hss
    obtain ⟨W11, hWD⟩ : ∃ X, W1.drew = X := ⟨_, rfl⟩
    have hB : Below W1.heap.size W1 W11 := by rw [← hWD]; exact Below.drewN' (Below.refl _ _) 1
    replace HA := Lib.hid (HA.out.below hB)
    replace HA2 := Lib.hid (HA2.out.below hB)
    replace HB := Lib.hid (HB.out.trans (hB.mono HB.out.size))
    replace HV := Lib.hid (HV.out.grow hB)
    replace HV2 := Lib.hid (HV2.out.grow hB)
    replace HS := Lib.hid (HS.out.below hB)
    replace HS2 := Lib.hid (HS2.out.below hB)
    clear hB
    refine wp_region_held_drew (S := fun w' => w'.cell? ⟨w.heap.size, 0, none⟩ = some (.slice so s1.length sc) ∧ w'.cell? ⟨w.heap.size, 1, none⟩ = some (u) ∧ w'.cell? ⟨w.heap.size + 1, 0, none⟩ = some (.slice so2 s2.length sc2) ∧ w'.cell? ⟨w.heap.size + 1, 1, none⟩ = some (u2)) (by kernel_rfl) (by rw [hWD]; exact ⟨HA.out.2.1, HA.out.2.2.1, HA2.out.2.1, HA2.out.2.2.1⟩) (fun hHeld => ?_)
    rw [hWD] at hHeld ⊢
    clear hWD
    refine wpAnyH_take (i := 0) (v := ?_) rfl (by kernel_rfl) (by kernel_rfl) (by kernel_rfl) (fun _ _ _ h => h) (Or.inl ⟨by rfl, ?_⟩) (by assumption) ?_
    rotate_left
    · (intro w hSw; (try dsimp only at hSw); go_simp; try with_reducible rfl)
    simp only [Act.put, List.getElem_toArray, List.getElem_cons_zero, List.setIfInBounds_toArray, List.set_cons_zero, List.set_cons_succ]
    refine wpAnyH_take (i := 1) (v := ?_) rfl (by kernel_rfl) (by kernel_rfl) (by kernel_rfl) (fun _ _ _ h => h) (Or.inl ⟨by rfl, ?_⟩) (by assumption) ?_
    rotate_left
    · (intro w hSw; (try dsimp only at hSw); go_simp; try with_reducible rfl)
    simp only [Act.put, List.getElem_toArray, List.getElem_cons_succ, List.getElem_cons_zero, List.setIfInBounds_toArray, List.set_cons_zero, List.set_cons_succ]
    refine wpAnyH_take (i := 2) (v := ?_) rfl (by kernel_rfl) (by kernel_rfl) (by kernel_rfl) (fun _ _ _ h => h) (Or.inl ⟨by rfl, ?_⟩) (by assumption) ?_
    rotate_left
    · (intro w hSw; (try dsimp only at hSw); go_simp; try with_reducible rfl)
    simp only [Act.put, List.getElem_toArray, List.getElem_cons_succ, List.getElem_cons_zero, List.setIfInBounds_toArray, List.set_cons_zero, List.set_cons_succ]
    refine wpAnyH_take (i := 3) (v := ?_) rfl (by kernel_rfl) (by kernel_rfl) (by kernel_rfl) (fun _ _ _ h => h) (Or.inl ⟨by rfl, ?_⟩) (by assumption) ?_
    rotate_left
    · (intro w hSw; (try dsimp only at hSw); go_simp; try with_reducible rfl)
    simp only [Act.put, List.getElem_toArray, List.getElem_cons_succ, List.getElem_cons_zero, List.setIfInBounds_toArray, List.set_cons_zero, List.set_cons_succ]
    refine wpAnyH_ready (rs := [4]) (by kernel_rfl) (by simp) ?_
    refine AllReadyH.cons (o := _) rfl (fun K hK => ?_) AllReadyH.nil
    clear hHeld
    go_simp
    refine (ssame_calls _ _ s1 s2 _ HS.out (by have := HLS.out.1.1; omega) HS2.out (by have := HLS.out.2.1; omega)).mono ?_
    rintro e W12 ⟨rfl, hB⟩
    replace HA := Lib.hid (HA.out.below hB)
    replace HA2 := Lib.hid (HA2.out.below hB)
    replace HB := Lib.hid (HB.out.trans (hB.mono HB.out.size))
    replace HV := Lib.hid (HV.out.grow hB)
    replace HV2 := Lib.hid (HV2.out.grow hB)
    replace HS := Lib.hid (HS.out.below hB)
    replace HS2 := Lib.hid (HS2.out.below hB)
    rw [HSD.out]
    clear hB
    try go_simp
    refine hK.out _ _ ?_ (fun hHeld => ?_)
    · exact ⟨HA.out.2.1, HA.out.2.2.1, HA2.out.2.1, HA2.out.2.2.1⟩
    clear hK K
    refine wpAnyH_take (i := 5) (v := ?_) rfl (by kernel_rfl) (by kernel_rfl) (by kernel_rfl) (fun _ _ _ h => h) (Or.inl ⟨by rfl, ?_⟩) (by assumption) ?_
    rotate_left
    · (intro w hSw; (try dsimp only at hSw); go_simp; try with_reducible rfl)
    simp only [Act.put, List.getElem_toArray, List.getElem_cons_succ, List.getElem_cons_zero, List.setIfInBounds_toArray, List.set_cons_zero, List.set_cons_succ]
    refine wpAnyH_take (i := 6) (v := ?_) rfl (by kernel_rfl) (by kernel_rfl) (by kernel_rfl) (fun _ _ _ h => h) (Or.inl ⟨by rfl, ?_⟩) (by assumption) ?_
    rotate_left
    · (intro w hSw; (try dsimp only at hSw); go_simp; try with_reducible rfl)
    simp only [Act.put, List.getElem_toArray, List.getElem_cons_succ, List.getElem_cons_zero, List.setIfInBounds_toArray, List.set_cons_zero, List.set_cons_succ]
    refine wpAnyH_take (i := 7) (v := ?_) rfl (by kernel_rfl) (by kernel_rfl) (by kernel_rfl) (fun _ _ _ h => h) (Or.inl ⟨by rfl, ?_⟩) (by assumption) ?_
    rotate_left
    · (intro w hSw; (try dsimp only at hSw); go_simp; try with_reducible rfl)
    simp only [Act.put, List.getElem_toArray, List.getElem_cons_succ, List.getElem_cons_zero, List.setIfInBounds_toArray, List.set_cons_zero, List.set_cons_succ]
    refine wpAnyH_take (i := 8) (v := ?_) rfl (by kernel_rfl) (by kernel_rfl) (by kernel_rfl) (fun _ _ _ h => h) (Or.inl ⟨by rfl, ?_⟩) (by assumption) ?_
    rotate_left
    · (intro w hSw; (try dsimp only at hSw); go_simp; try with_reducible rfl)
    simp only [Act.put, List.getElem_toArray, List.getElem_cons_succ, List.getElem_cons_zero, List.setIfInBounds_toArray, List.set_cons_zero, List.set_cons_succ]
    refine wpAnyH_take (i := 10) (v := ?_) rfl (by kernel_rfl) (by kernel_rfl) (by kernel_rfl) (fun _ _ _ h => h) (Or.inl ⟨by rfl, ?_⟩) (by assumption) ?_
    rotate_left
    · (intro w hSw; (try dsimp only at hSw); go_simp; try with_reducible rfl)
    simp only [Act.put, List.getElem_toArray, List.getElem_cons_succ, List.getElem_cons_zero, List.setIfInBounds_toArray, List.set_cons_zero, List.set_cons_succ]
    refine wpAnyH_take (i := 11) (v := ?_) rfl (by kernel_rfl) (by kernel_rfl) (by kernel_rfl) (fun _ _ _ h => h) (Or.inl ⟨by rfl, ?_⟩) (by assumption) ?_
    rotate_left
    · (intro w hSw; (try dsimp only at hSw); go_simp; try with_reducible rfl)
    simp only [Act.put, List.getElem_toArray, List.getElem_cons_succ, List.getElem_cons_zero, List.setIfInBounds_toArray, List.set_cons_zero, List.set_cons_succ]
    refine wpAnyH_ready (rs := [9]) (by kernel_rfl) (by simp) ?_
    refine AllReadyH.cons (o := _) rfl (fun K hK => ?_) AllReadyH.nil
    clear hHeld
    go_simp
    refine (class_calls _ _ _ HV.out).mono ?_
    rintro e W13 ⟨rfl, hB⟩
    replace HA := Lib.hid (HA.out.below hB)
    replace HA2 := Lib.hid (HA2.out.below hB)
    replace HB := Lib.hid (HB.out.trans (hB.mono HB.out.size))
    replace HV := Lib.hid (HV.out.grow hB)
    replace HV2 := Lib.hid (HV2.out.grow hB)
    replace HS := Lib.hid (HS.out.below hB)
    replace HS2 := Lib.hid (HS2.out.below hB)
    rw [HC1.out]
    clear hB
    try go_simp
    refine hK.out _ _ ?_ (fun hHeld => ?_)
    · exact ⟨HA.out.2.1, HA.out.2.2.1, HA2.out.2.1, HA2.out.2.2.1⟩
    clear hK K
    refine wpAnyH_ready (rs := [12]) (by kernel_rfl) (by simp) ?_
    refine AllReadyH.cons (o := _) rfl (fun K hK => ?_) AllReadyH.nil
    clear hHeld
    go_simp
    refine (class_calls _ _ _ HV2.out).mono ?_
    rintro e W14 ⟨rfl, hB⟩
    replace HA := Lib.hid (HA.out.below hB)
    replace HA2 := Lib.hid (HA2.out.below hB)
    replace HB := Lib.hid (HB.out.trans (hB.mono HB.out.size))
    replace HV := Lib.hid (HV.out.grow hB)
    replace HV2 := Lib.hid (HV2.out.grow hB)
    replace HS := Lib.hid (HS.out.below hB)
    replace HS2 := Lib.hid (HS2.out.below hB)
    rw [HC2.out]
    clear hB
    try go_simp
    refine hK.out _ _ ?_ (fun hHeld => ?_)
    · exact ⟨HA.out.2.1, HA.out.2.2.1, HA2.out.2.1, HA2.out.2.2.1⟩
    clear hK K
    refine wpAnyH_take (i := 13) (v := ?_) rfl (by kernel_rfl) (by kernel_rfl) (by kernel_rfl) (fun _ _ _ h => h) (Or.inl ⟨by rfl, ?_⟩) (by assumption) ?_
    rotate_left
    · (intro w hSw; (try dsimp only at hSw); go_simp; try with_reducible rfl)
    simp only [Act.put, List.getElem_toArray, List.getElem_cons_succ, List.getElem_cons_zero, List.setIfInBounds_toArray, List.set_cons_zero, List.set_cons_succ]
    refine wpAnyH_take (i := 14) (v := ?_) rfl (by kernel_rfl) (by kernel_rfl) (by kernel_rfl) (fun _ _ _ h => h) (Or.inl ⟨by rfl, ?_⟩) (by assumption) ?_
    rotate_left
    · (intro w hSw; (try dsimp only at hSw); go_simp; try with_reducible rfl)
    simp only [Act.put, List.getElem_toArray, List.getElem_cons_succ, List.getElem_cons_zero, List.setIfInBounds_toArray, List.set_cons_zero, List.set_cons_succ]
    refine wpAnyH_take (i := 15) (v := ?_) rfl (by kernel_rfl) (by kernel_rfl) (by kernel_rfl) (fun _ _ _ h => h) (Or.inl ⟨by rfl, ?_⟩) (by assumption) ?_
    rotate_left
    · (intro w hSw; (try dsimp only at hSw); go_simp; try with_reducible rfl)
    simp only [Act.put, List.getElem_toArray, List.getElem_cons_succ, List.getElem_cons_zero, List.setIfInBounds_toArray, List.set_cons_zero, List.set_cons_succ]
    refine wpAnyH_take (i := 16) (v := undef) rfl (by kernel_rfl) (by kernel_rfl) (by kernel_rfl) (fun _ _ _ h => h) (Or.inr ⟨by rfl, rfl⟩) (by assumption) ?_
    simp only [Act.put, List.getElem_toArray, List.getElem_cons_succ, List.getElem_cons_zero, List.setIfInBounds_toArray, List.set_cons_zero, List.set_cons_succ]
    refine wpAnyH_take (i := 17) (v := undef) rfl (by kernel_rfl) (by kernel_rfl) (by kernel_rfl) (fun _ _ _ h => h) (Or.inr ⟨by rfl, rfl⟩) (by assumption) ?_
    simp only [Act.put, List.getElem_toArray, List.getElem_cons_succ, List.getElem_cons_zero, List.setIfInBounds_toArray, List.set_cons_zero, List.set_cons_succ]
    refine wpAnyH_take (i := 18) (v := undef) rfl (by kernel_rfl) (by kernel_rfl) (by kernel_rfl) (fun _ _ _ h => h) (Or.inr ⟨by rfl, rfl⟩) (by assumption) ?_
    simp only [Act.put, List.getElem_toArray, List.getElem_cons_succ, List.getElem_cons_zero, List.setIfInBounds_toArray, List.set_cons_zero, List.set_cons_succ]
    refine wpAnyH_take (i := 19) (v := undef) rfl (by kernel_rfl) (by kernel_rfl) (by kernel_rfl) (fun _ _ _ h => h) (Or.inr ⟨by rfl, rfl⟩) (by assumption) ?_
    simp only [Act.put, List.getElem_toArray, List.getElem_cons_succ, List.getElem_cons_zero, List.setIfInBounds_toArray, List.set_cons_zero, List.set_cons_succ]
    refine wpAnyH_take (i := 20) (v := undef) rfl (by kernel_rfl) (by kernel_rfl) (by kernel_rfl) (fun _ _ _ h => h) (Or.inr ⟨by rfl, rfl⟩) (by assumption) ?_
    simp only [Act.put, List.getElem_toArray, List.getElem_cons_succ, List.getElem_cons_zero, List.setIfInBounds_toArray, List.set_cons_zero, List.set_cons_succ]
    refine wpAnyH_take (i := 21) (v := undef) rfl (by kernel_rfl) (by kernel_rfl) (by kernel_rfl) (fun _ _ _ h => h) (Or.inr ⟨by rfl, rfl⟩) (by assumption) ?_
    simp only [Act.put, List.getElem_toArray, List.getElem_cons_succ, List.getElem_cons_zero, List.setIfInBounds_toArray, List.set_cons_zero, List.set_cons_succ]
    refine wpAnyH_take (i := 22) (v := undef) rfl (by kernel_rfl) (by kernel_rfl) (by kernel_rfl) (fun _ _ _ h => h) (Or.inr ⟨by rfl, rfl⟩) (by assumption) ?_
    simp only [Act.put, List.getElem_toArray, List.getElem_cons_succ, List.getElem_cons_zero, List.setIfInBounds_toArray, List.set_cons_zero, List.set_cons_succ]
    refine wpAnyH_take (i := 23) (v := ?_) rfl (by kernel_rfl) (by kernel_rfl) (by kernel_rfl) (fun _ _ _ h => h) (Or.inl ⟨by rfl, ?_⟩) (by assumption) ?_
    rotate_left
    · (intro w hSw; (try dsimp only at hSw); go_simp; try with_reducible rfl)
    simp only [Act.put, List.getElem_toArray, List.getElem_cons_succ, List.getElem_cons_zero, List.setIfInBounds_toArray, List.set_cons_zero, List.set_cons_succ]
    refine wpAnyH_done (by kernel_rfl) ?_ _
    clear hHeld
    go_wp2
    go_ret
    exact BoolIs.mk HC.out.symm HB.out
  obtain ⟨k1, hk1⟩ : ∃ k1, V.cls = k1 := ⟨_, rfl⟩
  have HC1 := Lib.hid hk1
  have HC2 := Lib.hid (show V2.cls = k1 by rw [← hcl]; exact hk1)
  have hne : (k1 != k1) = false := by simp
  by_cases hll : V.len = V2.len
  rotate_left
  · have HC := Lib.hid (pq_no (p := plA (d + 1) (s1, V)) (q := plA (d + 1) (s2, V2)) (PA.ne_l (fun e => hll (by have := congrArg List.length e; simpa [plA, PA.l] using this))))
    have hnl : ((V.len : Int) != (V2.len : Int)) = true := by simp; omega
    clear hll hk1 hcl hss
    obtain ⟨W11, hWD⟩ : ∃ X, W1.drew = X := ⟨_, rfl⟩
    have hB : Below W1.heap.size W1 W11 := by rw [← hWD]; exact Below.drewN' (Below.refl _ _) 1
    replace HA := Lib.hid (HA.out.below hB)
    replace HA2 := Lib.hid (HA2.out.below hB)
    replace HB := Lib.hid (HB.out.trans (hB.mono HB.out.size))
    replace HV := Lib.hid (HV.out.grow hB)
    replace HV2 := Lib.hid (HV2.out.grow hB)
    replace HS := Lib.hid (HS.out.below hB)
    replace HS2 := Lib.hid (HS2.out.below hB)
    clear hB
    refine wp_region_held_drew (S := fun w' => w'.cell? ⟨w.heap.size, 0, none⟩ = some (.slice so s1.length sc) ∧ w'.cell? ⟨w.heap.size, 1, none⟩ = some (u) ∧ w'.cell? ⟨w.heap.size + 1, 0, none⟩ = some (.slice so2 s2.length sc2) ∧ w'.cell? ⟨w.heap.size + 1, 1, none⟩ = some (u2)) (by kernel_rfl) (by rw [hWD]; exact ⟨HA.out.2.1, HA.out.2.2.1, HA2.out.2.1, HA2.out.2.2.1⟩) (fun hHeld => ?_)
    rw [hWD] at hHeld ⊢
    clear hWD
    refine wpAnyH_take (i := 0) (v := ?_) rfl (by kernel_rfl) (by kernel_rfl) (by kernel_rfl) (fun _ _ _ h => h) (Or.inl ⟨by rfl, ?_⟩) (by assumption) ?_
    rotate_left
    · (intro w hSw; (try dsimp only at hSw); go_simp; try with_reducible rfl)
    simp only [Act.put, List.getElem_toArray, List.getElem_cons_zero, List.setIfInBounds_toArray, List.set_cons_zero, List.set_cons_succ]
    refine wpAnyH_take (i := 1) (v := ?_) rfl (by kernel_rfl) (by kernel_rfl) (by kernel_rfl) (fun _ _ _ h => h) (Or.inl ⟨by rfl, ?_⟩) (by assumption) ?_
    rotate_left
    · (intro w hSw; (try dsimp only at hSw); go_simp; try with_reducible rfl)
    simp only [Act.put, List.getElem_toArray, List.getElem_cons_succ, List.getElem_cons_zero, List.setIfInBounds_toArray, List.set_cons_zero, List.set_cons_succ]
    refine wpAnyH_take (i := 2) (v := ?_) rfl (by kernel_rfl) (by kernel_rfl) (by kernel_rfl) (fun _ _ _ h => h) (Or.inl ⟨by rfl, ?_⟩) (by assumption) ?_
    rotate_left
    · (intro w hSw; (try dsimp only at hSw); go_simp; try with_reducible rfl)
    simp only [Act.put, List.getElem_toArray, List.getElem_cons_succ, List.getElem_cons_zero, List.setIfInBounds_toArray, List.set_cons_zero, List.set_cons_succ]
    refine wpAnyH_take (i := 3) (v := ?_) rfl (by kernel_rfl) (by kernel_rfl) (by kernel_rfl) (fun _ _ _ h => h) (Or.inl ⟨by rfl, ?_⟩) (by assumption) ?_
    rotate_left
    · (intro w hSw; (try dsimp only at hSw); go_simp; try with_reducible rfl)
    simp only [Act.put, List.getElem_toArray, List.getElem_cons_succ, List.getElem_cons_zero, List.setIfInBounds_toArray, List.set_cons_zero, List.set_cons_succ]
    refine wpAnyH_ready (rs := [4]) (by kernel_rfl) (by simp) ?_
    refine AllReadyH.cons (o := _) rfl (fun K hK => ?_) AllReadyH.nil
    clear hHeld
    go_simp
    refine (ssame_calls _ _ s1 s2 _ HS.out (by have := HLS.out.1.1; omega) HS2.out (by have := HLS.out.2.1; omega)).mono ?_
    rintro e W12 ⟨rfl, hB⟩
    replace HA := Lib.hid (HA.out.below hB)
    replace HA2 := Lib.hid (HA2.out.below hB)
    replace HB := Lib.hid (HB.out.trans (hB.mono HB.out.size))
    replace HV := Lib.hid (HV.out.grow hB)
    replace HV2 := Lib.hid (HV2.out.grow hB)
    replace HS := Lib.hid (HS.out.below hB)
    replace HS2 := Lib.hid (HS2.out.below hB)
    rw [HSD.out]
    clear hB
    try go_simp
    refine hK.out _ _ ?_ (fun hHeld => ?_)
    · exact ⟨HA.out.2.1, HA.out.2.2.1, HA2.out.2.1, HA2.out.2.2.1⟩
    clear hK K
    refine wpAnyH_take (i := 5) (v := ?_) rfl (by kernel_rfl) (by kernel_rfl) (by kernel_rfl) (fun _ _ _ h => h) (Or.inl ⟨by rfl, ?_⟩) (by assumption) ?_
    rotate_left
    · (intro w hSw; (try dsimp only at hSw); go_simp; try with_reducible rfl)
    simp only [Act.put, List.getElem_toArray, List.getElem_cons_succ, List.getElem_cons_zero, List.setIfInBounds_toArray, List.set_cons_zero, List.set_cons_succ]
    refine wpAnyH_take (i := 6) (v := ?_) rfl (by kernel_rfl) (by kernel_rfl) (by kernel_rfl) (fun _ _ _ h => h) (Or.inl ⟨by rfl, ?_⟩) (by assumption) ?_
    rotate_left
    · (intro w hSw; (try dsimp only at hSw); go_simp; try with_reducible rfl)
    simp only [Act.put, List.getElem_toArray, List.getElem_cons_succ, List.getElem_cons_zero, List.setIfInBounds_toArray, List.set_cons_zero, List.set_cons_succ]
    refine wpAnyH_take (i := 7) (v := ?_) rfl (by kernel_rfl) (by kernel_rfl) (by kernel_rfl) (fun _ _ _ h => h) (Or.inl ⟨by rfl, ?_⟩) (by assumption) ?_
    rotate_left
    · (intro w hSw; (try dsimp only at hSw); go_simp; try with_reducible rfl)
    simp only [Act.put, List.getElem_toArray, List.getElem_cons_succ, List.getElem_cons_zero, List.setIfInBounds_toArray, List.set_cons_zero, List.set_cons_succ]
    refine wpAnyH_take (i := 8) (v := ?_) rfl (by kernel_rfl) (by kernel_rfl) (by kernel_rfl) (fun _ _ _ h => h) (Or.inl ⟨by rfl, ?_⟩) (by assumption) ?_
    rotate_left
    · (intro w hSw; (try dsimp only at hSw); go_simp; try with_reducible rfl)
    simp only [Act.put, List.getElem_toArray, List.getElem_cons_succ, List.getElem_cons_zero, List.setIfInBounds_toArray, List.set_cons_zero, List.set_cons_succ]
    refine wpAnyH_take (i := 10) (v := ?_) rfl (by kernel_rfl) (by kernel_rfl) (by kernel_rfl) (fun _ _ _ h => h) (Or.inl ⟨by rfl, ?_⟩) (by assumption) ?_
    rotate_left
    · (intro w hSw; (try dsimp only at hSw); go_simp; try with_reducible rfl)
    simp only [Act.put, List.getElem_toArray, List.getElem_cons_succ, List.getElem_cons_zero, List.setIfInBounds_toArray, List.set_cons_zero, List.set_cons_succ]
    refine wpAnyH_take (i := 11) (v := ?_) rfl (by kernel_rfl) (by kernel_rfl) (by kernel_rfl) (fun _ _ _ h => h) (Or.inl ⟨by rfl, ?_⟩) (by assumption) ?_
    rotate_left
    · (intro w hSw; (try dsimp only at hSw); go_simp; try with_reducible rfl)
    simp only [Act.put, List.getElem_toArray, List.getElem_cons_succ, List.getElem_cons_zero, List.setIfInBounds_toArray, List.set_cons_zero, List.set_cons_succ]
    refine wpAnyH_ready (rs := [9]) (by kernel_rfl) (by simp) ?_
    refine AllReadyH.cons (o := _) rfl (fun K hK => ?_) AllReadyH.nil
    clear hHeld
    go_simp
    refine (class_calls _ _ _ HV.out).mono ?_
    rintro e W13 ⟨rfl, hB⟩
    replace HA := Lib.hid (HA.out.below hB)
    replace HA2 := Lib.hid (HA2.out.below hB)
    replace HB := Lib.hid (HB.out.trans (hB.mono HB.out.size))
    replace HV := Lib.hid (HV.out.grow hB)
    replace HV2 := Lib.hid (HV2.out.grow hB)
    replace HS := Lib.hid (HS.out.below hB)
    replace HS2 := Lib.hid (HS2.out.below hB)
    rw [HC1.out]
    clear hB
    try go_simp
    refine hK.out _ _ ?_ (fun hHeld => ?_)
    · exact ⟨HA.out.2.1, HA.out.2.2.1, HA2.out.2.1, HA2.out.2.2.1⟩
    clear hK K
    refine wpAnyH_ready (rs := [12]) (by kernel_rfl) (by simp) ?_
    refine AllReadyH.cons (o := _) rfl (fun K hK => ?_) AllReadyH.nil
    clear hHeld
    go_simp
    refine (class_calls _ _ _ HV2.out).mono ?_
    rintro e W14 ⟨rfl, hB⟩
    replace HA := Lib.hid (HA.out.below hB)
    replace HA2 := Lib.hid (HA2.out.below hB)
    replace HB := Lib.hid (HB.out.trans (hB.mono HB.out.size))
    replace HV := Lib.hid (HV.out.grow hB)
    replace HV2 := Lib.hid (HV2.out.grow hB)
    replace HS := Lib.hid (HS.out.below hB)
    replace HS2 := Lib.hid (HS2.out.below hB)
    rw [HC2.out]
    clear hB
    try go_simp
    refine hK.out _ _ ?_ (fun hHeld => ?_)
    · exact ⟨HA.out.2.1, HA.out.2.2.1, HA2.out.2.1, HA2.out.2.2.1⟩
    clear hK K
    refine wpAnyH_take (i := 13) (v := ?_) rfl (by kernel_rfl) (by kernel_rfl) (by kernel_rfl) (fun _ _ _ h => h) (Or.inl ⟨by rfl, ?_⟩) (by assumption) ?_
    rotate_left
    · (intro w hSw; (try dsimp only at hSw); go_simp; try with_reducible rfl)
    simp only [Act.put, List.getElem_toArray, List.getElem_cons_succ, List.getElem_cons_zero, List.setIfInBounds_toArray, List.set_cons_zero, List.set_cons_succ]
    refine wpAnyH_take (i := 14) (v := ?_) rfl (by kernel_rfl) (by kernel_rfl) (by kernel_rfl) (fun _ _ _ h => h) (Or.inl ⟨by rfl, ?_⟩) (by assumption) ?_
    rotate_left
    · (intro w hSw; (try dsimp only at hSw); go_simp; try with_reducible rfl)
    simp only [Act.put, List.getElem_toArray, List.getElem_cons_succ, List.getElem_cons_zero, List.setIfInBounds_toArray, List.set_cons_zero, List.set_cons_succ]
    refine wpAnyH_take (i := 15) (v := ?_) rfl (by kernel_rfl) (by kernel_rfl) (by kernel_rfl) (fun _ _ _ h => h) (Or.inl ⟨by rfl, ?_⟩) (by assumption) ?_
    rotate_left
    · (intro w hSw; (try dsimp only at hSw); go_simp; try with_reducible rfl)
    simp only [Act.put, List.getElem_toArray, List.getElem_cons_succ, List.getElem_cons_zero, List.setIfInBounds_toArray, List.set_cons_zero, List.set_cons_succ]
    refine wpAnyH_take (i := 16) (v := ?_) rfl (by kernel_rfl) (by kernel_rfl) (by kernel_rfl) (fun _ _ _ h => h) (Or.inl ⟨by rfl, ?_⟩) (by assumption) ?_
    rotate_left
    · (intro w hSw; (try dsimp only at hSw); go_simp; try with_reducible rfl)
    simp only [Act.put, List.getElem_toArray, List.getElem_cons_succ, List.getElem_cons_zero, List.setIfInBounds_toArray, List.set_cons_zero, List.set_cons_succ]
    refine wpAnyH_take (i := 17) (v := ?_) rfl (by kernel_rfl) (by kernel_rfl) (by kernel_rfl) (fun _ _ _ h => h) (Or.inl ⟨by rfl, ?_⟩) (by assumption) ?_
    rotate_left
    · (intro w hSw; (try dsimp only at hSw); go_simp; try with_reducible rfl)
    simp only [Act.put, List.getElem_toArray, List.getElem_cons_succ, List.getElem_cons_zero, List.setIfInBounds_toArray, List.set_cons_zero, List.set_cons_succ]
    refine wpAnyH_take (i := 19) (v := ?_) rfl (by kernel_rfl) (by kernel_rfl) (by kernel_rfl) (fun _ _ _ h => h) (Or.inl ⟨by rfl, ?_⟩) (by assumption) ?_
    rotate_left
    · (intro w hSw; (try dsimp only at hSw); go_simp; try with_reducible rfl)
    simp only [Act.put, List.getElem_toArray, List.getElem_cons_succ, List.getElem_cons_zero, List.setIfInBounds_toArray, List.set_cons_zero, List.set_cons_succ]
    refine wpAnyH_take (i := 20) (v := ?_) rfl (by kernel_rfl) (by kernel_rfl) (by kernel_rfl) (fun _ _ _ h => h) (Or.inl ⟨by rfl, ?_⟩) (by assumption) ?_
    rotate_left
    · (intro w hSw; (try dsimp only at hSw); go_simp; try with_reducible rfl)
    simp only [Act.put, List.getElem_toArray, List.getElem_cons_succ, List.getElem_cons_zero, List.setIfInBounds_toArray, List.set_cons_zero, List.set_cons_succ]
    refine wpAnyH_ready (rs := [18]) (by kernel_rfl) (by simp) ?_
    refine AllReadyH.cons (o := _) rfl (fun K hK => ?_) AllReadyH.nil
    clear hHeld
    go_simp
    refine (vlen_calls _ _ _ HV.out).mono ?_
    rintro e W15 ⟨rfl, hB⟩
    replace HA := Lib.hid (HA.out.below hB)
    replace HA2 := Lib.hid (HA2.out.below hB)
    replace HB := Lib.hid (HB.out.trans (hB.mono HB.out.size))
    replace HV := Lib.hid (HV.out.grow hB)
    replace HV2 := Lib.hid (HV2.out.grow hB)
    replace HS := Lib.hid (HS.out.below hB)
    replace HS2 := Lib.hid (HS2.out.below hB)
    clear hB
    try go_simp
    refine hK.out _ _ ?_ (fun hHeld => ?_)
    · exact ⟨HA.out.2.1, HA.out.2.2.1, HA2.out.2.1, HA2.out.2.2.1⟩
    clear hK K
    refine wpAnyH_ready (rs := [21]) (by kernel_rfl) (by simp) ?_
    refine AllReadyH.cons (o := _) rfl (fun K hK => ?_) AllReadyH.nil
    clear hHeld
    go_simp
    refine (vlen_calls _ _ _ HV2.out).mono ?_
    rintro e W16 ⟨rfl, hB⟩
    replace HA := Lib.hid (HA.out.below hB)
    replace HA2 := Lib.hid (HA2.out.below hB)
    replace HB := Lib.hid (HB.out.trans (hB.mono HB.out.size))
    replace HV := Lib.hid (HV.out.grow hB)
    replace HV2 := Lib.hid (HV2.out.grow hB)
    replace HS := Lib.hid (HS.out.below hB)
    replace HS2 := Lib.hid (HS2.out.below hB)
    clear hB
    try go_simp
    refine hK.out _ _ ?_ (fun hHeld => ?_)
    · exact ⟨HA.out.2.1, HA.out.2.2.1, HA2.out.2.1, HA2.out.2.2.1⟩
    clear hK K
    refine wpAnyH_take (i := 22) (v := ?_) rfl (by kernel_rfl) (by kernel_rfl) (by kernel_rfl) (fun _ _ _ h => h) (Or.inl ⟨by rfl, ?_⟩) (by assumption) ?_
    rotate_left
    · (intro w hSw; (try dsimp only at hSw); go_simp; try with_reducible rfl)
    simp only [Act.put, List.getElem_toArray, List.getElem_cons_succ, List.getElem_cons_zero, List.setIfInBounds_toArray, List.set_cons_zero, List.set_cons_succ]
    refine wpAnyH_take (i := 23) (v := ?_) rfl (by kernel_rfl) (by kernel_rfl) (by kernel_rfl) (fun _ _ _ h => h) (Or.inl ⟨by rfl, ?_⟩) (by assumption) ?_
    rotate_left
    · (intro w hSw; (try dsimp only at hSw); go_simp; try with_reducible rfl)
    simp only [Act.put, List.getElem_toArray, List.getElem_cons_succ, List.getElem_cons_zero, List.setIfInBounds_toArray, List.set_cons_zero, List.set_cons_succ]
    refine wpAnyH_done (by kernel_rfl) ?_ _
    clear hHeld
    go_wp2
    go_ret
    exact BoolIs.mk HC.out.symm HB.out
  have hnl : ((V.len : Int) != (V2.len : Int)) = false := by simp; omega
  have HEQ := Lib.hid (And.intro hss (And.intro hcl hll))
  clear hll hk1 hcl hss
  obtain ⟨W11, hWD⟩ : ∃ X, W1.drew = X := ⟨_, rfl⟩
  have hB : Below W1.heap.size W1 W11 := by rw [← hWD]; exact Below.drewN' (Below.refl _ _) 1
  replace HA := Lib.hid (HA.out.below hB)
  replace HA2 := Lib.hid (HA2.out.below hB)
  replace HB := Lib.hid (HB.out.trans (hB.mono HB.out.size))
  replace HV := Lib.hid (HV.out.grow hB)
  replace HV2 := Lib.hid (HV2.out.grow hB)
  replace HS := Lib.hid (HS.out.below hB)
  replace HS2 := Lib.hid (HS2.out.below hB)
  clear hB
  refine wp_region_held_drew (S := fun w' => w'.cell? ⟨w.heap.size, 0, none⟩ = some (.slice so s1.length sc) ∧ w'.cell? ⟨w.heap.size, 1, none⟩ = some (u) ∧ w'.cell? ⟨w.heap.size + 1, 0, none⟩ = some (.slice so2 s2.length sc2) ∧ w'.cell? ⟨w.heap.size + 1, 1, none⟩ = some (u2)) (by kernel_rfl) (by rw [hWD]; exact ⟨HA.out.2.1, HA.out.2.2.1, HA2.out.2.1, HA2.out.2.2.1⟩) (fun hHeld => ?_)
  rw [hWD] at hHeld ⊢
  clear hWD
  refine wpAnyH_take (i := 0) (v := ?_) rfl (by kernel_rfl) (by kernel_rfl) (by kernel_rfl) (fun _ _ _ h => h) (Or.inl ⟨by rfl, ?_⟩) (by assumption) ?_
  rotate_left
  · (intro w hSw; (try dsimp only at hSw); go_simp; try with_reducible rfl)
  simp only [Act.put, List.getElem_toArray, List.getElem_cons_zero, List.setIfInBounds_toArray, List.set_cons_zero, List.set_cons_succ]
  refine wpAnyH_take (i := 1) (v := ?_) rfl (by kernel_rfl) (by kernel_rfl) (by kernel_rfl) (fun _ _ _ h => h) (Or.inl ⟨by rfl, ?_⟩) (by assumption) ?_
  rotate_left
  · (intro w hSw; (try dsimp only at hSw); go_simp; try with_reducible rfl)
  simp only [Act.put, List.getElem_toArray, List.getElem_cons_succ, List.getElem_cons_zero, List.setIfInBounds_toArray, List.set_cons_zero, List.set_cons_succ]
  refine wpAnyH_take (i := 2) (v := ?_) rfl (by kernel_rfl) (by kernel_rfl) (by kernel_rfl) (fun _ _ _ h => h) (Or.inl ⟨by rfl, ?_⟩) (by assumption) ?_
  rotate_left
  · (intro w hSw; (try dsimp only at hSw); go_simp; try with_reducible rfl)
  simp only [Act.put, List.getElem_toArray, List.getElem_cons_succ, List.getElem_cons_zero, List.setIfInBounds_toArray, List.set_cons_zero, List.set_cons_succ]
  refine wpAnyH_take (i := 3) (v := ?_) rfl (by kernel_rfl) (by kernel_rfl) (by kernel_rfl) (fun _ _ _ h => h) (Or.inl ⟨by rfl, ?_⟩) (by assumption) ?_
  rotate_left
  · (intro w hSw; (try dsimp only at hSw); go_simp; try with_reducible rfl)
  simp only [Act.put, List.getElem_toArray, List.getElem_cons_succ, List.getElem_cons_zero, List.setIfInBounds_toArray, List.set_cons_zero, List.set_cons_succ]
  refine wpAnyH_ready (rs := [4]) (by kernel_rfl) (by simp) ?_
  refine AllReadyH.cons (o := _) rfl (fun K hK => ?_) AllReadyH.nil
  clear hHeld
  go_simp
  refine (ssame_calls _ _ s1 s2 _ HS.out (by have := HLS.out.1.1; omega) HS2.out (by have := HLS.out.2.1; omega)).mono ?_
  rintro e W12 ⟨rfl, hB⟩
  replace HA := Lib.hid (HA.out.below hB)
  replace HA2 := Lib.hid (HA2.out.below hB)
  replace HB := Lib.hid (HB.out.trans (hB.mono HB.out.size))
  replace HV := Lib.hid (HV.out.grow hB)
  replace HV2 := Lib.hid (HV2.out.grow hB)
  replace HS := Lib.hid (HS.out.below hB)
  replace HS2 := Lib.hid (HS2.out.below hB)
  rw [HSD.out]
  clear hB
  try go_simp
  refine hK.out _ _ ?_ (fun hHeld => ?_)
  · exact ⟨HA.out.2.1, HA.out.2.2.1, HA2.out.2.1, HA2.out.2.2.1⟩
  clear hK K
  refine wpAnyH_take (i := 5) (v := ?_) rfl (by kernel_rfl) (by kernel_rfl) (by kernel_rfl) (fun _ _ _ h => h) (Or.inl ⟨by rfl, ?_⟩) (by assumption) ?_
  rotate_left
  · (intro w hSw; (try dsimp only at hSw); go_simp; try with_reducible rfl)
  simp only [Act.put, List.getElem_toArray, List.getElem_cons_succ, List.getElem_cons_zero, List.setIfInBounds_toArray, List.set_cons_zero, List.set_cons_succ]
  refine wpAnyH_take (i := 6) (v := ?_) rfl (by kernel_rfl) (by kernel_rfl) (by kernel_rfl) (fun _ _ _ h => h) (Or.inl ⟨by rfl, ?_⟩) (by assumption) ?_
  rotate_left
  · (intro w hSw; (try dsimp only at hSw); go_simp; try with_reducible rfl)
  simp only [Act.put, List.getElem_toArray, List.getElem_cons_succ, List.getElem_cons_zero, List.setIfInBounds_toArray, List.set_cons_zero, List.set_cons_succ]
  refine wpAnyH_take (i := 7) (v := ?_) rfl (by kernel_rfl) (by kernel_rfl) (by kernel_rfl) (fun _ _ _ h => h) (Or.inl ⟨by rfl, ?_⟩) (by assumption) ?_
  rotate_left
  · (intro w hSw; (try dsimp only at hSw); go_simp; try with_reducible rfl)
  simp only [Act.put, List.getElem_toArray, List.getElem_cons_succ, List.getElem_cons_zero, List.setIfInBounds_toArray, List.set_cons_zero, List.set_cons_succ]
  refine wpAnyH_take (i := 8) (v := ?_) rfl (by kernel_rfl) (by kernel_rfl) (by kernel_rfl) (fun _ _ _ h => h) (Or.inl ⟨by rfl, ?_⟩) (by assumption) ?_
  rotate_left
  · (intro w hSw; (try dsimp only at hSw); go_simp; try with_reducible rfl)
  simp only [Act.put, List.getElem_toArray, List.getElem_cons_succ, List.getElem_cons_zero, List.setIfInBounds_toArray, List.set_cons_zero, List.set_cons_succ]
  refine wpAnyH_take (i := 10) (v := ?_) rfl (by kernel_rfl) (by kernel_rfl) (by kernel_rfl) (fun _ _ _ h => h) (Or.inl ⟨by rfl, ?_⟩) (by assumption) ?_
  rotate_left
  · (intro w hSw; (try dsimp only at hSw); go_simp; try with_reducible rfl)
  simp only [Act.put, List.getElem_toArray, List.getElem_cons_succ, List.getElem_cons_zero, List.setIfInBounds_toArray, List.set_cons_zero, List.set_cons_succ]
  refine wpAnyH_take (i := 11) (v := ?_) rfl (by kernel_rfl) (by kernel_rfl) (by kernel_rfl) (fun _ _ _ h => h) (Or.inl ⟨by rfl, ?_⟩) (by assumption) ?_
  rotate_left
  · (intro w hSw; (try dsimp only at hSw); go_simp; try with_reducible rfl)
  simp only [Act.put, List.getElem_toArray, List.getElem_cons_succ, List.getElem_cons_zero, List.setIfInBounds_toArray, List.set_cons_zero, List.set_cons_succ]
  refine wpAnyH_ready (rs := [9]) (by kernel_rfl) (by simp) ?_
  refine AllReadyH.cons (o := _) rfl (fun K hK => ?_) AllReadyH.nil
  clear hHeld
  go_simp
  refine (class_calls _ _ _ HV.out).mono ?_
  rintro e W13 ⟨rfl, hB⟩
  replace HA := Lib.hid (HA.out.below hB)
  replace HA2 := Lib.hid (HA2.out.below hB)
  replace HB := Lib.hid (HB.out.trans (hB.mono HB.out.size))
  replace HV := Lib.hid (HV.out.grow hB)
  replace HV2 := Lib.hid (HV2.out.grow hB)
  replace HS := Lib.hid (HS.out.below hB)
  replace HS2 := Lib.hid (HS2.out.below hB)
  rw [HC1.out]
  clear hB
  try go_simp
  refine hK.out _ _ ?_ (fun hHeld => ?_)
  · exact ⟨HA.out.2.1, HA.out.2.2.1, HA2.out.2.1, HA2.out.2.2.1⟩
  clear hK K
  refine wpAnyH_ready (rs := [12]) (by kernel_rfl) (by simp) ?_
  refine AllReadyH.cons (o := _) rfl (fun K hK => ?_) AllReadyH.nil
  clear hHeld
  go_simp
  refine (class_calls _ _ _ HV2.out).mono ?_
  rintro e W14 ⟨rfl, hB⟩
  replace HA := Lib.hid (HA.out.below hB)
  replace HA2 := Lib.hid (HA2.out.below hB)
  replace HB := Lib.hid (HB.out.trans (hB.mono HB.out.size))
  replace HV := Lib.hid (HV.out.grow hB)
  replace HV2 := Lib.hid (HV2.out.grow hB)
  replace HS := Lib.hid (HS.out.below hB)
  replace HS2 := Lib.hid (HS2.out.below hB)
  rw [HC2.out]
  clear hB
  try go_simp
  refine hK.out _ _ ?_ (fun hHeld => ?_)
  · exact ⟨HA.out.2.1, HA.out.2.2.1, HA2.out.2.1, HA2.out.2.2.1⟩
  clear hK K
  refine wpAnyH_take (i := 13) (v := ?_) rfl (by kernel_rfl) (by kernel_rfl) (by kernel_rfl) (fun _ _ _ h => h) (Or.inl ⟨by rfl, ?_⟩) (by assumption) ?_
  rotate_left
  · (intro w hSw; (try dsimp only at hSw); go_simp; try with_reducible rfl)
  simp only [Act.put, List.getElem_toArray, List.getElem_cons_succ, List.getElem_cons_zero, List.setIfInBounds_toArray, List.set_cons_zero, List.set_cons_succ]
  refine wpAnyH_take (i := 14) (v := ?_) rfl (by kernel_rfl) (by kernel_rfl) (by kernel_rfl) (fun _ _ _ h => h) (Or.inl ⟨by rfl, ?_⟩) (by assumption) ?_
  rotate_left
  · (intro w hSw; (try dsimp only at hSw); go_simp; try with_reducible rfl)
  simp only [Act.put, List.getElem_toArray, List.getElem_cons_succ, List.getElem_cons_zero, List.setIfInBounds_toArray, List.set_cons_zero, List.set_cons_succ]
  refine wpAnyH_take (i := 15) (v := ?_) rfl (by kernel_rfl) (by kernel_rfl) (by kernel_rfl) (fun _ _ _ h => h) (Or.inl ⟨by rfl, ?_⟩) (by assumption) ?_
  rotate_left
  · (intro w hSw; (try dsimp only at hSw); go_simp; try with_reducible rfl)
  simp only [Act.put, List.getElem_toArray, List.getElem_cons_succ, List.getElem_cons_zero, List.setIfInBounds_toArray, List.set_cons_zero, List.set_cons_succ]
  refine wpAnyH_take (i := 16) (v := ?_) rfl (by kernel_rfl) (by kernel_rfl) (by kernel_rfl) (fun _ _ _ h => h) (Or.inl ⟨by rfl, ?_⟩) (by assumption) ?_
  rotate_left
  · (intro w hSw; (try dsimp only at hSw); go_simp; try with_reducible rfl)
  simp only [Act.put, List.getElem_toArray, List.getElem_cons_succ, List.getElem_cons_zero, List.setIfInBounds_toArray, List.set_cons_zero, List.set_cons_succ]
  refine wpAnyH_take (i := 17) (v := ?_) rfl (by kernel_rfl) (by kernel_rfl) (by kernel_rfl) (fun _ _ _ h => h) (Or.inl ⟨by rfl, ?_⟩) (by assumption) ?_
  rotate_left
  · (intro w hSw; (try dsimp only at hSw); go_simp; try with_reducible rfl)
  simp only [Act.put, List.getElem_toArray, List.getElem_cons_succ, List.getElem_cons_zero, List.setIfInBounds_toArray, List.set_cons_zero, List.set_cons_succ]
  refine wpAnyH_take (i := 19) (v := ?_) rfl (by kernel_rfl) (by kernel_rfl) (by kernel_rfl) (fun _ _ _ h => h) (Or.inl ⟨by rfl, ?_⟩) (by assumption) ?_
  rotate_left
  · (intro w hSw; (try dsimp only at hSw); go_simp; try with_reducible rfl)
  simp only [Act.put, List.getElem_toArray, List.getElem_cons_succ, List.getElem_cons_zero, List.setIfInBounds_toArray, List.set_cons_zero, List.set_cons_succ]
  refine wpAnyH_take (i := 20) (v := ?_) rfl (by kernel_rfl) (by kernel_rfl) (by kernel_rfl) (fun _ _ _ h => h) (Or.inl ⟨by rfl, ?_⟩) (by assumption) ?_
  rotate_left
  · (intro w hSw; (try dsimp only at hSw); go_simp; try with_reducible rfl)
  simp only [Act.put, List.getElem_toArray, List.getElem_cons_succ, List.getElem_cons_zero, List.setIfInBounds_toArray, List.set_cons_zero, List.set_cons_succ]
  refine wpAnyH_ready (rs := [18]) (by kernel_rfl) (by simp) ?_
  refine AllReadyH.cons (o := _) rfl (fun K hK => ?_) AllReadyH.nil
  clear hHeld
  go_simp
  refine (vlen_calls _ _ _ HV.out).mono ?_
  rintro e W15 ⟨rfl, hB⟩
  replace HA := Lib.hid (HA.out.below hB)
  replace HA2 := Lib.hid (HA2.out.below hB)
  replace HB := Lib.hid (HB.out.trans (hB.mono HB.out.size))
  replace HV := Lib.hid (HV.out.grow hB)
  replace HV2 := Lib.hid (HV2.out.grow hB)
  replace HS := Lib.hid (HS.out.below hB)
  replace HS2 := Lib.hid (HS2.out.below hB)
  clear hB
  try go_simp
  refine hK.out _ _ ?_ (fun hHeld => ?_)
  · exact ⟨HA.out.2.1, HA.out.2.2.1, HA2.out.2.1, HA2.out.2.2.1⟩
  clear hK K
  refine wpAnyH_ready (rs := [21]) (by kernel_rfl) (by simp) ?_
  refine AllReadyH.cons (o := _) rfl (fun K hK => ?_) AllReadyH.nil
  clear hHeld
  go_simp
  refine (vlen_calls _ _ _ HV2.out).mono ?_
  rintro e W16 ⟨rfl, hB⟩
  replace HA := Lib.hid (HA.out.below hB)
  replace HA2 := Lib.hid (HA2.out.below hB)
  replace HB := Lib.hid (HB.out.trans (hB.mono HB.out.size))
  replace HV := Lib.hid (HV.out.grow hB)
  replace HV2 := Lib.hid (HV2.out.grow hB)
  replace HS := Lib.hid (HS.out.below hB)
  replace HS2 := Lib.hid (HS2.out.below hB)
  clear hB
  try go_simp
  refine hK.out _ _ ?_ (fun hHeld => ?_)
  · exact ⟨HA.out.2.1, HA.out.2.2.1, HA2.out.2.1, HA2.out.2.2.1⟩
  clear hK K
  refine wpAnyH_take (i := 22) (v := ?_) rfl (by kernel_rfl) (by kernel_rfl) (by kernel_rfl) (fun _ _ _ h => h) (Or.inl ⟨by rfl, ?_⟩) (by assumption) ?_
  rotate_left
  · (intro w hSw; (try dsimp only at hSw); go_simp; try with_reducible rfl)
  simp only [Act.put, List.getElem_toArray, List.getElem_cons_succ, List.getElem_cons_zero, List.setIfInBounds_toArray, List.set_cons_zero, List.set_cons_succ]
  refine wpAnyH_take (i := 23) (v := ?_) rfl (by kernel_rfl) (by kernel_rfl) (by kernel_rfl) (fun _ _ _ h => h) (Or.inl ⟨by rfl, ?_⟩) (by assumption) ?_
  rotate_left
  · (intro w hSw; (try dsimp only at hSw); go_simp; try with_reducible rfl)
  simp only [Act.put, List.getElem_toArray, List.getElem_cons_succ, List.getElem_cons_zero, List.setIfInBounds_toArray, List.set_cons_zero, List.set_cons_succ]
  refine wpAnyH_done (by kernel_rfl) ?_ _
  clear hHeld
  clear hne hnl
  have cHA0 := HA.out.2.1
  have cHA1 := HA.out.2.2.1
  have cHA20 := HA2.out.2.1
  have cHA21 := HA2.out.2.2.1
  go_wp2_with fail
  refine (vlen_calls _ _ _ HV.out).mono ?_
  rintro e W17 ⟨rfl, hB⟩
  clear cHA0 cHA1 cHA20 cHA21
  replace HA := Lib.hid (HA.out.below hB)
  replace HA2 := Lib.hid (HA2.out.below hB)
  replace HB := Lib.hid (HB.out.trans (hB.mono HB.out.size))
  replace HV := Lib.hid (HV.out.grow hB)
  replace HV2 := Lib.hid (HV2.out.grow hB)
  replace HS := Lib.hid (HS.out.below hB)
  replace HS2 := Lib.hid (HS2.out.below hB)
  clear hB
  have cHA0 := HA.out.2.1
  have cHA1 := HA.out.2.2.1
  have cHA20 := HA2.out.2.1
  have cHA21 := HA2.out.2.2.1
  go_wp2_with fail
  clear cHA0 cHA1 cHA20 cHA21
  obtain ⟨w0, hw0⟩ : ∃ w0, w0 = W17 := ⟨_, rfl⟩
  rw [← hw0]
  rw [← hw0] at HA HA2 HB HV HV2
  clear hw0
  go_loopw [33] (fun i wr => ∃ k : Nat, k ≤ V.len ∧ i = .int .i64 k ∧ (∀ j, j < k → itA (plA d) V j = itA (plA d) V2 j) ∧ Below w0.heap.size w0 wr) (fun i _ => V.len - (intOf i).toNat)
  case atStart => exact ⟨0, by omega, rfl, fun j h => absurd h (by omega), Below.refl _ _⟩
  case round =>
    obtain ⟨k, hk, rfl, hal, hB⟩ := hrel
    have HAL := Lib.hid hal
    have HBw := Lib.hid hB
    replace HA := Lib.hid (HA.out.below hB)
    replace HA2 := Lib.hid (HA2.out.below hB)
    replace HV := Lib.hid (HV.out.grow hB)
    replace HV2 := Lib.hid (HV2.out.grow hB)
    replace HB := Lib.hid (HB.out.trans (hB.mono HB.out.size))
    obtain ⟨_, a0, a1, _⟩ := HA.out
    obtain ⟨_, b0, b1, _⟩ := HA2.out
    clear hal hB
    by_cases hlt : k < V.len
    · obtain ⟨t, ht⟩ : ∃ t, t = iq (itA (plA d) V k) (itA (plA d) V2 k) := ⟨_, rfl⟩
      have HTT := Lib.hid ht
      go_wp2_with fail
      refine (alike_calls d HIH.out _ _ V V2 k k _ HOK.out.1 HOK.out.2 HNM.out.1 HNM.out.2 HBX.out.1 HBX.out.2 hlt (by rw [← HEQ.out.2.2]; exact hlt) HV.out HV2.out).mono ?_
      rintro e w3 ⟨rfl, hB3⟩
      rw [← HTT.out]
      have HBw3 := Lib.hid (HBw.out.trans (hB3.mono HBw.out.size))
      have HB3 := Lib.hid (HB.out.trans (hB3.mono HB.out.size))
      clear hB3 ht a0 a1 b0 b1
      cases t
      · have HC := Lib.hid (pq_no (p := plA (d + 1) (s1, V)) (q := plA (d + 1) (s2, V2)) (PA.ne_l (fun e => iq_false HTT.out.symm (by
          have e2 : (List.range V.len).map (itA (plA d) V) = (List.range V2.len).map (itA (plA d) V2) := e
          have h1 := congrArg (fun l : List PI => l[k]?) e2
          simpa [hlt, HEQ.out.2.2 ▸ hlt] using h1))))
        go_wp2_with fail
        go_ret
        exact BoolIs.mk HC.out.symm HB3.out
      · have HT2 := Lib.hid (iq_true HTT.out.symm)
        go_wp2_with fail
        go_roundw
        case rel =>
          refine ⟨k + 1, by omega, by go_num, fun j hj => ?_, HBw3.out⟩
          by_cases e : j = k
          · subst e; exact HT2.out
          · exact HAL.out j (by omega)
        case measure => simp [intOf]; omega
    · have HC := Lib.hid (pq_yes (p := plA (d + 1) (s1, V)) (q := plA (d + 1) (s2, V2)) (by
        obtain ⟨q1, q2, q3⟩ := HEQ.out
        refine PA.ext q1 ?_ q2
        show (List.range V.len).map (itA (plA d) V) = (List.range V2.len).map (itA (plA d) V2)
        rw [← q3]
        exact List.map_congr_left fun j hj => HAL.out j (by have := List.mem_range.1 hj; omega)))
      clear a0 a1 b0 b1
      go_wp2_with fail
      go_ret
      exact BoolIs.mk HC.out.symm HB.out
theorem vsame_calls (d : Nat) : VSameAt d := by
  induction d with
  | zero => intro ok ok2 A B sh u sh2 u2 w h; exact h.elim
  | succ d ih => exact vsame_step d ih
end Go.Proofs.YtbdhibcbpgjbmaaGreatDoor

/- An argument that is a plain array, opened. -/
namespace Go.Proofs.YtbdhibcbpgjbmaaGreatDoor
open Go.RowKit Go.ChangeShapes Go.WideShapes
set_option linter.unusedVariables false
set_option maxRecDepth 100000

section
variable {H : Type} {enc : TypeId × Value → H} {w : World} {base : Nat} {spare : Nat → Bool} {held : Bool}

/-- A slice of elements of c cells. -/
theorem cells_slice {P : Program} {t e : TypeId} {fuel c : Nat} {cs : List Value} {x : DataW H × List MemPlace} (ht : P.underlying t = some (.slice e)) (hc : P.cellsOf e = c) (hpos : 0 < c)
    (h : DataW.trod enc P w base spare held fuel t cs = some x) :
    ∃ ao len cap n, n < fuel ∧ cs = [.slice ao len cap] ∧ len ≤ cap ∧ cap ≤ maxLen ∧
      ∀ i, i < len → ∃ b off cs' y, ao = some ⟨b, off, none⟩ ∧ cs'.length = c ∧ (∀ j, j < c → w.cell? ⟨b, off + i * c + j, none⟩ = cs'[j]?) ∧ DataW.trod enc P w base spare held n e cs' = some y := by
  cases fuel with
  | zero => simp [DataW.trod] at h
  | succ m =>
    rcases DataW.trod_slice ht h with ⟨h0, _⟩ | ⟨a, len, cap, elems, rest, n, hn, rfl, rfl, hb, hl, hm, hlen, hel, hsp, hns⟩
    · exact ⟨none, 0, 0, m, by omega, h0, Nat.le_refl _, by unfold maxLen; omega, fun i hi => by omega⟩
    have each : ∀ i, i < len → ∃ cs' y, cs'.length = c ∧ (∀ j, j < c → w.cell? ((a.add (i * c)).add j) = cs'[j]?) ∧ DataW.trod enc P w base spare held n e cs' = some y := by
      intro i hi
      have h1 := hel i hi
      rw [hc] at h1
      have hlt : i < elems.length := by omega
      rw [List.getElem?_eq_getElem hlt] at h1
      obtain ⟨cs', hcs, hy'⟩ := Option.bind_eq_some_iff.1 h1
      obtain ⟨_, hcl, hat⟩ := World.cells?_some hcs
      exact ⟨cs', _, hcl, hat, hy'⟩
    refine ⟨some a, len, cap, n, by omega, rfl, hl, hm, fun i hi => ?_⟩
    obtain ⟨b, off, spot⟩ := a
    have hspot : spot = none := by
      obtain ⟨cs', y, hcl, hat, _⟩ := each 0 (by omega)
      have h0 := hat 0 hpos
      rw [List.getElem?_eq_getElem (by omega)] at h0
      simpa [Addr.add] using World.cell?_spot h0
    subst hspot
    obtain ⟨cs', y, hcl, hat, hy⟩ := each i hi
    refine ⟨b, off, cs', y, rfl, hcl, fun j hj => ?_, hy⟩
    have := hat j hj
    simpa [Go.WideShapes.add_plain, Nat.add_assoc] using this

theorem cint_of {t : TypeId} {k : IntKind} {fuel : Nat} {cs : List Value} {P : Program} {y : DataW H × List MemPlace} (ht : P.underlying t = some (.int k)) (h : DataW.trod enc P w base spare held fuel t cs = some y) : ∃ z, cs = [.int k z] := by
  obtain ⟨u, rfl, z, rfl, _⟩ := elem_int ht _ _ _ h
  exact ⟨z, rfl⟩
theorem cfloat_of {t : TypeId} {k : FloatKind} {fuel : Nat} {cs : List Value} {P : Program} {y : DataW H × List MemPlace} (ht : P.underlying t = some (.float k)) (h : DataW.trod enc P w base spare held fuel t cs = some y) : ∃ z, cs = [.float k z] ∧ (Lit.float k z).wf = true := by
  obtain ⟨u, rfl, z, rfl, hz⟩ := elem_float ht _ _ _ h
  exact ⟨z, rfl, hz⟩
theorem ints_of {t e : TypeId} {fuel : Nat} {cs : List Value} {P : Program} {y : DataW H × List MemPlace} (ht : P.underlying t = some (.slice e)) (hc : P.cellsOf e = 1) (he : P.underlying e = some (.int .i64)) (h : DataW.trod enc P w base spare held fuel t cs = some y) :
    ∃ v l, cs = [v] ∧ Slc w (fun _ => True) v (l : List Int).length (ints l) := by
  obtain ⟨v, xs, rfl, hr, hq, hl⟩ := open_row ht hc (fun u => ∃ z, u = .int .i64 z ∧ (Lit.int .i64 z).wf = true) (elem_int he) h
  obtain ⟨zs, rfl, _⟩ := list_of (Value.int .i64) (fun z => (Lit.int .i64 z).wf = true) xs hq
  refine ⟨v, zs, rfl, ?_⟩
  have := hr.slc
  simpa [ints] using this

theorem listAll {α : Type} (n : Nat) (q : Nat → α → Prop) (h : ∀ i, i < n → ∃ x, q i x) : ∃ l : List α, l.length = n ∧ ∀ i x, l[i]? = some x → q i x := by
  induction n with
  | zero => exact ⟨[], rfl, fun i x h => by simp at h⟩
  | succ n ih =>
    obtain ⟨l, hl, hq⟩ := ih (fun i hi => h i (by omega))
    obtain ⟨x, hx⟩ := h n (by omega)
    refine ⟨l ++ [x], by simp [hl], fun i y hy => ?_⟩
    by_cases hi : i < l.length
    · rw [List.getElem?_append_left hi] at hy; exact hq i y hy
    · obtain ⟨h1, _⟩ := List.getElem?_eq_some_iff.1 hy
      have : i = n := by simp at h1; omega
      subst this
      rw [List.getElem?_append_right (by omega), hl] at hy
      simp at hy
      exact hy ▸ hx

theorem und_plain : ∃ f0 f1 f2 : Field, Tryz.prog.underlying 25 = some (.struct #[f0, f1, f2]) ∧ f0.type = 22 ∧ f1.type = 23 ∧ f2.type = 3 ∧ f0.offset = 0 ∧ f1.offset = 1 ∧ f2.offset = 2 := ⟨_, _, _, Tryz.underlying25, rfl, rfl, rfl, rfl, rfl, rfl⟩
theorem und_item : ∃ f0 f1 f2 f3 : Field, Tryz.prog.underlying 34 = some (.struct #[f0, f1, f2, f3]) ∧ f0.type = 3 ∧ f1.type = 31 ∧ f2.type = 21 ∧ f3.type = 32 ∧ f0.offset = 0 ∧ f1.offset = 1 ∧ f2.offset = 2 ∧ f3.offset = 3 := ⟨_, _, _, _, Tryz.underlying34, rfl, rfl, rfl, rfl, rfl, rfl, rfl, rfl⟩
theorem co_plain : Tryz.prog.cellsOf 25 = 3 := by kernel_rfl
theorem co_item : Tryz.prog.cellsOf 34 = 4 := by kernel_rfl
theorem co_slInt : Tryz.prog.cellsOf 22 = 1 := by kernel_rfl
theorem co_slItem : Tryz.prog.cellsOf 23 = 1 := by kernel_rfl
theorem co_slPlain : Tryz.prog.cellsOf 32 = 1 := by kernel_rfl
theorem co_int : Tryz.prog.cellsOf 3 = 1 := by kernel_rfl
theorem co_f64 : Tryz.prog.cellsOf 31 = 1 := by kernel_rfl
theorem co_i32 : Tryz.prog.cellsOf 21 = 1 := by kernel_rfl

/-- Some depth for all of finitely many. -/
theorem lo_all {n : Nat} (q : Nat → Nat → Prop) (mono : ∀ i a b, a ≤ b → q i a → q i b) (h : ∀ i, i < n → ∃ d, q i d) : ∃ d, ∀ i, i < n → q i d := Go.Deep.fuel_lt mono h

theorem lt_of_wf {x : Nat} (h : (Lit.float .f64 x).wf = true) : x < 18446744073709551616 := by
  simpa [Lit.wf] using h
end
end Go.Proofs.YtbdhibcbpgjbmaaGreatDoor

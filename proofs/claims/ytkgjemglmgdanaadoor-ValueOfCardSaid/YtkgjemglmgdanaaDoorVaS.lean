/- Package value's law: awake. -/
import Derived.Test.YtkgjemglmgdanaaDoorVaR
namespace Go.Proofs.YtkgjemglmgdanaaDoor
open Go.RowKit Fl
set_option linter.unusedVariables false
set_option maxRecDepth 8000

def aw7 : PA := .mk [2, 2] [(0, 4607182418800017408, 0, []), (0, 0, 0, []), (0, 0, 0, []), (0, 4607182418800017408, 0, [])] 0
theorem aw7_chk : chk 40 aw7 = 0 := by decide +kernel
theorem aw7_kind : (arrP 40 aw7).2.kind = 1 := by
  have hw := chk_well.1 (show chk (39 + 1) aw7 = 0 from aw7_chk)
  obtain ⟨_, _, _, _, _, k, _⟩ := numsV_spec (well_fin hw rfl) (prodR_len hw.2.2.1).2
  rw [show (40 : Nat) = 39 + 1 from rfl, arrP_zero rfl]
  simp only
  rw [k]
  have e : (aw7.l.map fun x => ze x.2.1) = [4607182418800017408, 0, 0, 4607182418800017408] := by decide +kernel
  have k1 : kindW 4607182418800017408 = 1 := (kindW_c (n := 1) (by decide) c_1).trans (kz1 (.inr rfl))
  have k0 : kindW 0 = 1 := (kindW_c (n := 0) (by decide) c_0).trans (kz1 (.inl rfl))
  rw [e, leastW_cons, leastW_cons, leastW_cons, leastW_one, k1, k0]
  rfl
theorem aw7_tidy : tidyP 40 aw7 = aw7 := by
  have e : ze 4607182418800017408 = 4607182418800017408 := by decide +kernel
  have e0 : ze 0 = 0 := by decide +kernel
  show PA.mk _ (aw7.l.map (tidyI (tidyP 39))) _ = aw7
  simp [aw7, PA.l, PA.s, PA.f, tidyI, e, e0]
theorem aw7_dep : depP 40 aw7 = 1 := by decide +kernel
theorem aw7_lo : lo 2 aw7 := by
  intro x hx
  have hx : x ∈ [(0, 4607182418800017408, 0, []), (0, 0, 0, []), (0, 0, 0, []), (0, 4607182418800017408, 0, [])] := hx
  simp only [List.mem_cons, List.not_mem_nil, or_false] at hx
  rcases hx with rfl | rfl | rfl | rfl <;> exact ⟨by decide, by simp⟩
theorem aw7_nice : nice 40 aw7 := by
  have := nice_tidy 40 aw7 aw7_chk
  rwa [aw7_tidy] at this

set_option maxHeartbeats 4000000 in
theorem awake7_calls (w : World) (hT : TabAt w) : Calls Tryd.prog 6 #[] w (BoolIs true w) := by
  obtain ⟨A, hA⟩ : ∃ A, A = arrP 40 aw7 := ⟨_, rfl⟩
  have HAE := Lib.hid hA
  have HGA := Lib.hid (show gA 40 A by rw [hA]; exact arrP_good 40 aw7 aw7_chk)
  have HK := Lib.hid (show A.2.kind = 1 by rw [hA]; exact aw7_kind)
  have HD := Lib.hid (show depA 40 A = 1 by rw [hA, depA_arrP 40 aw7 aw7_chk]; exact aw7_dep)
  have HPL := Lib.hid (show plA 40 A = aw7 by rw [hA, plA_arrP 40 aw7 aw7_chk]; exact aw7_tidy)
  clear hA
  obtain ⟨W1, hW1⟩ : ∃ W1, W1 = ((w.alloc (.cells #[.int .i64 2, .int .i64 2] 3)).alloc (.cells #[.int .i64 0, .float .f64 4607182418800017408, .int .i32 0, .slice none 0 0, .int .i64 0, .float .f64 0, .int .i32 0, .slice none 0 0, .int .i64 0, .float .f64 0, .int .i32 0, .slice none 0 0, .int .i64 0, .float .f64 4607182418800017408, .int .i32 0, .slice none 0 0] 53)).alloc (.cells #[.slice (some ⟨w.heap.size, 0, none⟩) 2 2, .slice (some ⟨w.heap.size + 1, 0, none⟩) 4 4, .int .i64 0] 25) := ⟨_, rfl⟩
  have HP := Lib.hid (show At3 W1 (w.heap.size + 1 + 1) (.slice (some ⟨w.heap.size, 0, none⟩) 2 2) (.slice (some ⟨w.heap.size + 1, 0, none⟩) 4 4) (.int .i64 0) by rw [hW1]; have := At3.new ((w.alloc (.cells #[.int .i64 2, .int .i64 2] 3)).alloc (.cells #[.int .i64 0, .float .f64 4607182418800017408, .int .i32 0, .slice none 0 0, .int .i64 0, .float .f64 0, .int .i32 0, .slice none 0 0, .int .i64 0, .float .f64 0, .int .i32 0, .slice none 0 0, .int .i64 0, .float .f64 4607182418800017408, .int .i32 0, .slice none 0 0] 53)) (.slice (some ⟨w.heap.size, 0, none⟩) 2 2) (.slice (some ⟨w.heap.size + 1, 0, none⟩) 4 4) (.int .i64 0) 25; simpa using this)
  have HB := Lib.hid (show Below w.heap.size w W1 by rw [hW1]; exact (((Below.refl _ _).alloc (Nat.le_refl _) _).alloc (by simp) _).alloc (by simp; omega) _)
  have HI := Lib.hid (show IsP W1 (fun _ => True) (.agg #[.slice (some ⟨w.heap.size, 0, none⟩) 2 2, .slice (some ⟨w.heap.size + 1, 0, none⟩) 4 4, .int .i64 0]) aw7 by
    have h1 := World.ownsRow_lit (base := w.heap.size) (e := 3) (size := 1) w #[.int .i64 2, .int .i64 2] 2 (Nat.le_refl _) (by unfold maxLen; omega) rfl
    have h2 := World.ownsRow_lit (base := w.heap.size) (e := 53) (size := 4) (w.alloc (.cells #[.int .i64 2, .int .i64 2] 3)) #[.int .i64 0, .float .f64 4607182418800017408, .int .i32 0, .slice none 0 0, .int .i64 0, .float .f64 0, .int .i32 0, .slice none 0 0, .int .i64 0, .float .f64 0, .int .i32 0, .slice none 0 0, .int .i64 0, .float .f64 4607182418800017408, .int .i32 0, .slice none 0 0] 4 (by simp) (by unfold maxLen; omega) rfl
    have h3 : Slc _ (fun _ => True) (.slice (some ⟨w.heap.size, 0, none⟩) 2 2) ([2, 2] : List Int).length (ints [2, 2]) := (Slc.owned h1).any
    have h4 := Its.of_own (ok := fun _ => False) (L := [(0, 4607182418800017408, 0, .slice none 0 0), (0, 0, 0, .slice none 0 0), (0, 0, 0, .slice none 0 0), (0, 4607182418800017408, 0, .slice none 0 0)]) (l := aw7.l) h2 ⟨rfl, fun i x hx => by
      match i, hx with
      | 0, hx => cases hx; exact ⟨_, rfl, IsB.nil _ _⟩
      | 1, hx => cases hx; exact ⟨_, rfl, IsB.nil _ _⟩
      | 2, hx => cases hx; exact ⟨_, rfl, IsB.nil _ _⟩
      | 3, hx => cases hx; exact ⟨_, rfl, IsB.nil _ _⟩⟩
    rw [hW1]
    refine IsP.of (s := [2, 2]) (l := aw7.l) (f := 0) ((h3.below (below_new _ _)).below (below_new _ _)) ?_
    have h5 := (h4.wide (ok' := fun _ => True) (fun _ _ _ => trivial)).grow (below_new _ (.cells #[.slice (some ⟨w.heap.size, 0, none⟩) 2 2, .slice (some ⟨w.heap.size + 1, 0, none⟩) 4 4, .int .i64 0] 25))
    simpa using h5)
  have HT := Lib.hid (show TabAt W1 from fun j hj => keep_below HB.out _ _ (hT j hj))
  have HOF := Lib.hid (show ∀ wx, TabAt wx → IsP wx (fun _ => True) (.agg #[.slice (some ⟨w.heap.size, 0, none⟩) 2 2, .slice (some ⟨w.heap.size + 1, 0, none⟩) 4 4, .int .i64 0]) aw7 → Calls Tryd.prog 7 #[.agg #[.slice (some ⟨w.heap.size, 0, none⟩) 2 2, .slice (some ⟨w.heap.size + 1, 0, none⟩) 4 4, .int .i64 0]] wx (ArrOr 0 A wx) from fun wx h1 h2 => by
    have := of_calls (fun _ => True) aw7 _ 2 wx aw7_lo h2 h1
    rwa [aw7_chk, ← HAE.out] at this)
  have hsf := run_store_float
  have HFW := Lib.hid hW1.symm
  clear hT hW1
  go_enter Tryd.func6, Tryd.ntmps6
  go_wp2_with fail
  rw [HFW.out]
  refine (HOF.out _ HT.out HI.out).mono ?_
  rintro e W11 ⟨sh, u, rfl, hy, _, hB⟩
  replace HP := Lib.hid (HP.out.below hB)
  replace HB := Lib.hid (HB.out.trans (hB.mono HB.out.size))
  replace HI := Lib.hid (HI.out.grow hB)
  replace HT := Lib.hid (fun j hj => keep_below hB _ _ (HT.out j hj))
  obtain ⟨hs1, hv1⟩ := hy rfl
  obtain ⟨so1, sc1, rfl, _⟩ := hs1.opened
  have HAR := Lib.hid (show IsArr W11 (fun _ => True) (.slice so1 A.1.length sc1) u A from ⟨hs1.any, hv1.any⟩)
  have hsx := hv1.store
  clear hy hs1 hv1
  clear hB
  have cHP0 := HP.out.2.1
  have cHP1 := HP.out.2.2.1
  have cHP2 := HP.out.2.2.2.1
  obtain ⟨W12, hW12⟩ : ∃ W12, W12 = W11.alloc (.cells #[.slice so1 A.1.length sc1, u] 31) := ⟨_, rfl⟩
  have HV := Lib.hid (show At2 W12 W11.heap.size (.slice so1 A.1.length sc1) u by rw [hW12]; exact At2.new _ _ _ _)
  obtain ⟨ab, hab⟩ : ∃ ab, ab = W11.heap.size := ⟨_, rfl⟩
  have hB : Below W11.heap.size W11 W12 := by rw [hW12]; exact below_new _ _
  clear cHP0 cHP1 cHP2
  replace HP := Lib.hid (HP.out.below hB)
  replace HB := Lib.hid (HB.out.trans (hB.mono HB.out.size))
  replace HI := Lib.hid (HI.out.grow hB)
  replace HT := Lib.hid (fun j hj => keep_below hB _ _ (HT.out j hj))
  replace HAR := Lib.hid (HAR.out.grow hB)
  clear hB
  have hfold := hW12.symm
  clear hW12
  have cHP0 := HP.out.2.1
  have cHP1 := HP.out.2.2.1
  have cHP2 := HP.out.2.2.2.1
  have cHV0 := HV.out.2.1
  have cHV1 := HV.out.2.2.1
  go_wp2_with fail
  clear hfold
  obtain ⟨W13, hWD⟩ : ∃ X, W12.drew = X := ⟨_, rfl⟩
  have hB : Below W12.heap.size W12 W13 := by rw [← hWD]; exact Below.drewN' (Below.refl _ _) 1
  clear cHP0 cHP1 cHP2 cHV0 cHV1
  replace HP := Lib.hid (HP.out.below hB)
  replace HB := Lib.hid (HB.out.trans (hB.mono HB.out.size))
  replace HI := Lib.hid (HI.out.grow hB)
  replace HT := Lib.hid (fun j hj => keep_below hB _ _ (HT.out j hj))
  replace HAR := Lib.hid (HAR.out.grow hB)
  replace HV := Lib.hid (HV.out.below hB)
  clear hB
  refine wp_region_held_drew (S := fun w' => w'.cell? ⟨w.heap.size + 1 + 1, 0, none⟩ = some (.slice (some ⟨w.heap.size, 0, none⟩) 2 2) ∧ w'.cell? ⟨w.heap.size + 1 + 1, 1, none⟩ = some (.slice (some ⟨w.heap.size + 1, 0, none⟩) 4 4) ∧ w'.cell? ⟨w.heap.size + 1 + 1, 2, none⟩ = some (.int .i64 0) ∧ w'.cell? ⟨W11.heap.size, 0, none⟩ = some (.slice so1 A.1.length sc1) ∧ w'.cell? ⟨W11.heap.size, 1, none⟩ = some (u)) (by kernel_rfl) (by rw [hWD]; exact ⟨HP.out.2.1, HP.out.2.2.1, HP.out.2.2.2.1, HV.out.2.1, HV.out.2.2.1⟩) (fun hHeld => ?_)
  rw [hWD] at hHeld ⊢
  clear hWD
  refine wpAnyH_take (i := 0) (v := ?_) rfl (by kernel_rfl) (by kernel_rfl) (by kernel_rfl) (fun _ _ _ h => h) (Or.inl ⟨by rfl, ?_⟩) (by assumption) ?_
  rotate_left
  · (intro w hSw; (try dsimp only at hSw); go_simp; try with_reducible rfl)
  simp only [Act.put, List.getElem_toArray, List.getElem_cons_zero, List.setIfInBounds_toArray, List.set_cons_zero, List.set_cons_succ]
  refine wpAnyH_take (i := 1) (v := ?_) rfl (by kernel_rfl) (by kernel_rfl) (by kernel_rfl) (fun _ _ _ h => h) (Or.inl ⟨by rfl, ?_⟩) (by assumption) ?_
  rotate_left
  · (intro w hSw; (try dsimp only at hSw); go_simp; try with_reducible rfl)
  simp only [Act.put, List.getElem_toArray, List.getElem_cons_succ, List.getElem_cons_zero, List.setIfInBounds_toArray, List.set_cons_zero, List.set_cons_succ]
  refine wpAnyH_take (i := 2) (v := ?_) rfl (by kernel_rfl) (by kernel_rfl) (by kernel_rfl) (fun _ _ _ h => h) (Or.inl ⟨by rfl, ?_⟩) (by assumption) ?_
  rotate_left
  · (intro w hSw; (try dsimp only at hSw); go_simp; try with_reducible rfl)
  simp only [Act.put, List.getElem_toArray, List.getElem_cons_succ, List.getElem_cons_zero, List.setIfInBounds_toArray, List.set_cons_zero, List.set_cons_succ]
  refine wpAnyH_take (i := 3) (v := ?_) rfl (by kernel_rfl) (by kernel_rfl) (by kernel_rfl) (fun _ _ _ h => h) (Or.inl ⟨by rfl, ?_⟩) (by assumption) ?_
  rotate_left
  · (intro w hSw; (try dsimp only at hSw); go_simp; try with_reducible rfl)
  simp only [Act.put, List.getElem_toArray, List.getElem_cons_succ, List.getElem_cons_zero, List.setIfInBounds_toArray, List.set_cons_zero, List.set_cons_succ]
  refine wpAnyH_take (i := 4) (v := ?_) rfl (by kernel_rfl) (by kernel_rfl) (by kernel_rfl) (fun _ _ _ h => h) (Or.inl ⟨by rfl, ?_⟩) (by assumption) ?_
  rotate_left
  · (intro w hSw; (try dsimp only at hSw); go_simp; try with_reducible rfl)
  simp only [Act.put, List.getElem_toArray, List.getElem_cons_succ, List.getElem_cons_zero, List.setIfInBounds_toArray, List.set_cons_zero, List.set_cons_succ]
  refine wpAnyH_ready (rs := [5]) (by kernel_rfl) (by simp) ?_
  refine AllReadyH.cons (o := _) rfl (fun K hK => ?_) AllReadyH.nil
  clear hHeld
  go_simp
  refine (kind_calls _ _ _ HAR.out.2).mono ?_
  rintro e W14 ⟨rfl, hB⟩
  replace HP := Lib.hid (HP.out.below hB)
  replace HB := Lib.hid (HB.out.trans (hB.mono HB.out.size))
  replace HI := Lib.hid (HI.out.grow hB)
  replace HT := Lib.hid (fun j hj => keep_below hB _ _ (HT.out j hj))
  replace HAR := Lib.hid (HAR.out.grow hB)
  replace HV := Lib.hid (HV.out.below hB)
  rw [HK.out]
  clear hB
  try go_simp
  refine hK.out _ _ ?_ (fun hHeld => ?_)
  · exact ⟨HP.out.2.1, HP.out.2.2.1, HP.out.2.2.2.1, HV.out.2.1, HV.out.2.2.1⟩
  clear hK K
  refine wpAnyH_take (i := 6) (v := ?_) rfl (by kernel_rfl) (by kernel_rfl) (by kernel_rfl) (fun _ _ _ h => h) (Or.inl ⟨by rfl, ?_⟩) (by assumption) ?_
  rotate_left
  · (intro w hSw; (try dsimp only at hSw); go_simp; try with_reducible rfl)
  simp only [Act.put, List.getElem_toArray, List.getElem_cons_succ, List.getElem_cons_zero, List.setIfInBounds_toArray, List.set_cons_zero, List.set_cons_succ]
  refine wpAnyH_take (i := 7) (v := ?_) rfl (by kernel_rfl) (by kernel_rfl) (by kernel_rfl) (fun _ _ _ h => h) (Or.inl ⟨by rfl, ?_⟩) (by assumption) ?_
  rotate_left
  · (intro w hSw; (try dsimp only at hSw); go_simp; try with_reducible rfl)
  simp only [Act.put, List.getElem_toArray, List.getElem_cons_succ, List.getElem_cons_zero, List.setIfInBounds_toArray, List.set_cons_zero, List.set_cons_succ]
  refine wpAnyH_take (i := 8) (v := ?_) rfl (by kernel_rfl) (by kernel_rfl) (by kernel_rfl) (fun _ _ _ h => h) (Or.inl ⟨by rfl, ?_⟩) (by assumption) ?_
  rotate_left
  · (intro w hSw; (try dsimp only at hSw); go_simp; try with_reducible rfl)
  simp only [Act.put, List.getElem_toArray, List.getElem_cons_succ, List.getElem_cons_zero, List.setIfInBounds_toArray, List.set_cons_zero, List.set_cons_succ]
  refine wpAnyH_take (i := 9) (v := ?_) rfl (by kernel_rfl) (by kernel_rfl) (by kernel_rfl) (fun _ _ _ h => h) (Or.inl ⟨by rfl, ?_⟩) (by assumption) ?_
  rotate_left
  · (intro w hSw; (try dsimp only at hSw); go_simp; try with_reducible rfl)
  simp only [Act.put, List.getElem_toArray, List.getElem_cons_succ, List.getElem_cons_zero, List.setIfInBounds_toArray, List.set_cons_zero, List.set_cons_succ]
  refine wpAnyH_ready (rs := [10]) (by kernel_rfl) (by simp) ?_
  refine AllReadyH.cons (o := _) rfl (fun K hK => ?_) AllReadyH.nil
  clear hHeld
  go_simp
  refine (vdepth_at 40 _ A _ _ _ (by omega) (gA_dA HGA.out) HAR.out).mono ?_
  rintro e W15 ⟨rfl, hB⟩
  replace HP := Lib.hid (HP.out.below hB)
  replace HB := Lib.hid (HB.out.trans (hB.mono HB.out.size))
  replace HI := Lib.hid (HI.out.grow hB)
  replace HT := Lib.hid (fun j hj => keep_below hB _ _ (HT.out j hj))
  replace HAR := Lib.hid (HAR.out.grow hB)
  replace HV := Lib.hid (HV.out.below hB)
  rw [HD.out]
  clear hB
  try go_simp
  refine hK.out _ _ ?_ (fun hHeld => ?_)
  · exact ⟨HP.out.2.1, HP.out.2.2.1, HP.out.2.2.2.1, HV.out.2.1, HV.out.2.2.1⟩
  clear hK K
  refine wpAnyH_take (i := 11) (v := ?_) rfl (by kernel_rfl) (by kernel_rfl) (by kernel_rfl) (fun _ _ _ h => h) (Or.inl ⟨by rfl, ?_⟩) (by assumption) ?_
  rotate_left
  · (intro w hSw; (try dsimp only at hSw); go_simp; try with_reducible rfl)
  simp only [Act.put, List.getElem_toArray, List.getElem_cons_succ, List.getElem_cons_zero, List.setIfInBounds_toArray, List.set_cons_zero, List.set_cons_succ]
  refine wpAnyH_take (i := 12) (v := ?_) rfl (by kernel_rfl) (by kernel_rfl) (by kernel_rfl) (fun _ _ _ h => h) (Or.inl ⟨by rfl, ?_⟩) (by assumption) ?_
  rotate_left
  · (intro w hSw; (try dsimp only at hSw); go_simp; try with_reducible rfl)
  simp only [Act.put, List.getElem_toArray, List.getElem_cons_succ, List.getElem_cons_zero, List.setIfInBounds_toArray, List.set_cons_zero, List.set_cons_succ]
  refine wpAnyH_take (i := 13) (v := ?_) rfl (by kernel_rfl) (by kernel_rfl) (by kernel_rfl) (fun _ _ _ h => h) (Or.inl ⟨by rfl, ?_⟩) (by assumption) ?_
  rotate_left
  · (intro w hSw; (try dsimp only at hSw); go_simp; try with_reducible rfl)
  simp only [Act.put, List.getElem_toArray, List.getElem_cons_succ, List.getElem_cons_zero, List.setIfInBounds_toArray, List.set_cons_zero, List.set_cons_succ]
  refine wpAnyH_take (i := 14) (v := ?_) rfl (by kernel_rfl) (by kernel_rfl) (by kernel_rfl) (fun _ _ _ h => h) (Or.inl ⟨by rfl, ?_⟩) (by assumption) ?_
  rotate_left
  · (intro w hSw; (try dsimp only at hSw); go_simp; try with_reducible rfl)
  simp only [Act.put, List.getElem_toArray, List.getElem_cons_succ, List.getElem_cons_zero, List.setIfInBounds_toArray, List.set_cons_zero, List.set_cons_succ]
  refine wpAnyH_take (i := 16) (v := ?_) rfl (by kernel_rfl) (by kernel_rfl) (by kernel_rfl) (fun _ _ _ h => h) (Or.inl ⟨by rfl, ?_⟩) (by assumption) ?_
  rotate_left
  · (intro w hSw; (try dsimp only at hSw); go_simp; try with_reducible rfl)
  simp only [Act.put, List.getElem_toArray, List.getElem_cons_succ, List.getElem_cons_zero, List.setIfInBounds_toArray, List.set_cons_zero, List.set_cons_succ]
  refine wpAnyH_ready (rs := [15]) (by kernel_rfl) (by simp) ?_
  refine AllReadyH.cons (o := _) rfl (fun K hK => ?_) AllReadyH.nil
  clear hHeld
  go_simp
  refine (plain_calls_at 40 _ A _ _ _ (gA_dA HGA.out) HAR.out).mono ?_
  rintro e W16 ⟨up, rfl, hup, hB⟩
  replace HP := Lib.hid (HP.out.below hB)
  replace HB := Lib.hid (HB.out.trans (hB.mono HB.out.size))
  replace HI := Lib.hid (HI.out.grow hB)
  replace HT := Lib.hid (fun j hj => keep_below hB _ _ (HT.out j hj))
  replace HAR := Lib.hid (HAR.out.grow hB)
  replace HV := Lib.hid (HV.out.below hB)
  rw [HPL.out] at hup
  have HUP := Lib.hid hup
  obtain ⟨uso, usc, uio, uic, rfl, _⟩ := hup.opened
  clear hup
  clear hB
  try go_simp
  refine hK.out _ _ ?_ (fun hHeld => ?_)
  · exact ⟨HP.out.2.1, HP.out.2.2.1, HP.out.2.2.2.1, HV.out.2.1, HV.out.2.2.1⟩
  clear hK K
  refine wpAnyH_ready (rs := [17]) (by kernel_rfl) (by simp) ?_
  refine AllReadyH.cons (o := _) rfl (fun K hK => ?_) AllReadyH.nil
  clear hHeld
  go_simp
  refine (psame_calls 40 _ _ aw7 aw7 _ _ 40 _ aw7_nice aw7_nice HUP.out HI.out).mono ?_
  rintro e W17 ⟨rfl, hB⟩
  replace HP := Lib.hid (HP.out.below hB)
  replace HB := Lib.hid (HB.out.trans (hB.mono HB.out.size))
  replace HI := Lib.hid (HI.out.grow hB)
  replace HT := Lib.hid (fun j hj => keep_below hB _ _ (HT.out j hj))
  replace HAR := Lib.hid (HAR.out.grow hB)
  replace HV := Lib.hid (HV.out.below hB)
  replace HUP := Lib.hid (HUP.out.grow hB)
  rw [pq_yes rfl]
  clear hB
  try go_simp
  refine hK.out _ _ ?_ (fun hHeld => ?_)
  · exact ⟨HP.out.2.1, HP.out.2.2.1, HP.out.2.2.2.1, HV.out.2.1, HV.out.2.2.1⟩
  clear hK K
  refine wpAnyH_take (i := 18) (v := ?_) rfl (by kernel_rfl) (by kernel_rfl) (by kernel_rfl) (fun _ _ _ h => h) (Or.inl ⟨by rfl, ?_⟩) (by assumption) ?_
  rotate_left
  · (intro w hSw; (try dsimp only at hSw); go_simp; try with_reducible rfl)
  simp only [Act.put, List.getElem_toArray, List.getElem_cons_succ, List.getElem_cons_zero, List.setIfInBounds_toArray, List.set_cons_zero, List.set_cons_succ]
  refine wpAnyH_take (i := 19) (v := ?_) rfl (by kernel_rfl) (by kernel_rfl) (by kernel_rfl) (fun _ _ _ h => h) (Or.inl ⟨by rfl, ?_⟩) (by assumption) ?_
  rotate_left
  · (intro w hSw; (try dsimp only at hSw); go_simp; try with_reducible rfl)
  simp only [Act.put, List.getElem_toArray, List.getElem_cons_succ, List.getElem_cons_zero, List.setIfInBounds_toArray, List.set_cons_zero, List.set_cons_succ]
  refine wpAnyH_take (i := 20) (v := ?_) rfl (by kernel_rfl) (by kernel_rfl) (by kernel_rfl) (fun _ _ _ h => h) (Or.inl ⟨by rfl, ?_⟩) (by assumption) ?_
  rotate_left
  · (intro w hSw; (try dsimp only at hSw); go_simp; try with_reducible rfl)
  simp only [Act.put, List.getElem_toArray, List.getElem_cons_succ, List.getElem_cons_zero, List.setIfInBounds_toArray, List.set_cons_zero, List.set_cons_succ]
  refine wpAnyH_ready (rs := [21]) (by kernel_rfl) (by simp) ?_
  refine AllReadyH.cons (o := _) rfl (fun K hK => ?_) AllReadyH.nil
  clear hHeld
  go_simp
  refine (good_calls A _ _ _ HGA.out HAR.out HT.out).mono ?_
  rintro e W18 ⟨rfl, hB⟩
  replace HP := Lib.hid (HP.out.below hB)
  replace HB := Lib.hid (HB.out.trans (hB.mono HB.out.size))
  replace HI := Lib.hid (HI.out.grow hB)
  replace HT := Lib.hid (fun j hj => keep_below hB _ _ (HT.out j hj))
  replace HAR := Lib.hid (HAR.out.grow hB)
  replace HV := Lib.hid (HV.out.below hB)
  replace HUP := Lib.hid (HUP.out.grow hB)
  clear hB
  try go_simp
  refine hK.out _ _ ?_ (fun hHeld => ?_)
  · exact ⟨HP.out.2.1, HP.out.2.2.1, HP.out.2.2.2.1, HV.out.2.1, HV.out.2.2.1⟩
  clear hK K
  refine wpAnyH_take (i := 22) (v := ?_) rfl (by kernel_rfl) (by kernel_rfl) (by kernel_rfl) (fun _ _ _ h => h) (Or.inl ⟨by rfl, ?_⟩) (by assumption) ?_
  rotate_left
  · (intro w hSw; (try dsimp only at hSw); go_simp; try with_reducible rfl)
  simp only [Act.put, List.getElem_toArray, List.getElem_cons_succ, List.getElem_cons_zero, List.setIfInBounds_toArray, List.set_cons_zero, List.set_cons_succ]
  refine wpAnyH_take (i := 23) (v := ?_) rfl (by kernel_rfl) (by kernel_rfl) (by kernel_rfl) (fun _ _ _ h => h) (Or.inl ⟨by rfl, ?_⟩) (by assumption) ?_
  rotate_left
  · (intro w hSw; (try dsimp only at hSw); go_simp; try with_reducible rfl)
  simp only [Act.put, List.getElem_toArray, List.getElem_cons_succ, List.getElem_cons_zero, List.setIfInBounds_toArray, List.set_cons_zero]
  refine wpAnyH_done (by kernel_rfl) ?_ _
  clear hHeld
  go_wp2
  go_ret
  exact BoolIs.mk rfl HB.out
end Go.Proofs.YtkgjemglmgdanaaDoor

/- Layer 16, walked: isNaN, cmp.Compare (of floats, of runes), exists, Has, count, Compare. -/
import Derived.Test.YtbdbpamefkgelaaGreatDoorOrP
import Derived.Test.YtbdbpamefkgelaaGreatDoorVeJ
import Derived.Test.YtbdbpamefkgelaaGreatDoorVeO
import Derived.Test.YtbdbpamefkgelaaGreatDoorFlD
namespace Go.Proofs.YtbdbpamefkgelaaGreatDoor
set_option maxRecDepth 100000
open Go.RowKit Fl
set_option linter.unusedVariables false

theorem nanF_calls (x : Nat) (w : World) (h : Fnt x) : Calls Tryz.prog 153 #[.float .f64 x] w fun e w' => e = .returned (.bool false) ∧ w = w' := by
  have hc : FloatKind.f64.format.order x x = some .eq := ord_eq h h rfl
  clear h
  go_enter Tryz.func153, Tryz.ntmps153
  go_wp2
  go_ret
  exact ⟨rfl, rfl⟩
theorem nanR_calls (x : Int) (w : World) : Calls Tryz.prog 152 #[.int .i32 x] w fun e w' => e = .returned (.bool false) ∧ w = w' := by
  go_enter Tryz.func152, Tryz.ntmps152
  go_wp2
  go_ret
  exact ⟨rfl, rfl⟩
theorem cmpF_calls (a b : Nat) (w : World) (ha : Fnt a) (hb : Fnt b) : Calls Tryz.prog 141 #[.float .f64 a, .float .f64 b] w fun e w' => e = .returned (.int .i64 (cmpI (V a) (V b))) ∧ w = w' := by
  have HA := Lib.hid ha
  have HB := Lib.hid hb
  rcases ord_both ha hb with ⟨hv, o1, o2⟩ | ⟨hv, o1, o2⟩ | ⟨hv, o1, o2⟩
  · rw [cmpI_lt hv]
    clear hv ha hb
    go_enter Tryz.func141, Tryz.ntmps141
    go_wp2_with (first | ((with_reducible refine (nanF_calls _ _ HA.out).mono ?_); rintro e w' ⟨rfl, rfl⟩) | ((with_reducible refine (nanF_calls _ _ HB.out).mono ?_); rintro e w' ⟨rfl, rfl⟩))
    go_ret
    exact ⟨rfl, rfl⟩
  · rw [cmpI_eq hv]
    clear hv ha hb
    go_enter Tryz.func141, Tryz.ntmps141
    go_wp2_with (first | ((with_reducible refine (nanF_calls _ _ HA.out).mono ?_); rintro e w' ⟨rfl, rfl⟩) | ((with_reducible refine (nanF_calls _ _ HB.out).mono ?_); rintro e w' ⟨rfl, rfl⟩))
    go_ret
    exact ⟨rfl, rfl⟩
  · rw [cmpI_gt hv]
    clear hv ha hb
    go_enter Tryz.func141, Tryz.ntmps141
    go_wp2_with (first | ((with_reducible refine (nanF_calls _ _ HA.out).mono ?_); rintro e w' ⟨rfl, rfl⟩) | ((with_reducible refine (nanF_calls _ _ HB.out).mono ?_); rintro e w' ⟨rfl, rfl⟩))
    go_ret
    exact ⟨rfl, rfl⟩
theorem cmpR_calls (a b : Int) (w : World) : Calls Tryz.prog 140 #[.int .i32 a, .int .i32 b] w fun e w' => e = .returned (.int .i64 (cmpI a b)) ∧ w = w' := by
  rcases Int.lt_trichotomy a b with hv | hv | hv
  · rw [cmpI_lt hv]
    go_enter Tryz.func140, Tryz.ntmps140
    go_wp2_with (refine (nanR_calls _ _).mono ?_; rintro e w' ⟨rfl, rfl⟩)
    go_ret
    exact ⟨rfl, rfl⟩
  · rw [cmpI_eq hv]
    have h1 : ¬ a < b := by omega
    have h2 : ¬ b < a := by omega
    clear hv
    go_enter Tryz.func140, Tryz.ntmps140
    go_wp2_with (refine (nanR_calls _ _).mono ?_; rintro e w' ⟨rfl, rfl⟩)
    go_ret
    exact ⟨rfl, rfl⟩
  · rw [cmpI_gt hv]
    have h1 : ¬ a < b := by omega
    go_enter Tryz.func140, Tryz.ntmps140
    go_wp2_with (refine (nanR_calls _ _).mono ?_; rintro e w' ⟨rfl, rfl⟩)
    go_ret
    exact ⟨rfl, rfl⟩
theorem oex_calls (n i : Int) (w : World) : Calls Tryz.prog 104 #[.int .i64 n, .int .i64 i] w fun e w' => e = .returned (.bool (decide (0 ≤ i) && decide (i < n))) ∧ w = w' := by
  by_cases h : 0 ≤ i
  · rw [decide_eq_true h]
    go_enter Tryz.func104, Tryz.ntmps104
    go_wp2
    go_ret
    exact ⟨rfl, rfl⟩
  · rw [decide_eq_false h]
    go_enter Tryz.func104, Tryz.ntmps104
    go_wp2
    go_ret
    exact ⟨rfl, rfl⟩
theorem oex_yes {n i : Nat} (w : World) (h : i < n) : Calls Tryz.prog 104 #[.int .i64 (n : Int), .int .i64 (i : Int)] w fun e w' => e = .returned (.bool true) ∧ w = w' := by
  have e : (decide ((0 : Int) ≤ (i : Int)) && decide ((i : Int) < (n : Int))) = true := by simp; omega
  rw [← e]; exact oex_calls n i w
theorem oex_no {n : Nat} {i : Int} (w : World) (h : ¬ (0 ≤ i ∧ i < n)) : Calls Tryz.prog 104 #[.int .i64 (n : Int), .int .i64 i] w fun e w' => e = .returned (.bool false) ∧ w = w' := by
  have e : (decide ((0 : Int) ≤ i) && decide (i < (n : Int))) = false := by simp; omega
  rw [← e]; exact oex_calls n i w
theorem ohas_calls (c : Int) (w : World) : Calls Tryz.prog 36 #[.int .i64 c] w fun e w' => e = .returned (.bool (decide (c = 0 ∨ c = 1))) ∧ w = w' := by
  by_cases h : c = 0
  · subst h
    go_enter Tryz.func36, Tryz.ntmps36
    go_wp2
    go_ret
    exact ⟨rfl, rfl⟩
  · by_cases h1 : c = 1
    · subst h1
      go_enter Tryz.func36, Tryz.ntmps36
      go_wp2
      go_ret
      exact ⟨rfl, rfl⟩
    · have e : decide (c = 0 ∨ c = 1) = false := by simp [h, h1]
      rw [e]
      have e0 : (c == 0) = false := by simpa using h
      have e1 : (c == 1) = false := by simpa using h1
      clear e h h1
      go_enter Tryz.func36, Tryz.ntmps36
      go_wp2
      go_ret
      exact ⟨rfl, rfl⟩
theorem ocount_calls {ok : Nat → Prop} (u : Value) (A : VV) (size : Nat) (w : World) (h : IsV w ok u A) (hs : 0 < size) (hm : size ≤ 1048576) (hl : A.len ≤ 1048576) :
    Calls Tryz.prog 103 #[.agg #[u], .int .i64 (size : Int)] w fun e w' => e = .returned (.int .i64 ((A.len / size : Nat) : Int)) ∧ Below w.heap.size w w' := by
  have hsu := h.store
  obtain ⟨W1, hW1⟩ : ∃ W1, W1 = w.alloc (.cells #[u] 36) := ⟨_, rfl⟩
  have HB := Lib.hid (show Below w.heap.size w W1 by rw [hW1]; exact below_new _ _)
  have HA := Lib.hid (show At1 W1 w.heap.size u by rw [hW1]; exact At1.new w _ _)
  have HU := Lib.hid (show IsV W1 ok u A from h.grow HB.out)
  have hfold := hW1.symm
  clear h hW1
  have c0 := HA.out.2.1
  obtain ⟨n, hn⟩ : ∃ n, A.len = n := ⟨_, rfl⟩
  obtain ⟨Q, hQ⟩ : ∃ Q, n / size = Q := ⟨_, rfl⟩
  have HN := Lib.hid hn
  rw [hn, hQ]
  have hQm : Q ≤ n := by rw [← hQ]; exact Nat.div_le_self _ _
  rw [hn] at hl
  have d1 : (n : Int) / (size : Int) = (Q : Int) := by rw [← hQ]; rfl
  have d2 : (n : Int).tdiv (size : Int) = (Q : Int) := by rw [← hQ]; rfl
  have w1 : IntKind.i64.wrap (Q : Int) = (Q : Int) := IntWalk.i64_in _ (by omega)
  have hz1 : ¬ (size : Int) = 0 := by omega
  have hz2 : ¬ size = 0 := by omega
  clear hn hQ hQm
  go_enter Tryz.func103, Tryz.ntmps103
  go_wp2_with fail
  clear hfold
  refine (vlen_calls _ A _ HU.out).mono ?_
  rintro e W2 ⟨rfl, hB⟩
  rw [HN.out]
  clear c0
  replace HB := Lib.hid (HB.out.trans (hB.mono HB.out.size))
  clear hB
  go_wp2
  go_ret
  exact ⟨rfl, HB.out⟩
theorem ocount_none {ok : Nat → Prop} (u : Value) (A : VV) (size : Int) (w : World) (h : IsV w ok u A) (hs : size < 1) :
    Calls Tryz.prog 103 #[.agg #[u], .int .i64 size] w fun e w' => e = .returned (.int .i64 0) ∧ Below w.heap.size w w' := by
  have hsu := h.store
  clear h
  go_enter Tryz.func103, Tryz.ntmps103
  go_wp2
  go_ret
  exact ⟨rfl, below_new _ _⟩
set_option maxHeartbeats 4000000 in
theorem ocompare_calls {okA okB : Nat → Prop} (uA uB : Value) (A B : VV) (i k : Nat) (w : World) (hA : IsV w okA uA A) (hB' : IsV w okB uB B) (fA : ∀ x ∈ A.nums, Fnt x) (fB : ∀ x ∈ B.nums, Fnt x) (hi : i < A.len) (hk : k < B.len) :
    Calls Tryz.prog 105 #[.agg #[uA], .int .i64 (i : Int), .agg #[uB], .int .i64 (k : Int)] w fun e w' => e = .returned (.tuple #[.int .i64 (orC A i B k), .bool (orB A B)]) ∧ Below w.heap.size w w' := by
  have hsa := hA.store
  have hsb := hB'.store
  obtain ⟨W1, hW1⟩ : ∃ W1, W1 = (w.alloc (.cells #[uA] 36)).alloc (.cells #[uB] 36) := ⟨_, rfl⟩
  have HB := Lib.hid (show Below w.heap.size w W1 by rw [hW1]; exact (below_new _ _).alloc (by simp) _)
  have HA := Lib.hid (show At1 W1 w.heap.size uA by rw [hW1]; exact (At1.new w _ _).below (below_new _ _))
  have HB2 := Lib.hid (show At1 W1 (w.heap.size + 1) uB by rw [hW1]; have := (At1.new (w.alloc (.cells #[uA] 36)) uB 36); simpa using this)
  have HU := Lib.hid (show IsV W1 okA uA A from hA.grow HB.out)
  have HU2 := Lib.hid (show IsV W1 okB uB B from hB'.grow HB.out)
  have HFA := Lib.hid fA
  have HFB := Lib.hid fB
  have HI := Lib.hid hi
  have HK := Lib.hid hk
  obtain ⟨ca, hca⟩ : ∃ ca, A.cls = ca := ⟨_, rfl⟩
  obtain ⟨cb, hcb⟩ : ∃ cb, B.cls = cb := ⟨_, rfl⟩
  have HCA := Lib.hid hca
  have HCB := Lib.hid hcb
  have HC3 := Lib.hid (show ca = 0 ∨ ca = 1 ∨ ca = 2 by rw [← hca]; exact VV.cls_cases _)
  obtain ⟨na, hna⟩ : ∃ na, A.len = na := ⟨_, rfl⟩
  obtain ⟨nb, hnb⟩ : ∃ nb, B.len = nb := ⟨_, rfl⟩
  have HNA := Lib.hid hna
  have HNB := Lib.hid hnb
  have hfold := hW1.symm
  clear hA hB' hW1 fA fB hi hk hca hcb hna hnb
  by_cases hne : ca = cb
  rotate_left
  · have e1 : orB A B = false := by unfold orB; rw [HCA.out, HCB.out]; exact decide_eq_false (fun h => hne h.1)
    have e2 : orC A i B k = 0 := by unfold orC; rw [e1]; rfl
    rw [e1, e2]
    clear e1 e2
    have hce : (cb != ca) = true := by simp; omega
    clear hne
    have cHA0 := HA.out.2.1
    have cHB20 := HB2.out.2.1
    go_enter Tryz.func105, Tryz.ntmps105
    go_wp2_with fail
    clear hfold
    refine (class_calls _ A _ HU.out).mono ?_
    rintro e W11 ⟨rfl, hB⟩
    clear cHA0 cHB20
    replace HA := Lib.hid (HA.out.below hB)
    replace HB2 := Lib.hid (HB2.out.below hB)
    replace HB := Lib.hid (HB.out.trans (hB.mono HB.out.size))
    replace HU := Lib.hid (HU.out.grow hB)
    replace HU2 := Lib.hid (HU2.out.grow hB)
    rw [HCA.out]
    clear hB
    have cHA0 := HA.out.2.1
    have cHB20 := HB2.out.2.1
    go_wp2_with fail
    refine (class_calls _ B _ HU2.out).mono ?_
    rintro e W12 ⟨rfl, hB⟩
    clear cHA0 cHB20
    replace HA := Lib.hid (HA.out.below hB)
    replace HB2 := Lib.hid (HB2.out.below hB)
    replace HB := Lib.hid (HB.out.trans (hB.mono HB.out.size))
    replace HU := Lib.hid (HU.out.grow hB)
    replace HU2 := Lib.hid (HU2.out.grow hB)
    rw [HCB.out]
    clear hB
    have cHA0 := HA.out.2.1
    have cHB20 := HB2.out.2.1
    go_wp2_with fail
    go_ret2
    exact ⟨rfl, HB.out⟩
  subst hne
  rcases HC3.out with rfl | rfl | rfl
  · have e1 : orB A B = true := by unfold orB; rw [HCA.out, HCB.out]; rfl
    have HKA := Lib.hid (show keyV A i = V (atI A.nums 0 (i : Int)) by unfold keyV; rw [if_pos HCA.out])
    have HKB := Lib.hid (show keyV B k = V (atI B.nums 0 (k : Int)) by unfold keyV; rw [if_pos HCB.out])
    obtain ⟨x, hx⟩ : ∃ x, atI A.nums 0 (i : Int) = x := ⟨_, rfl⟩
    obtain ⟨y, hy⟩ : ∃ y, atI B.nums 0 (k : Int) = y := ⟨_, rfl⟩
    have HX := Lib.hid hx
    have HY := Lib.hid hy
    have HFX := Lib.hid (show Fnt x by rw [← hx]; exact HFA.out _ (atI_memN (by rw [VV.nums_len0 HCA.out]; exact HI.out)))
    have HFY := Lib.hid (show Fnt y by rw [← hy]; exact HFB.out _ (atI_memN (by rw [VV.nums_len0 HCB.out]; exact HK.out)))
    clear hx hy
    have e2 : orC A i B k = cmpI (V x) (V y) := by unfold orC; rw [e1, if_pos rfl, HKA.out, HKB.out, HX.out, HY.out]
    rw [e1, e2]
    clear e1 e2
    have cHA0 := HA.out.2.1
    have cHB20 := HB2.out.2.1
    go_enter Tryz.func105, Tryz.ntmps105
    go_wp2_with fail
    clear hfold
    refine (class_calls _ A _ HU.out).mono ?_
    rintro e W11 ⟨rfl, hB⟩
    clear cHA0 cHB20
    replace HA := Lib.hid (HA.out.below hB)
    replace HB2 := Lib.hid (HB2.out.below hB)
    replace HB := Lib.hid (HB.out.trans (hB.mono HB.out.size))
    replace HU := Lib.hid (HU.out.grow hB)
    replace HU2 := Lib.hid (HU2.out.grow hB)
    rw [HCA.out]
    clear hB
    have cHA0 := HA.out.2.1
    have cHB20 := HB2.out.2.1
    go_wp2_with fail
    refine (class_calls _ B _ HU2.out).mono ?_
    rintro e W12 ⟨rfl, hB⟩
    clear cHA0 cHB20
    replace HA := Lib.hid (HA.out.below hB)
    replace HB2 := Lib.hid (HB2.out.below hB)
    replace HB := Lib.hid (HB.out.trans (hB.mono HB.out.size))
    replace HU := Lib.hid (HU.out.grow hB)
    replace HU2 := Lib.hid (HU2.out.grow hB)
    rw [HCB.out]
    clear hB
    have cHA0 := HA.out.2.1
    have cHB20 := HB2.out.2.1
    go_wp2_with fail
    refine (ohas_calls _ _).mono ?_
    rintro e w9 ⟨rfl, rfl⟩
    go_wp2_with fail
    refine (vlen_calls _ A _ HU.out).mono ?_
    rintro e W13 ⟨rfl, hB⟩
    clear cHA0 cHB20
    replace HA := Lib.hid (HA.out.below hB)
    replace HB2 := Lib.hid (HB2.out.below hB)
    replace HB := Lib.hid (HB.out.trans (hB.mono HB.out.size))
    replace HU := Lib.hid (HU.out.grow hB)
    replace HU2 := Lib.hid (HU2.out.grow hB)
    clear hB
    have cHA0 := HA.out.2.1
    have cHB20 := HB2.out.2.1
    go_wp2_with fail
    refine (oex_yes _ HI.out).mono ?_
    rintro e w9 ⟨rfl, rfl⟩
    go_wp2_with fail
    refine (vlen_calls _ B _ HU2.out).mono ?_
    rintro e W14 ⟨rfl, hB⟩
    clear cHA0 cHB20
    replace HA := Lib.hid (HA.out.below hB)
    replace HB2 := Lib.hid (HB2.out.below hB)
    replace HB := Lib.hid (HB.out.trans (hB.mono HB.out.size))
    replace HU := Lib.hid (HU.out.grow hB)
    replace HU2 := Lib.hid (HU2.out.grow hB)
    clear hB
    have cHA0 := HA.out.2.1
    have cHB20 := HB2.out.2.1
    go_wp2_with fail
    refine (oex_yes _ HK.out).mono ?_
    rintro e w9 ⟨rfl, rfl⟩
    go_wp2_with fail
    obtain ⟨W15, hWD⟩ : ∃ xw9, W14.drew = xw9 := ⟨_, rfl⟩
    have hB : Below W14.heap.size W14 W15 := by rw [← hWD]; exact Below.drewN' (Below.refl _ _) 1
    clear cHA0 cHB20
    replace HA := Lib.hid (HA.out.below hB)
    replace HB2 := Lib.hid (HB2.out.below hB)
    replace HB := Lib.hid (HB.out.trans (hB.mono HB.out.size))
    replace HU := Lib.hid (HU.out.grow hB)
    replace HU2 := Lib.hid (HU2.out.grow hB)
    clear hB
    refine wp_region_held_drew (S := fun w' => w'.cell? ⟨w.heap.size, 0, none⟩ = some (uA) ∧ w'.cell? ⟨(w.heap.size + 1), 0, none⟩ = some (uB)) (by kernel_rfl) (by rw [hWD]; exact ⟨HA.out.2.1, HB2.out.2.1⟩) (fun hHeld => ?_)
    rw [hWD] at hHeld ⊢
    clear hWD
    refine wpAnyH_take (i := 0) (v := ?_) rfl (by kernel_rfl) (by kernel_rfl) (by kernel_rfl) (fun _ _ _ h => h) (Or.inl ⟨by rfl, ?_⟩) (by assumption) ?_
    rotate_left
    · (intro w hSw; (try dsimp only at hSw); go_simp; try with_reducible rfl)
    simp only [Act.put, List.getElem_toArray, List.getElem_cons_zero, List.setIfInBounds_toArray, List.set_cons_zero, List.set_cons_succ]
    refine wpAnyH_take (i := 1) (v := ?_) rfl (by kernel_rfl) (by kernel_rfl) (by kernel_rfl) (fun _ _ _ h => h) (Or.inl ⟨by rfl, ?_⟩) (by assumption) ?_
    rotate_left
    · (intro w hSw; (try dsimp only at hSw); go_simp; try with_reducible rfl)
    simp only [Act.put, List.getElem_toArray, List.getElem_cons_succ, List.getElem_cons_zero, List.setIfInBounds_toArray, List.set_cons_zero, List.set_cons_succ]
    refine wpAnyH_take (i := 3) (v := ?_) rfl (by kernel_rfl) (by kernel_rfl) (by kernel_rfl) (fun _ _ _ h => h) (Or.inl ⟨by rfl, ?_⟩) (by assumption) ?_
    rotate_left
    · (intro w hSw; (try dsimp only at hSw); go_simp; try with_reducible rfl)
    simp only [Act.put, List.getElem_toArray, List.getElem_cons_succ, List.getElem_cons_zero, List.setIfInBounds_toArray, List.set_cons_zero, List.set_cons_succ]
    refine wpAnyH_take (i := 4) (v := ?_) rfl (by kernel_rfl) (by kernel_rfl) (by kernel_rfl) (fun _ _ _ h => h) (Or.inl ⟨by rfl, ?_⟩) (by assumption) ?_
    rotate_left
    · (intro w hSw; (try dsimp only at hSw); go_simp; try with_reducible rfl)
    simp only [Act.put, List.getElem_toArray, List.getElem_cons_succ, List.getElem_cons_zero, List.setIfInBounds_toArray, List.set_cons_zero, List.set_cons_succ]
    refine wpAnyH_ready (rs := [2]) (by kernel_rfl) (by simp) ?_
    refine AllReadyH.cons (o := _) rfl (fun K hK => ?_) AllReadyH.nil
    clear hHeld
    go_simp
    refine (num_calls _ A _ _ HU.out).mono ?_
    rintro e W16 ⟨rfl, hB⟩
    replace HA := Lib.hid (HA.out.below hB)
    replace HB2 := Lib.hid (HB2.out.below hB)
    replace HB := Lib.hid (HB.out.trans (hB.mono HB.out.size))
    replace HU := Lib.hid (HU.out.grow hB)
    replace HU2 := Lib.hid (HU2.out.grow hB)
    rw [HX.out]
    clear hB
    try go_simp
    refine hK.out _ _ ?_ (fun hHeld => ?_)
    · exact ⟨HA.out.2.1, HB2.out.2.1⟩
    clear hK K
    refine wpAnyH_ready (rs := [5]) (by kernel_rfl) (by simp) ?_
    refine AllReadyH.cons (o := _) rfl (fun K hK => ?_) AllReadyH.nil
    clear hHeld
    go_simp
    refine (num_calls _ B _ _ HU2.out).mono ?_
    rintro e W17 ⟨rfl, hB⟩
    replace HA := Lib.hid (HA.out.below hB)
    replace HB2 := Lib.hid (HB2.out.below hB)
    replace HB := Lib.hid (HB.out.trans (hB.mono HB.out.size))
    replace HU := Lib.hid (HU.out.grow hB)
    replace HU2 := Lib.hid (HU2.out.grow hB)
    rw [HY.out]
    clear hB
    try go_simp
    refine hK.out _ _ ?_ (fun hHeld => ?_)
    · exact ⟨HA.out.2.1, HB2.out.2.1⟩
    clear hK K
    refine wpAnyH_ready (rs := [6]) (by kernel_rfl) (by simp) ?_
    refine AllReadyH.cons (o := _) rfl (fun K hK => ?_) AllReadyH.nil
    clear hHeld
    go_simp
    refine (cmpF_calls _ _ _ HFX.out HFY.out).mono ?_
    rintro e w9 ⟨rfl, rfl⟩
    try go_simp
    refine hK.out _ _ ?_ (fun hHeld => ?_)
    · exact ⟨HA.out.2.1, HB2.out.2.1⟩
    clear hK K
    refine wpAnyH_take (i := 7) (v := ?_) rfl (by kernel_rfl) (by kernel_rfl) (by kernel_rfl) (fun _ _ _ h => h) (Or.inl ⟨by rfl, ?_⟩) (by assumption) ?_
    rotate_left
    · (intro w hSw; (try dsimp only at hSw); go_simp; try with_reducible rfl)
    simp only [Act.put, List.getElem_toArray, List.getElem_cons_succ, List.getElem_cons_zero, List.setIfInBounds_toArray, List.set_cons_zero, List.set_cons_succ]
    refine wpAnyH_take (i := 8) (v := ?_) rfl (by kernel_rfl) (by kernel_rfl) (by kernel_rfl) (fun _ _ _ h => h) (Or.inl ⟨by rfl, ?_⟩) (by assumption) ?_
    rotate_left
    · (intro w hSw; (try dsimp only at hSw); go_simp; try with_reducible rfl)
    simp only [Act.put, List.getElem_toArray, List.getElem_cons_succ, List.getElem_cons_zero, List.setIfInBounds_toArray, List.set_cons_zero, List.set_cons_succ]
    refine wpAnyH_done (by kernel_rfl) ?_ _
    clear hHeld
    have cHA0 := HA.out.2.1
    have cHB20 := HB2.out.2.1
    go_wp2_with fail
    go_ret2
    exact ⟨rfl, HB.out⟩
  · have e1 : orB A B = true := by unfold orB; rw [HCA.out, HCB.out]; rfl
    have HKA := Lib.hid (show keyV A i = atI A.text 0 (i : Int) by unfold keyV; rw [if_neg (by rw [HCA.out]; decide)])
    have HKB := Lib.hid (show keyV B k = atI B.text 0 (k : Int) by unfold keyV; rw [if_neg (by rw [HCB.out]; decide)])
    obtain ⟨x, hx⟩ : ∃ x, atI A.text 0 (i : Int) = x := ⟨_, rfl⟩
    obtain ⟨y, hy⟩ : ∃ y, atI B.text 0 (k : Int) = y := ⟨_, rfl⟩
    have HX := Lib.hid hx
    have HY := Lib.hid hy
    clear hx hy
    have e2 : orC A i B k = cmpI x y := by unfold orC; rw [e1, if_pos rfl, HKA.out, HKB.out, HX.out, HY.out]
    rw [e1, e2]
    clear e1 e2
    have cHA0 := HA.out.2.1
    have cHB20 := HB2.out.2.1
    go_enter Tryz.func105, Tryz.ntmps105
    go_wp2_with fail
    clear hfold
    refine (class_calls _ A _ HU.out).mono ?_
    rintro e W11 ⟨rfl, hB⟩
    clear cHA0 cHB20
    replace HA := Lib.hid (HA.out.below hB)
    replace HB2 := Lib.hid (HB2.out.below hB)
    replace HB := Lib.hid (HB.out.trans (hB.mono HB.out.size))
    replace HU := Lib.hid (HU.out.grow hB)
    replace HU2 := Lib.hid (HU2.out.grow hB)
    rw [HCA.out]
    clear hB
    have cHA0 := HA.out.2.1
    have cHB20 := HB2.out.2.1
    go_wp2_with fail
    refine (class_calls _ B _ HU2.out).mono ?_
    rintro e W12 ⟨rfl, hB⟩
    clear cHA0 cHB20
    replace HA := Lib.hid (HA.out.below hB)
    replace HB2 := Lib.hid (HB2.out.below hB)
    replace HB := Lib.hid (HB.out.trans (hB.mono HB.out.size))
    replace HU := Lib.hid (HU.out.grow hB)
    replace HU2 := Lib.hid (HU2.out.grow hB)
    rw [HCB.out]
    clear hB
    have cHA0 := HA.out.2.1
    have cHB20 := HB2.out.2.1
    go_wp2_with fail
    refine (ohas_calls _ _).mono ?_
    rintro e w9 ⟨rfl, rfl⟩
    go_wp2_with fail
    refine (vlen_calls _ A _ HU.out).mono ?_
    rintro e W13 ⟨rfl, hB⟩
    clear cHA0 cHB20
    replace HA := Lib.hid (HA.out.below hB)
    replace HB2 := Lib.hid (HB2.out.below hB)
    replace HB := Lib.hid (HB.out.trans (hB.mono HB.out.size))
    replace HU := Lib.hid (HU.out.grow hB)
    replace HU2 := Lib.hid (HU2.out.grow hB)
    clear hB
    have cHA0 := HA.out.2.1
    have cHB20 := HB2.out.2.1
    go_wp2_with fail
    refine (oex_yes _ HI.out).mono ?_
    rintro e w9 ⟨rfl, rfl⟩
    go_wp2_with fail
    refine (vlen_calls _ B _ HU2.out).mono ?_
    rintro e W14 ⟨rfl, hB⟩
    clear cHA0 cHB20
    replace HA := Lib.hid (HA.out.below hB)
    replace HB2 := Lib.hid (HB2.out.below hB)
    replace HB := Lib.hid (HB.out.trans (hB.mono HB.out.size))
    replace HU := Lib.hid (HU.out.grow hB)
    replace HU2 := Lib.hid (HU2.out.grow hB)
    clear hB
    have cHA0 := HA.out.2.1
    have cHB20 := HB2.out.2.1
    go_wp2_with fail
    refine (oex_yes _ HK.out).mono ?_
    rintro e w9 ⟨rfl, rfl⟩
    go_wp2_with fail
    obtain ⟨W15, hWD⟩ : ∃ xw9, W14.drew = xw9 := ⟨_, rfl⟩
    have hB : Below W14.heap.size W14 W15 := by rw [← hWD]; exact Below.drewN' (Below.refl _ _) 1
    clear cHA0 cHB20
    replace HA := Lib.hid (HA.out.below hB)
    replace HB2 := Lib.hid (HB2.out.below hB)
    replace HB := Lib.hid (HB.out.trans (hB.mono HB.out.size))
    replace HU := Lib.hid (HU.out.grow hB)
    replace HU2 := Lib.hid (HU2.out.grow hB)
    clear hB
    refine wp_region_held_drew (S := fun w' => w'.cell? ⟨w.heap.size, 0, none⟩ = some (uA) ∧ w'.cell? ⟨(w.heap.size + 1), 0, none⟩ = some (uB)) (by kernel_rfl) (by rw [hWD]; exact ⟨HA.out.2.1, HB2.out.2.1⟩) (fun hHeld => ?_)
    rw [hWD] at hHeld ⊢
    clear hWD
    refine wpAnyH_take (i := 0) (v := ?_) rfl (by kernel_rfl) (by kernel_rfl) (by kernel_rfl) (fun _ _ _ h => h) (Or.inl ⟨by rfl, ?_⟩) (by assumption) ?_
    rotate_left
    · (intro w hSw; (try dsimp only at hSw); go_simp; try with_reducible rfl)
    simp only [Act.put, List.getElem_toArray, List.getElem_cons_zero, List.setIfInBounds_toArray, List.set_cons_zero, List.set_cons_succ]
    refine wpAnyH_take (i := 1) (v := ?_) rfl (by kernel_rfl) (by kernel_rfl) (by kernel_rfl) (fun _ _ _ h => h) (Or.inl ⟨by rfl, ?_⟩) (by assumption) ?_
    rotate_left
    · (intro w hSw; (try dsimp only at hSw); go_simp; try with_reducible rfl)
    simp only [Act.put, List.getElem_toArray, List.getElem_cons_succ, List.getElem_cons_zero, List.setIfInBounds_toArray, List.set_cons_zero, List.set_cons_succ]
    refine wpAnyH_take (i := 3) (v := ?_) rfl (by kernel_rfl) (by kernel_rfl) (by kernel_rfl) (fun _ _ _ h => h) (Or.inl ⟨by rfl, ?_⟩) (by assumption) ?_
    rotate_left
    · (intro w hSw; (try dsimp only at hSw); go_simp; try with_reducible rfl)
    simp only [Act.put, List.getElem_toArray, List.getElem_cons_succ, List.getElem_cons_zero, List.setIfInBounds_toArray, List.set_cons_zero, List.set_cons_succ]
    refine wpAnyH_take (i := 4) (v := ?_) rfl (by kernel_rfl) (by kernel_rfl) (by kernel_rfl) (fun _ _ _ h => h) (Or.inl ⟨by rfl, ?_⟩) (by assumption) ?_
    rotate_left
    · (intro w hSw; (try dsimp only at hSw); go_simp; try with_reducible rfl)
    simp only [Act.put, List.getElem_toArray, List.getElem_cons_succ, List.getElem_cons_zero, List.setIfInBounds_toArray, List.set_cons_zero, List.set_cons_succ]
    refine wpAnyH_ready (rs := [2]) (by kernel_rfl) (by simp) ?_
    refine AllReadyH.cons (o := _) rfl (fun K hK => ?_) AllReadyH.nil
    clear hHeld
    go_simp
    refine (vchar_calls _ A _ _ HU.out).mono ?_
    rintro e W16 ⟨rfl, hB⟩
    replace HA := Lib.hid (HA.out.below hB)
    replace HB2 := Lib.hid (HB2.out.below hB)
    replace HB := Lib.hid (HB.out.trans (hB.mono HB.out.size))
    replace HU := Lib.hid (HU.out.grow hB)
    replace HU2 := Lib.hid (HU2.out.grow hB)
    rw [HX.out]
    clear hB
    try go_simp
    refine hK.out _ _ ?_ (fun hHeld => ?_)
    · exact ⟨HA.out.2.1, HB2.out.2.1⟩
    clear hK K
    refine wpAnyH_ready (rs := [5]) (by kernel_rfl) (by simp) ?_
    refine AllReadyH.cons (o := _) rfl (fun K hK => ?_) AllReadyH.nil
    clear hHeld
    go_simp
    refine (vchar_calls _ B _ _ HU2.out).mono ?_
    rintro e W17 ⟨rfl, hB⟩
    replace HA := Lib.hid (HA.out.below hB)
    replace HB2 := Lib.hid (HB2.out.below hB)
    replace HB := Lib.hid (HB.out.trans (hB.mono HB.out.size))
    replace HU := Lib.hid (HU.out.grow hB)
    replace HU2 := Lib.hid (HU2.out.grow hB)
    rw [HY.out]
    clear hB
    try go_simp
    refine hK.out _ _ ?_ (fun hHeld => ?_)
    · exact ⟨HA.out.2.1, HB2.out.2.1⟩
    clear hK K
    refine wpAnyH_ready (rs := [6]) (by kernel_rfl) (by simp) ?_
    refine AllReadyH.cons (o := _) rfl (fun K hK => ?_) AllReadyH.nil
    clear hHeld
    go_simp
    refine (cmpR_calls _ _ _).mono ?_
    rintro e w9 ⟨rfl, rfl⟩
    try go_simp
    refine hK.out _ _ ?_ (fun hHeld => ?_)
    · exact ⟨HA.out.2.1, HB2.out.2.1⟩
    clear hK K
    refine wpAnyH_take (i := 7) (v := ?_) rfl (by kernel_rfl) (by kernel_rfl) (by kernel_rfl) (fun _ _ _ h => h) (Or.inl ⟨by rfl, ?_⟩) (by assumption) ?_
    rotate_left
    · (intro w hSw; (try dsimp only at hSw); go_simp; try with_reducible rfl)
    simp only [Act.put, List.getElem_toArray, List.getElem_cons_succ, List.getElem_cons_zero, List.setIfInBounds_toArray, List.set_cons_zero, List.set_cons_succ]
    refine wpAnyH_take (i := 8) (v := ?_) rfl (by kernel_rfl) (by kernel_rfl) (by kernel_rfl) (fun _ _ _ h => h) (Or.inl ⟨by rfl, ?_⟩) (by assumption) ?_
    rotate_left
    · (intro w hSw; (try dsimp only at hSw); go_simp; try with_reducible rfl)
    simp only [Act.put, List.getElem_toArray, List.getElem_cons_succ, List.getElem_cons_zero, List.setIfInBounds_toArray, List.set_cons_zero, List.set_cons_succ]
    refine wpAnyH_done (by kernel_rfl) ?_ _
    clear hHeld
    have cHA0 := HA.out.2.1
    have cHB20 := HB2.out.2.1
    go_wp2_with fail
    go_ret2
    exact ⟨rfl, HB.out⟩
  · have e1 : orB A B = false := by unfold orB; rw [HCA.out, HCB.out]; rfl
    have e2 : orC A i B k = 0 := by unfold orC; rw [e1]; rfl
    rw [e1, e2]
    clear e1 e2
    have cHA0 := HA.out.2.1
    have cHB20 := HB2.out.2.1
    go_enter Tryz.func105, Tryz.ntmps105
    go_wp2_with fail
    clear hfold
    refine (class_calls _ A _ HU.out).mono ?_
    rintro e W11 ⟨rfl, hB⟩
    clear cHA0 cHB20
    replace HA := Lib.hid (HA.out.below hB)
    replace HB2 := Lib.hid (HB2.out.below hB)
    replace HB := Lib.hid (HB.out.trans (hB.mono HB.out.size))
    replace HU := Lib.hid (HU.out.grow hB)
    replace HU2 := Lib.hid (HU2.out.grow hB)
    rw [HCA.out]
    clear hB
    have cHA0 := HA.out.2.1
    have cHB20 := HB2.out.2.1
    go_wp2_with fail
    refine (class_calls _ B _ HU2.out).mono ?_
    rintro e W12 ⟨rfl, hB⟩
    clear cHA0 cHB20
    replace HA := Lib.hid (HA.out.below hB)
    replace HB2 := Lib.hid (HB2.out.below hB)
    replace HB := Lib.hid (HB.out.trans (hB.mono HB.out.size))
    replace HU := Lib.hid (HU.out.grow hB)
    replace HU2 := Lib.hid (HU2.out.grow hB)
    rw [HCB.out]
    clear hB
    have cHA0 := HA.out.2.1
    have cHB20 := HB2.out.2.1
    go_wp2_with fail
    refine (ohas_calls _ _).mono ?_
    rintro e w9 ⟨rfl, rfl⟩
    go_wp2_with fail
    go_ret2
    exact ⟨rfl, HB.out⟩
end Go.Proofs.YtbdbpamefkgelaaGreatDoor

/- Layer 18, walked: Ordered. Written by tools/gen_mgo.py. -/
import Derived.Test.YtbdbpamefkgelaaGreatDoorMgV
import Derived.Test.YtbdbpamefkgelaaGreatDoorMgL
import Derived.Test.YtbdbpamefkgelaaGreatDoorFlT
import Derived.Test.YtbdbpamefkgelaaGreatDoorArM
namespace Go.Proofs.YtbdbpamefkgelaaGreatDoor
set_option maxRecDepth 100000
open Go.RowKit Fl
set_option linter.unusedVariables false

set_option maxHeartbeats 8000000 in
theorem mgordered_no {ok : Nat → Prop} (u : Value) (A : VV) (down : Bool) (w : World) (h : IsV w ok u A) (hA : A.ok ∧ A.nm) (hc : A.cls = 2) (hT : TabAt w) :
    Calls Tryz.prog 19 #[.agg #[u], .bool down] w fun e w' => e = .returned (.tuple #[.agg #[.nilIface], .bool false]) ∧ Below w.heap.size w w' := by
  have hsu := h.store
  obtain ⟨W1, hW1⟩ : ∃ W1, W1 = (w.alloc (.cells #[u] 36)).alloc (.cells #[.nilIface] 36) := ⟨_, rfl⟩
  have HB := Lib.hid (show Below w.heap.size w W1 by rw [hW1]; exact ((below_new _ _).alloc (by simp) _))
  have HSZ := Lib.hid (show W1.heap.size = w.heap.size + 2 by rw [hW1]; simp)
  have HV := Lib.hid (show At1 W1 w.heap.size u by rw [hW1]; exact (At1.new w _ _).below (below_new _ _))
  have HR := Lib.hid (show At1 W1 (w.heap.size + 1) .nilIface by rw [hW1]; have := At1.new (w.alloc (.cells #[u] 36)) .nilIface 36; simpa using this)
  have HU := Lib.hid (show IsV W1 ok u A from h.grow HB.out)
  have HT := Lib.hid (show TabAt W1 from fun j hj => keep_below HB.out _ _ (hT j hj))
  have HW1 := Lib.hid (Below.refl W1.heap.size W1)
  have hfold := hW1.symm
  have HG := Lib.hid (show ∀ wx : World, IsV wx ok u A → TabAt wx → Calls Tryz.prog 15 #[.agg #[u], .int .i64 1, .bool down] wx (MgNo wx) from fun wx h1 h2 => mggrade_no u A 1 down wx h1 hA (Or.inl hc) h2)
  clear hW1 h hA hc hT
  have cHV0 := HV.out.2.1
  have cHR0 := HR.out.2.1
  have zHR0 := HR.out.2.2 0
  go_enter Tryz.func19, Tryz.ntmps19
  go_wp2_with fail
  clear hfold
  refine (HG.out _ HU.out HT.out).mono ?_
  rintro e W2 ⟨rfl, hB⟩
  clear cHV0 cHR0 zHR0
  replace HV := Lib.hid (HV.out.below hB)
  replace HR := Lib.hid (HR.out.below hB)
  replace HU := Lib.hid (HU.out.grow hB)
  replace HT := Lib.hid (fun j hj => keep_below hB _ _ (HT.out j hj))
  replace HB := Lib.hid (HB.out.trans (hB.mono HB.out.size))
  replace HW1 := Lib.hid (HW1.out.trans (hB.mono HW1.out.size))
  clear hB
  have cHR0 := HR.out.2.1
  have zHR0 := HR.out.2.2 0
  go_wp2
  refine bodyPost_ret (v := .tuple #[.agg #[.nilIface], .bool false]) (by simp [results, Tryz.results19, go_sem, cHR0, World.cell?_setCell_same]) rfl ⟨rfl, ?_⟩
  exact HB.out.setCell (Nat.le_succ _) _
theorem sel_sqL {A : VV} (hok : A.ok) (hn : A.nm) (hc : A.cls = 0) {at_ : List Int} (hm : at_.length ≤ 1048576) : A.sel at_ = sqL (at_.map (atI A.nums 0)) := by
  by_cases hb : A.isBit = true
  · have hN := VV.nums_num hok hn
    have e1 := VV.sel_numbers at_ hN hm hc
    rw [← e1]
    rw [VV.sel_bits hb]
    exact VV.canon (V := .bits (at_.map (sqI A.packed))) (by show (at_.map (sqI A.packed)).length ≤ 1048576; rw [List.length_map]; exact hm) trivial rfl rfl (show (0 : Int) < 1 by decide)
  · exact VV.sel_nums hc (by simpa using hb) at_
theorem cut_all (L : List Nat) : (VV.floats L).cut 0 (L.length : Int) = sqL L := by
  have e0 : cl8 0 (VV.floats L).len = 0 := by unfold cl8; omega
  have e1 : cl8 (L.length : Int) (VV.floats L).len = L.length := by unfold cl8; simp [VV.len]
  unfold VV.cut
  rw [if_neg (by simp [VV.isBit]), e0, e1, Nat.sub_zero, VV.sel_nums rfl rfl]
  unfold sqL
  congr 2
  apply List.ext_getElem (by simp [cutL])
  intro i h1 h2
  simp only [cutL, List.getElem_map, List.getElem_range]
  rw [show ((0 : Nat) : Int) + (i : Int) = (i : Int) by omega]
  exact atI_nat h2
set_option maxHeartbeats 8000000 in
theorem mgordered_yes {ok : Nat → Prop} (u : Value) (A : VV) (down : Bool) (w : World) (h : IsV w ok u A) (hA : A.ok ∧ A.nm) (ht : ∀ z ∈ A.text, -2147483648 ≤ z ∧ z ≤ 2147483647) (hc : A.cls < 2) (hk : A.kind ≠ 0) (hT : TabAt w) :
    Calls Tryz.prog 19 #[.agg #[u], .bool down] w fun e w' => ∃ u', e = .returned (.tuple #[.agg #[u'], .bool true]) ∧ IsV w' (fun b => (ok b ∧ b < w.heap.size) ∨ w.heap.size ≤ b) u' (A.sel (zL (mgL A 1 down))) ∧ Below w.heap.size w w' := by
  have hsu := h.store
  obtain ⟨W1, hW1⟩ : ∃ W1, W1 = (w.alloc (.cells #[u] 36)).alloc (.cells #[.nilIface] 36) := ⟨_, rfl⟩
  have HB := Lib.hid (show Below w.heap.size w W1 by rw [hW1]; exact ((below_new _ _).alloc (by simp) _))
  have HSZ := Lib.hid (show W1.heap.size = w.heap.size + 2 by rw [hW1]; simp)
  have HV := Lib.hid (show At1 W1 w.heap.size u by rw [hW1]; exact (At1.new w _ _).below (below_new _ _))
  have HR := Lib.hid (show At1 W1 (w.heap.size + 1) .nilIface by rw [hW1]; have := At1.new (w.alloc (.cells #[u] 36)) .nilIface 36; simpa using this)
  have HU := Lib.hid (show IsV W1 ok u A from h.grow HB.out)
  have HT := Lib.hid (show TabAt W1 from fun j hj => keep_below HB.out _ _ (hT j hj))
  have HW1 := Lib.hid (Below.refl W1.heap.size W1)
  have hfold := hW1.symm
  have HG := Lib.hid (show ∀ wx : World, IsV wx ok u A → TabAt wx → Calls Tryz.prog 15 #[.agg #[u], .int .i64 1, .bool down] wx (MgYes A 1 down wx) from fun wx h1 h2 => mggrade_yes u A 1 down wx h1 hA ht hc hk (by decide) (by decide) h2)
  have HLN := Lib.hid (VV.ok_len hA.1)
  obtain ⟨l, hl⟩ : ∃ l, mgL A 1 down = l := ⟨_, rfl⟩
  have hll : l.length = A.len := by rw [← hl, mgL_len, Nat.div_one]
  have HLT := Lib.hid (show ∀ x ∈ l, x < A.len from fun x hx => by
    rw [← hl] at hx
    have := grN_mem x hx
    rwa [Nat.div_one] at this)
  have HL := Lib.hid hl
  have HLL := Lib.hid hll
  have HA := Lib.hid hA
  rw [hl]
  have hc2 : A.cls = 0 ∨ A.cls = 1 := by rcases VV.cls_cases A with c | c | c <;> omega
  clear hW1 h hA ht hc hk hT hl hll
  have cHV0 := HV.out.2.1
  have cHR0 := HR.out.2.1
  have zHR0 := HR.out.2.2 0
  go_enter Tryz.func19, Tryz.ntmps19
  go_wp2_with fail
  clear hfold
  refine (HG.out _ HU.out HT.out).mono ?_
  rintro e W2 ⟨v, rfl, hv, hB⟩
  have HVL := Lib.hid (show Slc W2 (fun _ => True) v l.length (ints (zL l)) by rw [HL.out, Nat.div_one, ← HLL.out] at hv; exact hv.any)
  obtain ⟨vo, vc, rfl, _⟩ := HVL.out.opened
  clear cHV0 cHR0 zHR0 hv
  replace HV := Lib.hid (HV.out.below hB)
  replace HR := Lib.hid (HR.out.below hB)
  replace HU := Lib.hid (HU.out.grow hB)
  replace HT := Lib.hid (fun j hj => keep_below hB _ _ (HT.out j hj))
  replace HB := Lib.hid (HB.out.trans (hB.mono HB.out.size))
  replace HW1 := Lib.hid (HW1.out.trans (hB.mono HW1.out.size))
  clear hB
  have cHV0 := HV.out.2.1
  have cHR0 := HR.out.2.1
  go_wp2_with fail
  refine (class_calls _ A _ HU.out).mono ?_
  rintro e W3 ⟨rfl, hB⟩
  replace HVL := Lib.hid (HVL.out.below hB)
  clear cHV0 cHR0
  replace HV := Lib.hid (HV.out.below hB)
  replace HR := Lib.hid (HR.out.below hB)
  replace HU := Lib.hid (HU.out.grow hB)
  replace HT := Lib.hid (fun j hj => keep_below hB _ _ (HT.out j hj))
  replace HB := Lib.hid (HB.out.trans (hB.mono HB.out.size))
  replace HW1 := Lib.hid (HW1.out.trans (hB.mono HW1.out.size))
  clear hB
  have hmf : ∀ (fn : Fn) (first cap : Array Value) (w : World), (Instr.makeFunc fn first cap).run Tryz.prog w = .ok (.func fn first cap) w := fun _ _ _ _ => rfl
  rcases hc2 with hcl | hcl
  · rw [hcl]
    have HCL := Lib.hid hcl
    clear hcl
    have cHV0 := HV.out.2.1
    go_wp2_with fail
    refine (mglistf_calls u A _ l _ HU.out HVL.out (by rw [HLL.out]; exact HLN.out)).mono ?_
    rintro e W4 ⟨vf, rfl, hvf, hB⟩
    obtain ⟨L, hLL⟩ : ∃ L, (l.map fun (x : Nat) => atI A.nums 0 (x : Int)) = L := ⟨_, rfl⟩
    have hLlen : L.length = l.length := by rw [← hLL, List.length_map]
    have HNUM := Lib.hid (show ∀ x ∈ L, Num x from fun x hx => by
      rw [← hLL] at hx
      obtain ⟨y, hy, rfl⟩ := List.mem_map.1 hx
      have hyl : y < A.nums.length := by rw [VV.nums_length HCL.out]; exact HLT.out y hy
      rw [atI_nat hyl]
      exact VV.nums_num HA.out.1 HA.out.2 _ (List.getElem_mem _))
    have HSEL := Lib.hid (show A.sel (zL l) = sqL L by
      rw [sel_sqL HA.out.1 HA.out.2 HCL.out (by rw [zL_len, HLL.out]; exact HLN.out), ← hLL]
      unfold zL; rw [List.map_map]; rfl)
    rw [hLL, ← hLlen] at hvf
    have HVF := Lib.hid hvf
    have HLL2 := Lib.hid (show L.length ≤ 1048576 by rw [hLlen, HLL.out]; exact HLN.out)
    clear hLL hLlen hvf cHV0
    replace HV := Lib.hid (HV.out.below hB)
    replace HR := Lib.hid (HR.out.below hB)
    replace HU := Lib.hid (HU.out.grow hB)
    replace HT := Lib.hid (fun j hj => keep_below hB _ _ (HT.out j hj))
    replace HB := Lib.hid (HB.out.trans (hB.mono HB.out.size))
    replace HW1 := Lib.hid (HW1.out.trans (hB.mono HW1.out.size))
    clear hB
    go_wp2_with fail
    refine (vfloats_yes _ L _ HVF.out (by have := HLL2.out; omega) (fun x hx => (HNUM.out x hx).1)).mono ?_
    rintro e W5 ⟨uz, rfl, huz, hB⟩
    have e9 : L.map ze = L := by
      conv => rhs; rw [← List.map_id L]
      exact List.map_congr_left fun x hx => by rw [ze_of_num (HNUM.out x hx)]; rfl
    rw [e9] at huz
    clear e9
    have HUZ := Lib.hid (show IsV W5 (fun b => w.heap.size + 1 < b) uz (.floats L) from huz.wide (fun b _ h => Nat.lt_of_lt_of_le (by have := HW1.out.size; have := HSZ.out; omega) h))
    have hsz := huz.store
    have HNE := Lib.hid (show w.heap.size + 1 < W5.heap.size by have := HW1.out.size; have := hB.size; have := HSZ.out; omega)
    clear huz
    replace HV := Lib.hid (HV.out.below hB)
    replace HR := Lib.hid (HR.out.below hB)
    replace HU := Lib.hid (HU.out.grow hB)
    replace HT := Lib.hid (fun j hj => keep_below hB _ _ (HT.out j hj))
    replace HB := Lib.hid (HB.out.trans (hB.mono HB.out.size))
    replace HW1 := Lib.hid (HW1.out.trans (hB.mono HW1.out.size))
    clear hB
    obtain ⟨W6, hWn⟩ : ∃ xw9, W5.alloc (.cells #[uz] 36) = xw9 := ⟨_, rfl⟩
    have hB : Below W5.heap.size W5 W6 := by rw [← hWn]; exact below_new _ _
    have HZ := Lib.hid (show At1 W6 W5.heap.size uz by rw [← hWn]; exact At1.new _ _ _)
    replace HUZ := Lib.hid (HUZ.out.grow hB)
    replace HV := Lib.hid (HV.out.below hB)
    replace HR := Lib.hid (HR.out.below hB)
    replace HU := Lib.hid (HU.out.grow hB)
    replace HT := Lib.hid (fun j hj => keep_below hB _ _ (HT.out j hj))
    replace HB := Lib.hid (HB.out.trans (hB.mono HB.out.size))
    replace HW1 := Lib.hid (HW1.out.trans (hB.mono HW1.out.size))
    clear hB
    have cHV0 := HV.out.2.1
    have cHR0 := HR.out.2.1
    have cHZ0 := HZ.out.2.1
    go_wp2_with fail
    clear hWn
    obtain ⟨W7, hWD⟩ : ∃ xw9, W6.drew = xw9 := ⟨_, rfl⟩
    have hB : Below W6.heap.size W6 W7 := by rw [← hWD]; exact Below.drewN' (Below.refl _ _) 1
    replace HZ := Lib.hid (HZ.out.below hB)
    replace HUZ := Lib.hid (HUZ.out.grow hB)
    replace HV := Lib.hid (HV.out.below hB)
    replace HR := Lib.hid (HR.out.below hB)
    replace HU := Lib.hid (HU.out.grow hB)
    replace HT := Lib.hid (fun j hj => keep_below hB _ _ (HT.out j hj))
    replace HB := Lib.hid (HB.out.trans (hB.mono HB.out.size))
    replace HW1 := Lib.hid (HW1.out.trans (hB.mono HW1.out.size))
    clear hB
    refine wp_region_held_drew (S := fun w' => w'.cell? ⟨W5.heap.size, 0, none⟩ = some uz) (by kernel_rfl) (by rw [hWD]; exact HZ.out.2.1) (fun hHeld => ?_)
    rw [hWD] at hHeld ⊢
    clear hWD cHV0 cHR0 cHZ0
    refine wpAnyH_take (i := 0) (v := ?_) rfl (by kernel_rfl) (by kernel_rfl) (by kernel_rfl) (fun _ _ _ h => h) (Or.inl ⟨by rfl, ?_⟩) (by assumption) ?_
    rotate_left
    · (intro w hSw; (try dsimp only at hSw); go_simp; try with_reducible rfl)
    simp only [Act.put, List.getElem_toArray, List.getElem_cons_zero, List.setIfInBounds_toArray, List.set_cons_zero, List.set_cons_succ]
    refine wpAnyH_take (i := 1) (v := ?_) rfl (by kernel_rfl) (by kernel_rfl) (by kernel_rfl) (fun _ _ _ h => h) (Or.inl ⟨by rfl, ?_⟩) (by assumption) ?_
    rotate_left
    · (intro w hSw; (try dsimp only at hSw); go_simp; try with_reducible rfl)
    simp only [Act.put, List.getElem_toArray, List.getElem_cons_succ, List.getElem_cons_zero, List.setIfInBounds_toArray, List.set_cons_zero, List.set_cons_succ]
    refine wpAnyH_ready (rs := [2]) (by kernel_rfl) (by simp) ?_
    refine AllReadyH.cons (o := _) rfl (fun K' hK' => ?_) AllReadyH.nil
    clear hHeld
    go_simp
    refine (vlen_calls _ (.floats L) _ HUZ.out).mono ?_
    rintro e W8 ⟨rfl, hB⟩
    replace HZ := Lib.hid (HZ.out.below hB)
    replace HUZ := Lib.hid (HUZ.out.grow hB)
    replace HV := Lib.hid (HV.out.below hB)
    replace HR := Lib.hid (HR.out.below hB)
    replace HU := Lib.hid (HU.out.grow hB)
    replace HT := Lib.hid (fun j hj => keep_below hB _ _ (HT.out j hj))
    replace HB := Lib.hid (HB.out.trans (hB.mono HB.out.size))
    replace HW1 := Lib.hid (HW1.out.trans (hB.mono HW1.out.size))
    clear hB
    refine hK'.out _ _ HZ.out.2.1 (fun hHeld => ?_)
    clear hK' K'
    refine wpAnyH_ready (rs := [3]) (by kernel_rfl) (by simp) ?_
    refine AllReadyH.cons (o := _) rfl (fun K' hK' => ?_) AllReadyH.nil
    clear hHeld
    go_simp
    have HO := Lib.hid (show w.heap.size + 2 ≤ W8.heap.size by have := HW1.out.size; have := HSZ.out; omega)
    refine (fcut_calls _ (.floats L) 0 (L.length : Int) _ HUZ.out HLL2.out HNUM.out (fun a h => by simp [VV.boxs] at h) HT.out).mono ?_
    rintro e W9 ⟨uq, rfl, huq, hB⟩
    rw [cut_all] at huq
    have HQ := Lib.hid (show IsV W9 (fun b => w.heap.size + 1 < b) uq (sqL L) from huq.wide (fun b _ h => by rcases h with h | h; exact h.1; exact Nat.lt_of_lt_of_le (by have := HO.out; omega) h))
    have hsq := huq.store
    clear huq
    replace HZ := Lib.hid (HZ.out.below hB)
    replace HV := Lib.hid (HV.out.below hB)
    replace HR := Lib.hid (HR.out.below hB)
    replace HU := Lib.hid (HU.out.grow hB)
    replace HT := Lib.hid (fun j hj => keep_below hB _ _ (HT.out j hj))
    replace HB := Lib.hid (HB.out.trans (hB.mono HB.out.size))
    replace HW1 := Lib.hid (HW1.out.trans (hB.mono HW1.out.size))
    clear hB
    refine hK'.out _ _ HZ.out.2.1 (fun hHeld => ?_)
    clear hK' K'
    refine wpAnyH_ready (rs := [4]) (by kernel_rfl) (by simp) ?_
    refine AllReadyH.cons (o := _) rfl (fun K' hK' => ?_) AllReadyH.nil
    clear hHeld
    have s0 := HR.out.2.1
    have t0 := HR.out.2.2 0
    go_simp
    clear s0 t0
    obtain ⟨W10, hWn⟩ : ∃ xw9, W9.setCell ⟨w.heap.size + 1, 0, none⟩ uq = xw9 := ⟨_, rfl⟩
    rw [hWn]
    replace HR := Lib.hid (show At1 W10 (w.heap.size + 1) uq by rw [← hWn]; exact At1.put1 HR.out _)
    replace HB := Lib.hid (show Below w.heap.size w W10 by rw [← hWn]; exact HB.out.setCell (Nat.le_succ _) _)
    replace HQ := Lib.hid (show IsV W10 (fun b => w.heap.size + 1 < b) uq (sqL L) by rw [← hWn]; exact HQ.out.keep (Kept.setCell _ _ _ (by simp)) (fun _ _ h => h))
    replace HZ := Lib.hid (show At1 W10 W5.heap.size uz by rw [← hWn]; exact HZ.out.grown (grown_setCell _ ⟨w.heap.size + 1, 0, none⟩ _) (by have := HNE.out; simp; omega))
    clear hWn
    refine hK'.out _ _ HZ.out.2.1 (fun hHeld => ?_)
    clear hK' K'
    refine wpAnyH_take (i := 5) (v := ?_) rfl (by kernel_rfl) (by kernel_rfl) (by kernel_rfl) (fun _ _ _ h => h) (Or.inl ⟨by rfl, ?_⟩) (by assumption) ?_
    rotate_left
    · (intro w hSw; (try dsimp only at hSw); go_simp; try with_reducible rfl)
    simp only [Act.put, List.getElem_toArray, List.getElem_cons_succ, List.getElem_cons_zero, List.setIfInBounds_toArray, List.set_cons_zero, List.set_cons_succ]
    refine wpAnyH_done (by kernel_rfl) ?_ _
    clear hHeld
    have cHR0 := HR.out.2.1
    go_wp2
    refine bodyPost_ret (v := .tuple #[.agg #[uq], .bool true]) (by simp [results, Tryz.results19, go_sem, cHR0]) rfl ⟨uq, rfl, ?_, HB.out⟩
    rw [HSEL.out]
    exact HQ.out.wide (fun b _ h => Or.inr (by omega))
  · rw [hcl]
    have HCL := Lib.hid hcl
    clear hcl
    have cHV0 := HV.out.2.1
    go_wp2_with fail
    refine (mglistr_calls u A _ l _ HU.out HVL.out (by rw [HLL.out]; exact HLN.out)).mono ?_
    rintro e W4 ⟨vf, rfl, hvf, hB⟩
    obtain ⟨L, hLL⟩ : ∃ L, (l.map fun (x : Nat) => atI A.text 0 (x : Int)) = L := ⟨_, rfl⟩
    have hLlen : L.length = l.length := by rw [← hLL, List.length_map]
    have HSEL := Lib.hid (show A.sel (zL l) = .chars L by
      rw [VV.sel_chars HCL.out, ← hLL]
      unfold zL; rw [List.map_map]
      congr 1
      refine List.map_congr_left fun x hx => ?_
      have hxl : x < A.text.length := by rw [VV.text_len HCL.out]; exact HLT.out x hx
      show atI A.text 32 (x : Int) = _
      rw [atI_nat hxl, atI_nat hxl])
    rw [hLL, ← hLlen] at hvf
    have HVF := Lib.hid hvf
    have HLL2 := Lib.hid (show L.length ≤ 1048576 by rw [hLlen, HLL.out]; exact HLN.out)
    clear hLL hLlen hvf cHV0
    replace HV := Lib.hid (HV.out.below hB)
    replace HR := Lib.hid (HR.out.below hB)
    replace HU := Lib.hid (HU.out.grow hB)
    replace HT := Lib.hid (fun j hj => keep_below hB _ _ (HT.out j hj))
    replace HB := Lib.hid (HB.out.trans (hB.mono HB.out.size))
    replace HW1 := Lib.hid (HW1.out.trans (hB.mono HW1.out.size))
    clear hB
    go_wp2_with fail
    refine (vchars_calls _ L _ HVF.out (by have := HLL2.out; omega)).mono ?_
    rintro e W5 ⟨uq, rfl, huq, hB⟩
    have HQ := Lib.hid (show IsV W5 (fun b => w.heap.size + 1 < b) uq (.chars L) from huq.wide (fun b _ h => Nat.lt_of_lt_of_le (by have := HW1.out.size; have := HSZ.out; omega) h))
    have hsq := huq.store
    clear huq
    replace HV := Lib.hid (HV.out.below hB)
    replace HR := Lib.hid (HR.out.below hB)
    replace HU := Lib.hid (HU.out.grow hB)
    replace HT := Lib.hid (fun j hj => keep_below hB _ _ (HT.out j hj))
    replace HB := Lib.hid (HB.out.trans (hB.mono HB.out.size))
    replace HW1 := Lib.hid (HW1.out.trans (hB.mono HW1.out.size))
    clear hB
    have cHR0 := HR.out.2.1
    have zHR0 := HR.out.2.2 0
    go_wp2
    refine bodyPost_ret (v := .tuple #[.agg #[uq], .bool true]) (by simp [results, Tryz.results19, go_sem, cHR0, World.cell?_setCell_same]) rfl ⟨uq, rfl, ?_, HB.out.setCell (Nat.le_succ _) _⟩
    rw [HSEL.out]
    exact HQ.out.keep (Kept.setCell _ _ _ (by simp)) (fun b _ h => Or.inr (by omega))
end Go.Proofs.YtbdbpamefkgelaaGreatDoor

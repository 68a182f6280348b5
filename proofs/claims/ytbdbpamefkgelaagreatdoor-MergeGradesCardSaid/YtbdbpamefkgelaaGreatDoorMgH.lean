/- Layer 18's laws: awake. -/
import Derived.Test.YtbdbpamefkgelaaGreatDoorMgZ
import Derived.Test.YtbdbpamefkgelaaGreatDoorPiC
import Derived.Test.YtbdbpamefkgelaaGreatDoorVeN
namespace Go.Proofs.YtbdbpamefkgelaaGreatDoor
set_option maxRecDepth 100000
open Go.RowKit Fl
set_option linter.unusedVariables false

def Yes18 (w : World) (e : Ending) (w' : World) : Prop := e = .returned (.bool true) ∧ Below w.heap.size w w'
theorem aw18_num : ∀ x ∈ ([4602678819172646912, 4613937818241073152, 13830554455654793216] : List Nat), Num x := by
  intro x hx
  simp only [List.mem_cons, List.not_mem_nil, or_false] at hx
  rcases hx with rfl | rfl | rfl <;> exact ⟨⟨by decide, by decide⟩, by decide +kernel⟩
theorem aw18_ze : ([4602678819172646912, 4613937818241073152, 13830554455654793216] : List Nat).map ze = [4602678819172646912, 4613937818241073152, 13830554455654793216] := map_ze aw18_num
theorem aw18_lt : V 13830554455654793216 < V 4602678819172646912 ∧ V 4602678819172646912 < V 4613937818241073152 := by
  have f1 := (aw18_num 13830554455654793216 (by decide)).1
  have f2 := (aw18_num 4602678819172646912 (by decide)).1
  have f3 := (aw18_num 4613937818241073152 (by decide)).1
  refine ⟨?_, ?_⟩
  · rcases ord_both f1 f2 with ⟨h, _, _⟩ | ⟨_, h, _⟩ | ⟨_, h, _⟩
    · exact h
    · exact absurd h (by decide +kernel)
    · exact absurd h (by decide +kernel)
  · rcases ord_both f2 f3 with ⟨h, _, _⟩ | ⟨_, h, _⟩ | ⟨_, h, _⟩
    · exact h
    · exact absurd h (by decide +kernel)
    · exact absurd h (by decide +kernel)
noncomputable def aw18V : VV := (VV.floats [4602678819172646912, 4613937818241073152, 13830554455654793216]).sq
theorem aw18_V : (aw18V.ok ∧ aw18V.nm) ∧ aw18V.len = 3 ∧ aw18V.nums = [4602678819172646912, 4613937818241073152, 13830554455654793216] ∧ aw18V.cls = 0 ∧ aw18V.kind ≠ 0 := by
  obtain ⟨a, b, c, d, e⟩ := sq_facts (t := [4602678819172646912, 4613937818241073152, 13830554455654793216]) (by decide) aw18_num
  obtain ⟨s1, s2, s3, s4, s5, s6⟩ := VV.sq_spec (V := VV.floats [4602678819172646912, 4613937818241073152, 13830554455654793216]) (show ([4602678819172646912, 4613937818241073152, 13830554455654793216] : List Nat).length ≤ 1048576 by decide) aw18_num
  refine ⟨⟨a, b⟩, c, d, s3, fun h => ?_⟩
  have : aw18V = .none := VV.kind_cases _ h
  unfold aw18V at this
  rw [this] at c
  cases c
theorem aw18_key : keyV aw18V 0 = V 4602678819172646912 ∧ keyV aw18V 1 = V 4613937818241073152 ∧ keyV aw18V 2 = V 13830554455654793216 := by
  obtain ⟨_, b, d, e, _⟩ := aw18_V
  refine ⟨?_, ?_, ?_⟩ <;> (unfold keyV; rw [if_pos e, d]; rfl)
theorem aw18_up : mgL aw18V 1 false = [2, 0, 1] := by
  unfold mgL
  refine ((so_iff (lesK_tot _ _ _ _) (grN_gr (lesK_tot _ _ _ _))).1 ?_).symm
  obtain ⟨k0, k1, k2⟩ := aw18_key
  obtain ⟨a, b⟩ := aw18_lt
  rw [aw18_V.2.1]
  refine ⟨rfl, by decide, by decide, fun r hr => ?_⟩
  match r, hr with
  | 0, _ => exact lesK_one.2 (Or.inl (by simp only [Bool.false_eq_true, if_false]; show keyV aw18V 2 < keyV aw18V 0; rw [k2, k0]; exact a))
  | 1, _ => exact lesK_one.2 (Or.inl (by simp only [Bool.false_eq_true, if_false]; show keyV aw18V 0 < keyV aw18V 1; rw [k0, k1]; exact b))
  | r + 2, hr => omega
theorem aw18_dn : mgL aw18V 1 true = [1, 0, 2] := by
  unfold mgL
  refine ((so_iff (lesK_tot _ _ _ _) (grN_gr (lesK_tot _ _ _ _))).1 ?_).symm
  obtain ⟨k0, k1, k2⟩ := aw18_key
  obtain ⟨a, b⟩ := aw18_lt
  rw [aw18_V.2.1]
  refine ⟨rfl, by decide, by decide, fun r hr => ?_⟩
  match r, hr with
  | 0, _ => exact lesK_one.2 (Or.inl (by simp only [if_true]; show keyV aw18V 0 < keyV aw18V 1; rw [k0, k1]; exact b))
  | 1, _ => exact lesK_one.2 (Or.inl (by simp only [if_true]; show keyV aw18V 2 < keyV aw18V 0; rw [k2, k0]; exact a))
  | r + 2, hr => omega
theorem aw18_sel (l : List Int) (h : l.length = 3) : (aw18V.sel l).nums = l.map (atI [4602678819172646912, 4613937818241073152, 13830554455654793216] 0) ∧ (aw18V.sel l).ok := by
  have hN := VV.nums_num aw18_V.1.1 aw18_V.1.2
  rw [VV.sel_numbers l hN (by omega) aw18_V.2.2.2.1, aw18_V.2.2.1]
  refine ⟨rfl, ?_⟩
  have hb : aw18V.isBit = false ∨ aw18V.isBit = true := by cases aw18V.isBit <;> simp
  rcases hb with hb | hb
  · rw [VV.sel_nums aw18_V.2.2.2.1 hb]
    exact (sq_facts (by rw [List.length_map]; omega) (map_atI_num hN)).1
  · rw [VV.sel_bits hb]
    show (l.map _).length ≤ 1048576
    rw [List.length_map]; omega
theorem text_none18 {A : VV} (h : A.cls = 0) : A.text = [] := by cases A <;> first | rfl | (simp [VV.cls] at h)
theorem ordered18 {ok : Nat → Prop} (u : Value) (down : Bool) (l : List Nat) (w : World) (h : IsV w ok u aw18V) (hT : TabAt w) (hl : mgL aw18V 1 down = l) (h3 : l.length = 3) :
    Calls Tryz.prog 19 #[.agg #[u], .bool down] w fun e w' => ∃ u' B, e = .returned (.tuple #[.agg #[u'], .bool true]) ∧ IsV w' (fun _ => True) u' B ∧ B.ok ∧ B.nums = (zL l).map (atI [4602678819172646912, 4613937818241073152, 13830554455654793216] 0) ∧ Below w.heap.size w w' := by
  refine (mgordered_yes u aw18V down w h aw18_V.1 (by rw [text_none18 aw18_V.2.2.2.1]; intro z hz; cases hz) (by rw [aw18_V.2.2.2.1]; decide) aw18_V.2.2.2.2 hT).mono ?_
  rintro e w' ⟨u', h1, h2, h4⟩
  rw [hl] at h2
  have hs := aw18_sel (zL l) (by rw [zL_len]; exact h3)
  exact ⟨u', _, h1, IsV.any h2, hs.2, hs.1, h4⟩
theorem ordered18_up {ok : Nat → Prop} (u : Value) (w : World) (h : IsV w ok u aw18V) (hT : TabAt w) :
    Calls Tryz.prog 19 #[.agg #[u], .bool false] w fun e w' => ∃ u' B, e = .returned (.tuple #[.agg #[u'], .bool true]) ∧ IsV w' (fun _ => True) u' B ∧ B.ok ∧ B.nums = [13830554455654793216, 4602678819172646912, 4613937818241073152] ∧ Below w.heap.size w w' := ordered18 u false [2, 0, 1] w h hT aw18_up rfl
theorem ordered18_dn {ok : Nat → Prop} (u : Value) (w : World) (h : IsV w ok u aw18V) (hT : TabAt w) :
    Calls Tryz.prog 19 #[.agg #[u], .bool true] w fun e w' => ∃ u' B, e = .returned (.tuple #[.agg #[u'], .bool true]) ∧ IsV w' (fun _ => True) u' B ∧ B.ok ∧ B.nums = [4613937818241073152, 4602678819172646912, 13830554455654793216] ∧ Below w.heap.size w w' := ordered18 u true [1, 0, 2] w h hT aw18_dn rfl
theorem aw18_unum : ∀ x ∈ ([13830554455654793216, 4602678819172646912, 4613937818241073152] : List Nat), Num x := fun x hx => aw18_num x (by revert hx; simp only [List.mem_cons, List.not_mem_nil, or_false]; rintro (h | h | h) <;> simp [h])
theorem aw18_dnum : ∀ x ∈ ([4613937818241073152, 4602678819172646912, 13830554455654793216] : List Nat), Num x := fun x hx => aw18_num x (by revert hx; simp only [List.mem_cons, List.not_mem_nil, or_false]; rintro (h | h | h) <;> simp [h])
set_option maxHeartbeats 8000000 in
theorem awake18_calls (w : World) (hT : TabAt w) : Calls Tryz.prog 7 #[] w (Yes18 w) := by
  obtain ⟨W1, hW1⟩ : ∃ W1, W1 = w.alloc (.cells #[.float .f64 4602678819172646912, .float .f64 4613937818241073152, .float .f64 13830554455654793216] 57) := ⟨_, rfl⟩
  have HB := Lib.hid (show Below w.heap.size w W1 by rw [hW1]; exact below_new _ _)
  have HV := Lib.hid (show Slc W1 (fun _ => True) (.slice (some ⟨w.heap.size, 0, none⟩) 3 3) [4602678819172646912, 4613937818241073152, 13830554455654793216].length (f64s [4602678819172646912, 4613937818241073152, 13830554455654793216]) by
    rw [hW1]; exact (Slc.owned (World.ownsRow_lit (base := 0) (e := 57) (size := 1) w #[.float .f64 4602678819172646912, .float .f64 4613937818241073152, .float .f64 13830554455654793216] 3 (Nat.zero_le _) (by unfold maxLen; omega) rfl)).keep (Kept.refl _ _) (fun _ _ _ => trivial))
  have HT := Lib.hid (show TabAt W1 from fun j hj => keep_below HB.out _ _ (hT j hj))
  have hfold := hW1.symm
  clear hW1 hT
  go_enter Tryz.func7, Tryz.ntmps7
  go_wp2_with fail
  clear hfold
  refine (numbers_yes _ [4602678819172646912, 4613937818241073152, 13830554455654793216] _ HV.out (by decide) (fun x hx => (aw18_num x hx).1) HT.out).mono ?_
  rintro e W11 ⟨u, rfl, hu, hB⟩
  replace HB := Lib.hid (HB.out.trans (hB.mono HB.out.size))
  replace HT := Lib.hid (fun j hj => keep_below hB _ _ (HT.out j hj))
  replace HV := Lib.hid (HV.out.below hB)
  rw [aw18_ze] at hu
  have HU := Lib.hid (show IsV W11 (fun _ => True) u aw18V from IsV.any hu)
  have hsu := HU.out.store
  clear hu
  clear hB
  clear HV
  obtain ⟨W12, hWn⟩ : ∃ xw9, W11.alloc (.cells #[u] 36) = xw9 := ⟨_, rfl⟩
  have hB : Below W11.heap.size W11 W12 := by rw [← hWn]; exact below_new _ _
  have hNB : At1 W12 W11.heap.size (u) := by rw [← hWn]; exact At1.new _ _ _
  replace HB := Lib.hid (HB.out.trans (hB.mono HB.out.size))
  replace HT := Lib.hid (fun j hj => keep_below hB _ _ (HT.out j hj))
  replace HU := Lib.hid (HU.out.grow hB)
  have HA := Lib.hid hNB
  clear hNB hB
  have cHA0 := HA.out.2.1
  go_wp2_with fail
  clear hWn
  refine (ordered18_up _ _ HU.out HT.out).mono ?_
  rintro e W13 ⟨ua, Ba, rfl, hua, hoa, hna, hB⟩
  clear cHA0
  replace HB := Lib.hid (HB.out.trans (hB.mono HB.out.size))
  replace HT := Lib.hid (fun j hj => keep_below hB _ _ (HT.out j hj))
  replace HU := Lib.hid (HU.out.grow hB)
  replace HA := Lib.hid (HA.out.below hB)
  have HUa := Lib.hid hua
  have HOa := Lib.hid hoa
  have HNa := Lib.hid hna
  have hsua := hua.store
  clear hua hoa hna
  clear hB
  obtain ⟨W14, hWn⟩ : ∃ xw9, W13.alloc (.cells #[ua] 36) = xw9 := ⟨_, rfl⟩
  have hB : Below W13.heap.size W13 W14 := by rw [← hWn]; exact below_new _ _
  have hNB : At1 W14 W13.heap.size (ua) := by rw [← hWn]; exact At1.new _ _ _
  replace HB := Lib.hid (HB.out.trans (hB.mono HB.out.size))
  replace HT := Lib.hid (fun j hj => keep_below hB _ _ (HT.out j hj))
  replace HU := Lib.hid (HU.out.grow hB)
  replace HA := Lib.hid (HA.out.below hB)
  replace HUa := Lib.hid (HUa.out.grow hB)
  have HVa := Lib.hid hNB
  clear hNB hB
  have cHA0 := HA.out.2.1
  have cHVa0 := HVa.out.2.1
  go_wp2_with fail
  clear hWn
  refine (ordered18_dn _ _ HU.out HT.out).mono ?_
  rintro e W15 ⟨ub, Bb, rfl, hub, hob, hnb, hB⟩
  clear cHA0 cHVa0
  replace HB := Lib.hid (HB.out.trans (hB.mono HB.out.size))
  replace HT := Lib.hid (fun j hj => keep_below hB _ _ (HT.out j hj))
  replace HU := Lib.hid (HU.out.grow hB)
  replace HA := Lib.hid (HA.out.below hB)
  replace HUa := Lib.hid (HUa.out.grow hB)
  replace HVa := Lib.hid (HVa.out.below hB)
  have HUb := Lib.hid hub
  have HOb := Lib.hid hob
  have HNb := Lib.hid hnb
  have hsub := hub.store
  clear hub hob hnb
  clear hB
  obtain ⟨W16, hWn⟩ : ∃ xw9, W15.alloc (.cells #[ub] 36) = xw9 := ⟨_, rfl⟩
  have hB : Below W15.heap.size W15 W16 := by rw [← hWn]; exact below_new _ _
  have hNB : At1 W16 W15.heap.size (ub) := by rw [← hWn]; exact At1.new _ _ _
  replace HB := Lib.hid (HB.out.trans (hB.mono HB.out.size))
  replace HT := Lib.hid (fun j hj => keep_below hB _ _ (HT.out j hj))
  replace HU := Lib.hid (HU.out.grow hB)
  replace HA := Lib.hid (HA.out.below hB)
  replace HUa := Lib.hid (HUa.out.grow hB)
  replace HVa := Lib.hid (HVa.out.below hB)
  replace HUb := Lib.hid (HUb.out.grow hB)
  have HVb := Lib.hid hNB
  clear hNB hB
  have cHA0 := HA.out.2.1
  have cHVa0 := HVa.out.2.1
  have cHVb0 := HVb.out.2.1
  go_wp2_with fail
  clear hWn
  refine (vnums_calls _ Ba _ HUa.out HOa.out HT.out).mono ?_
  rintro e W17 ⟨va, rfl, hva, hB⟩
  clear cHA0 cHVa0 cHVb0
  replace HB := Lib.hid (HB.out.trans (hB.mono HB.out.size))
  replace HT := Lib.hid (fun j hj => keep_below hB _ _ (HT.out j hj))
  replace HU := Lib.hid (HU.out.grow hB)
  replace HA := Lib.hid (HA.out.below hB)
  replace HUa := Lib.hid (HUa.out.grow hB)
  replace HVa := Lib.hid (HVa.out.below hB)
  replace HUb := Lib.hid (HUb.out.grow hB)
  replace HVb := Lib.hid (HVb.out.below hB)
  rw [HNa.out] at hva
  have Ha := Lib.hid hva.any
  obtain ⟨aa, ca, rfl, _⟩ := hva.opened
  clear hva
  clear hB
  have cHA0 := HA.out.2.1
  have cHVa0 := HVa.out.2.1
  have cHVb0 := HVb.out.2.1
  go_wp2_with fail
  obtain ⟨W18, hWn⟩ : ∃ xw9, W17.alloc (.cells #[.float .f64 13830554455654793216, .float .f64 4602678819172646912, .float .f64 4613937818241073152] 57) = xw9 := ⟨_, rfl⟩
  have hB : Below W17.heap.size W17 W18 := by rw [← hWn]; exact below_new _ _
  have hNB : Slc W18 (fun _ => True) (.slice (some ⟨W17.heap.size, 0, none⟩) 3 3) 3 (f64s [13830554455654793216, 4602678819172646912, 4613937818241073152]) := by
    rw [← hWn]; exact (Slc.owned (World.ownsRow_lit (base := 0) (e := 57) (size := 1) W17 #[.float .f64 13830554455654793216, .float .f64 4602678819172646912, .float .f64 4613937818241073152] 3 (Nat.zero_le _) (by unfold maxLen; omega) rfl)).keep (Kept.refl _ _) (fun _ _ _ => trivial)
  rw [hWn]
  clear hWn
  clear cHA0 cHVa0 cHVb0
  replace HB := Lib.hid (HB.out.trans (hB.mono HB.out.size))
  replace HT := Lib.hid (fun j hj => keep_below hB _ _ (HT.out j hj))
  replace HU := Lib.hid (HU.out.grow hB)
  replace HA := Lib.hid (HA.out.below hB)
  replace HUa := Lib.hid (HUa.out.grow hB)
  replace HVa := Lib.hid (HVa.out.below hB)
  replace HUb := Lib.hid (HUb.out.grow hB)
  replace HVb := Lib.hid (HVb.out.below hB)
  replace Ha := Lib.hid (Ha.out.below hB)
  have HLa := Lib.hid hNB
  clear hNB hB
  refine (floats_same _ _ [13830554455654793216, 4602678819172646912, 4613937818241073152] _ Ha.out HLa.out (by decide) aw18_unum).mono ?_
  rintro e W19 ⟨rfl, hB⟩
  replace HB := Lib.hid (HB.out.trans (hB.mono HB.out.size))
  replace HT := Lib.hid (fun j hj => keep_below hB _ _ (HT.out j hj))
  replace HU := Lib.hid (HU.out.grow hB)
  replace HA := Lib.hid (HA.out.below hB)
  replace HUa := Lib.hid (HUa.out.grow hB)
  replace HVa := Lib.hid (HVa.out.below hB)
  replace HUb := Lib.hid (HUb.out.grow hB)
  replace HVb := Lib.hid (HVb.out.below hB)
  replace Ha := Lib.hid (Ha.out.below hB)
  replace HLa := Lib.hid (HLa.out.below hB)
  clear hB
  have cHA0 := HA.out.2.1
  have cHVa0 := HVa.out.2.1
  have cHVb0 := HVb.out.2.1
  go_wp2_with fail
  refine (vnums_calls _ Bb _ HUb.out HOb.out HT.out).mono ?_
  rintro e W20 ⟨vb, rfl, hvb, hB⟩
  clear cHA0 cHVa0 cHVb0
  replace HB := Lib.hid (HB.out.trans (hB.mono HB.out.size))
  replace HT := Lib.hid (fun j hj => keep_below hB _ _ (HT.out j hj))
  replace HU := Lib.hid (HU.out.grow hB)
  replace HA := Lib.hid (HA.out.below hB)
  replace HUa := Lib.hid (HUa.out.grow hB)
  replace HVa := Lib.hid (HVa.out.below hB)
  replace HUb := Lib.hid (HUb.out.grow hB)
  replace HVb := Lib.hid (HVb.out.below hB)
  replace Ha := Lib.hid (Ha.out.below hB)
  replace HLa := Lib.hid (HLa.out.below hB)
  rw [HNb.out] at hvb
  have Hb := Lib.hid hvb.any
  obtain ⟨ab, cb, rfl, _⟩ := hvb.opened
  clear hvb
  clear hB
  have cHA0 := HA.out.2.1
  have cHVa0 := HVa.out.2.1
  have cHVb0 := HVb.out.2.1
  go_wp2_with fail
  obtain ⟨W21, hWn⟩ : ∃ xw9, W20.alloc (.cells #[.float .f64 4613937818241073152, .float .f64 4602678819172646912, .float .f64 13830554455654793216] 57) = xw9 := ⟨_, rfl⟩
  have hB : Below W20.heap.size W20 W21 := by rw [← hWn]; exact below_new _ _
  have hNB : Slc W21 (fun _ => True) (.slice (some ⟨W20.heap.size, 0, none⟩) 3 3) 3 (f64s [4613937818241073152, 4602678819172646912, 13830554455654793216]) := by
    rw [← hWn]; exact (Slc.owned (World.ownsRow_lit (base := 0) (e := 57) (size := 1) W20 #[.float .f64 4613937818241073152, .float .f64 4602678819172646912, .float .f64 13830554455654793216] 3 (Nat.zero_le _) (by unfold maxLen; omega) rfl)).keep (Kept.refl _ _) (fun _ _ _ => trivial)
  rw [hWn]
  clear hWn
  clear cHA0 cHVa0 cHVb0
  replace HB := Lib.hid (HB.out.trans (hB.mono HB.out.size))
  replace HT := Lib.hid (fun j hj => keep_below hB _ _ (HT.out j hj))
  replace HU := Lib.hid (HU.out.grow hB)
  replace HA := Lib.hid (HA.out.below hB)
  replace HUa := Lib.hid (HUa.out.grow hB)
  replace HVa := Lib.hid (HVa.out.below hB)
  replace HUb := Lib.hid (HUb.out.grow hB)
  replace HVb := Lib.hid (HVb.out.below hB)
  replace Ha := Lib.hid (Ha.out.below hB)
  replace HLa := Lib.hid (HLa.out.below hB)
  replace Hb := Lib.hid (Hb.out.below hB)
  have HLb := Lib.hid hNB
  clear hNB hB
  refine (floats_same _ _ [4613937818241073152, 4602678819172646912, 13830554455654793216] _ Hb.out HLb.out (by decide) aw18_dnum).mono ?_
  rintro e W22 ⟨rfl, hB⟩
  replace HB := Lib.hid (HB.out.trans (hB.mono HB.out.size))
  replace HT := Lib.hid (fun j hj => keep_below hB _ _ (HT.out j hj))
  replace HU := Lib.hid (HU.out.grow hB)
  replace HA := Lib.hid (HA.out.below hB)
  replace HUa := Lib.hid (HUa.out.grow hB)
  replace HVa := Lib.hid (HVa.out.below hB)
  replace HUb := Lib.hid (HUb.out.grow hB)
  replace HVb := Lib.hid (HVb.out.below hB)
  replace Ha := Lib.hid (Ha.out.below hB)
  replace HLa := Lib.hid (HLa.out.below hB)
  replace Hb := Lib.hid (Hb.out.below hB)
  replace HLb := Lib.hid (HLb.out.below hB)
  clear hB
  have cHA0 := HA.out.2.1
  have cHVa0 := HVa.out.2.1
  have cHVb0 := HVb.out.2.1
  go_wp2_with fail
  go_ret
  exact ⟨rfl, HB.out⟩
end Go.Proofs.YtbdbpamefkgelaaGreatDoor

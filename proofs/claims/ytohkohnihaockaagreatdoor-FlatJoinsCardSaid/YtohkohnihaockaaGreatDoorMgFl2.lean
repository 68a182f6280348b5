/- Merged: FmF, FmG, FlP, FmN. -/
import Derived.ChangeOld
import Derived.Test.YtohkohnihaockaaGreatDoorMgFl1
import Derived.Test.YtohkohnihaockaaGreatDoorMgVa1
/- Layer 8: what is good is short. -/
namespace Go.Proofs.YtohkohnihaockaaGreatDoor
set_option maxRecDepth 100000
open Go.RowKit Fl
set_option linter.unusedVariables false

set_option maxHeartbeats 2000000 in
theorem pcount_big (ok : Nat → Prop) (p : PA) (u : Value) (w : World) (hl : 3000 < p.l.length) (hm : p.l.length ≤ 1048576) (hsz : p.s.length ≤ 8) (hp : IsP w ok u p) :
    Calls Tryz.prog 14 #[u, .int .i64 3000] w (fun e w' => ∃ n : Int, e = .returned (.int .i64 n) ∧ 3000 < n ∧ Below w.heap.size w w') := by
  obtain ⟨so, sc, io, ic, rfl, hs, hit⟩ := hp.opened
  have HL := Lib.hid (And.intro hl (And.intro hm hsz))
  clear hs hit hp hl hm hsz
  obtain ⟨W1, hW1⟩ : ∃ W1, W1 = w.alloc (.cells #[.slice so p.s.length sc, .slice io p.l.length ic, .int .i64 p.f] 29) := ⟨_, rfl⟩
  have HA := Lib.hid (show At3 W1 w.heap.size _ _ _ by rw [hW1]; exact At3.new w _ _ _ _)
  have HB1 := Lib.hid (show Below w.heap.size w W1 by rw [hW1]; exact below_new _ _)
  obtain ⟨_, a0, a1, a2, _⟩ := HA.out
  go_enter Tryz.func14, Tryz.ntmps14
  go_wp2_with fail
  rw [← hW1]
  clear hW1
  go_loopw [5, 6] (fun n i wr => ∃ m : Int, 3000 < m ∧ i = .int .i64 0 ∧ n = .int .i64 m ∧ wr = W1) (fun _ i _ => 0)
  case atStart =>
    have h1 := HL.out.1
    have h2 := HL.out.2.1
    have h3 := HL.out.2.2
    refine ⟨(p.l.length : Int) + p.s.length + 1, by omega, rfl, ?_, rfl⟩
    rw [IntWalk.wrap64_in ((p.l.length : Int) + p.s.length) (by omega), IntWalk.wrap64_in _ (by omega)]

  case round =>
    obtain ⟨m, hm, rfl, rfl, rfl⟩ := hrel
    have h1 := HL.out.1
    have hlt : 0 < p.l.length := by omega
    have hmm : ¬ m ≤ 3000 := by omega
    clear h1
    go_wp2_with fail
    go_ret
    first | exact ⟨m, rfl, hm, HB1.out⟩ | exact ⟨hm, HB1.out⟩

def GoodShort (p : PA) (w : World) (e : Ending) (w' : World) : Prop := ∃ g, e = .returned (.bool g) ∧ (g = true → chk 40 p = 0 ∧ p.l.length ≤ 3000) ∧ Below w.heap.size w w'
set_option maxHeartbeats 4000000 in
theorem good8_short (ok : Nat → Prop) (p : PA) (u : Value) (n : Nat) (w : World) (hl : lo n p) (hp : IsP w ok u p) :
    Calls Tryz.prog 5 #[u] w (GoodShort p w) := by
  by_cases hc : chk 40 p = 0
  rotate_left
  · refine (good8_calls ok p u n w hl hp).mono ?_
    rintro e w' ⟨g, rfl, hg, hB⟩
    exact ⟨g, rfl, fun h => absurd (hg h) hc, hB⟩
  by_cases hlen : p.l.length ≤ 3000
  · refine (good8_calls ok p u n w hl hp).mono ?_
    rintro e w' ⟨g, rfl, hg, hB⟩
    exact ⟨g, rfl, fun h => ⟨hg h, hlen⟩, hB⟩
  have hps := prodR_len (chk_well (d := 39).1 hc).2.2.1
  have HPS := Lib.hid hps
  have HLN := Lib.hid (show 3000 < p.l.length by omega)
  have HP := Lib.hid hp
  obtain ⟨so, sc, io, ic, rfl, hs, hit⟩ := hp.opened
  obtain ⟨W1, hW1⟩ : ∃ W1, W1 = w.alloc (.cells #[.slice so p.s.length sc, .slice io p.l.length ic, .int .i64 p.f] 29) := ⟨_, rfl⟩
  have HB := Lib.hid (show Below w.heap.size w W1 by rw [hW1]; exact below_new _ _)
  have HA := Lib.hid (show At3 W1 w.heap.size (.slice so p.s.length sc) (.slice io p.l.length ic) (.int .i64 p.f) by rw [hW1]; exact At3.new w _ _ _ _)
  have HI := Lib.hid (show IsP W1 ok _ p from HP.out.grow HB.out)
  have hfold := hW1.symm
  clear hs hit hp hl hW1 hc hlen hps
  have cHA0 := HA.out.2.1
  have cHA1 := HA.out.2.2.1
  have cHA2 := HA.out.2.2.2.1
  go_enter Tryz.func5, Tryz.ntmps5
  go_wp2_with fail
  clear hfold
  refine (pcount_big _ p _ _ HLN.out HPS.out.2 HPS.out.1 HI.out).mono ?_
  rintro e W11 ⟨cn, rfl, hcn3, hB⟩
  clear cHA0 cHA1 cHA2
  have HB2 := Lib.hid (HB.out.trans (hB.mono HB.out.size))
  clear hB
  have hcn : ¬ cn ≤ 2000 := by omega
  clear hcn3
  go_wp2_with fail
  go_ret
  exact ⟨false, rfl, (fun h => by cases h), HB2.out⟩
end Go.Proofs.YtohkohnihaockaaGreatDoor

/- An argument that is a list of plain arrays, opened. -/
namespace Go.Proofs.YtohkohnihaockaaGreatDoor
open Go.RowKit Go.ChangeShapes Go.WideShapes
set_option linter.unusedVariables false
set_option maxRecDepth 100000

theorem open_plains {H : Type} {enc : TypeId × Value → H} {w : World} {base : Nat} {spare : Nat → Bool} {held : Bool} {r : Reach} {b0 : Nat} {v : Value} {d : DataW H} {p : List MemPlace}
    (hv : Value.okWide Tryz.prog w r b0 22 v) (h : DataW.Trod enc Tryz.prog w base spare held 22 v d p) : ∃ ps n, IsB w (fun _ => True) v ps ∧ ∀ q ∈ ps, lo n q := by
  obtain ⟨fuel, hf⟩ := h
  obtain ⟨ao, l0, c0, rfl⟩ := okWide_slice Tryz.underlying22 hv
  obtain ⟨bo, blen, bcap, n3, hn3, e3, hb1, hb2, hbox⟩ := cells_slice Tryz.underlying22 co_plain (by omega) hf
  cases e3
  have each : ∀ k, k < l0 → ∃ x : PA × (Value × Value × Value) × Nat, (∃ b off, ao = some ⟨b, off, none⟩ ∧ w.cell? ⟨b, off + k * 3, none⟩ = some x.2.1.1 ∧ w.cell? ⟨b, off + k * 3 + 1, none⟩ = some x.2.1.2.1 ∧ w.cell? ⟨b, off + k * 3 + 2, none⟩ = some x.2.1.2.2) ∧
      IsP w (fun _ => True) (.agg #[x.2.1.1, x.2.1.2.1, x.2.1.2.2]) x.1 ∧ lo x.2.2 x.1 := by
    intro k hk
    obtain ⟨b', off', cs2, y2, hbo, hcl2, hcells2, htr2⟩ := hbox k hk
    obtain ⟨a', b2, c', p, d, rfl, hp, hd⟩ := plain_of n3 cs2 y2 htr2
    exact ⟨(p, (a', b2, c'), d), ⟨b', off', hbo, by simpa using hcells2 0 (by omega), by simpa using hcells2 1 (by omega), by simpa using hcells2 2 (by omega)⟩, hp, hd⟩
  obtain ⟨L, hL, hq⟩ := listAll l0 _ each
  obtain ⟨D, hD⟩ := lo_all (n := l0) (fun k d => ∀ x, L[k]? = some x → lo d x.1) (fun i a b hab h x hx => lo_mono (h x hx) hab) (fun k hk => ⟨((L[k]?).map (fun x => x.2.2)).getD 0, fun x hx => by rw [hx]; exact (hq k x hx).2.2⟩)
  refine ⟨L.map (·.1), D, ⟨ao, c0, fun k => ((L[k]?).map (fun x => x.2.1.1)).getD undef, fun k => ((L[k]?).map (fun x => x.2.1.2.1)).getD undef, fun k => ((L[k]?).map (fun x => x.2.1.2.2)).getD undef, by simp [hL], by simpa [hL] using hb1, hb2, fun k hk => ?_, fun k p hp => ?_⟩, ?_⟩
  · have hk' : k < L.length := by simpa using hk
    obtain ⟨⟨b', off', e, c0, c1, c2⟩, _⟩ := hq k _ (List.getElem?_eq_getElem hk')
    exact ⟨b', off', e, trivial, by simp only [List.getElem?_eq_getElem hk']; exact c0, by simp only [List.getElem?_eq_getElem hk']; exact c1, by simp only [List.getElem?_eq_getElem hk']; exact c2⟩
  · simp only [List.getElem?_map, Option.map_eq_some_iff] at hp
    obtain ⟨x, hx, rfl⟩ := hp
    simp only [hx]
    exact (hq k x hx).2.1
  · intro q hqm
    obtain ⟨x, hx, rfl⟩ := List.mem_map.1 hqm
    obtain ⟨k, hk⟩ := List.mem_iff_getElem?.1 hx
    exact hD k (by rw [← hL]; exact (List.getElem?_eq_some_iff.1 hk).1) x hk
end Go.Proofs.YtohkohnihaockaaGreatDoor

/- Layer 8's law: awake, FlatPicks. -/
namespace Go.Proofs.YtohkohnihaockaaGreatDoor
set_option maxRecDepth 100000
open Go.RowKit Fl
set_option linter.unusedVariables false

def aw8 : PA := .mk [3] [(0, 4617315517961601024, 0, []), (0, 4618441417868443648, 0, []), (0, 4619567317775286272, 0, [])] 0
theorem aw8_chk : chk 40 aw8 = 0 := by decide +kernel
theorem aw8_tidy : tidyP 40 aw8 = aw8 := by
  have e5 : ze 4617315517961601024 = 4617315517961601024 := by decide +kernel
  have e6 : ze 4618441417868443648 = 4618441417868443648 := by decide +kernel
  have e7 : ze 4619567317775286272 = 4619567317775286272 := by decide +kernel
  show PA.mk _ (aw8.l.map (tidyI (tidyP 39))) _ = aw8
  simp [aw8, PA.l, PA.s, PA.f, tidyI, e5, e6, e7]
theorem aw8_arr : (arrP 40 aw8).2 = (VV.floats ([4617315517961601024, 4618441417868443648, 4619567317775286272].map ze)).sq := by
  rw [show (40 : Nat) = 39 + 1 from rfl, arrP_zero rfl]
  rfl
theorem aw8_fin : ∀ x ∈ [4617315517961601024, 4618441417868443648, 4619567317775286272], Fnt x := by
  intro x hx
  simp only [List.mem_cons, List.not_mem_nil, or_false] at hx
  rcases hx with rfl | rfl | rfl <;> decide +kernel
theorem aw8_gV : gV 39 (arrP 40 aw8).2 := gA_gV (d := 39) (arrP_good 40 aw8 aw8_chk)
theorem aw8_its : itsA 39 ((arrP 40 aw8).2.sel [2, -1, 0]) = [(0, 4619567317775286272, 0, []), (0, 0, 0, []), (0, 4617315517961601024, 0, [])] := by
  rw [its_sel (d := 38) aw8_gV (by simp), its_arrP (d := 39) aw8_chk, show tidyP (39 + 1) aw8 = aw8 from aw8_tidy]
  have hc : (arrP 40 aw8).2.cls = 0 := (arrP_len (d := 40) aw8_chk).2.1
  rw [hc]
  rfl
theorem aw8_cls : ((arrP 40 aw8).2.sel [2, -1, 0]).cls = 0 := by
  rw [VV.sel_cls _ _ (VV.nums_num aw8_gV.1 aw8_gV.2.1) (by simp)]
  exact (arrP_len (d := 40) aw8_chk).2.1

set_option maxHeartbeats 4000000 in
theorem awake8_calls (w : World) (hT : TabAt w) : Calls Tryz.prog 4 #[] w (BoolIs true w) := by
  obtain ⟨W1, hW1⟩ : ∃ W1, W1 = w.alloc (.cells #[.float .f64 4617315517961601024, .float .f64 4618441417868443648, .float .f64 4619567317775286272] 44) := ⟨_, rfl⟩
  have HB := Lib.hid (show Below w.heap.size w W1 by rw [hW1]; exact below_new _ _)
  have HV := Lib.hid (show Slc W1 (fun _ => True) (.slice (some ⟨w.heap.size, 0, none⟩) 3 3) [4617315517961601024, 4618441417868443648, 4619567317775286272].length (f64s [4617315517961601024, 4618441417868443648, 4619567317775286272]) by
    rw [hW1]; exact (Slc.owned (World.ownsRow_lit (base := 0) (e := 44) (size := 1) w #[.float .f64 4617315517961601024, .float .f64 4618441417868443648, .float .f64 4619567317775286272] 3 (Nat.zero_le _) (by unfold maxLen; omega) rfl)).keep (Kept.refl _ _) (fun _ _ _ => trivial))
  have HT := Lib.hid (show TabAt W1 from fun j hj => keep_below HB.out _ _ (hT j hj))
  have hfold := hW1.symm
  obtain ⟨V, hV⟩ : ∃ V, V = (arrP 40 aw8).2 := ⟨_, rfl⟩
  have HVV := Lib.hid hV
  have HGV := Lib.hid (show gV 39 V by rw [hV]; exact aw8_gV)
  have HGP := Lib.hid (gV_sel (d := 38) (at_ := [2, -1, 0]) HGV.out (by simp))
  have HIT := Lib.hid (show itsA 39 (V.sel [2, -1, 0]) = [(0, 4619567317775286272, 0, []), (0, 0, 0, []), (0, 4617315517961601024, 0, [])] by rw [hV]; exact aw8_its)
  have HCL := Lib.hid (show (V.sel [2, -1, 0]).cls = 0 by rw [hV]; exact aw8_cls)
  clear hW1 hV hT
  go_enter Tryz.func4, Tryz.ntmps4
  go_wp2_with fail
  clear hfold
  refine (numbers_yes _ [4617315517961601024, 4618441417868443648, 4619567317775286272] _ HV.out (by simp) aw8_fin HT.out).mono ?_
  rintro e W11 ⟨u, rfl, hu, hB⟩
  replace HB := Lib.hid (HB.out.trans (hB.mono HB.out.size))
  replace HV := Lib.hid (HV.out.below hB)
  replace HT := Lib.hid (fun j hj => keep_below hB _ _ (HT.out j hj))
  rw [← aw8_arr, ← HVV.out] at hu
  have HU := Lib.hid (show IsV W11 (fun _ => True) u V from IsV.any hu)
  have hsu := HU.out.store
  clear hu
  clear hB
  go_wp2_with fail
  obtain ⟨W12, hWn⟩ : ∃ xw9, W11.alloc (.cells #[u] 31) = xw9 := ⟨_, rfl⟩
  have hB : Below W11.heap.size W11 W12 := by rw [← hWn]; exact below_new _ _
  have hNB : At1 W12 W11.heap.size (u) := by rw [← hWn]; exact At1.new _ _ _
  have hsz9 : W12.heap.size = W11.heap.size + 1 := by rw [← hWn]; simp
  rw [hWn]
  clear hWn
  obtain ⟨bv, hnm⟩ : ∃ x, W11.heap.size = x := ⟨_, rfl⟩
  rw [hnm] at hNB hsz9 ⊢
  have HZW12 := Lib.hid hsz9
  clear hsz9
  replace HB := Lib.hid (HB.out.trans (hB.mono HB.out.size))
  replace HV := Lib.hid (HV.out.below hB)
  replace HT := Lib.hid (fun j hj => keep_below hB _ _ (HT.out j hj))
  replace HU := Lib.hid (HU.out.grow hB)
  have HVW := Lib.hid hNB
  clear hNB hB hnm
  have cHVW0 := HVW.out.2.1
  clear cHVW0
  obtain ⟨W13, hWn⟩ : ∃ xw9, W12.alloc (.cells #[.int .i64 2, .int .i64 (-1), .int .i64 0] 3) = xw9 := ⟨_, rfl⟩
  have hB : Below W12.heap.size W12 W13 := by rw [← hWn]; exact below_new _ _
  have hNB : Slc W13 (fun _ => True) (.slice (some ⟨W12.heap.size, 0, none⟩) 3 3) 3 (ints [2, -1, 0]) := by
    rw [← hWn]; exact (Slc.owned (World.ownsRow_lit (base := 0) (e := 3) (size := 1) W12 #[.int .i64 2, .int .i64 (-1), .int .i64 0] 3 (Nat.zero_le _) (by unfold maxLen; omega) rfl)).keep (Kept.refl _ _) (fun _ _ _ => trivial)
  rw [hWn]
  clear hWn
  rw [HZW12.out] at hNB
  replace HB := Lib.hid (HB.out.trans (hB.mono HB.out.size))
  replace HV := Lib.hid (HV.out.below hB)
  replace HT := Lib.hid (fun j hj => keep_below hB _ _ (HT.out j hj))
  replace HU := Lib.hid (HU.out.grow hB)
  replace HVW := Lib.hid (HVW.out.below hB)
  have HAT := Lib.hid hNB
  clear hNB hB
  refine (pick_calls _ V _ [2, -1, 0] _ HU.out HGV.out.1 HGV.out.2.1 (gV_box HGV.out) HAT.out (by simp) HT.out).mono ?_
  rintro e W14 ⟨u2, rfl, hu, hB⟩
  replace HB := Lib.hid (HB.out.trans (hB.mono HB.out.size))
  replace HV := Lib.hid (HV.out.below hB)
  replace HT := Lib.hid (fun j hj => keep_below hB _ _ (HT.out j hj))
  replace HU := Lib.hid (HU.out.grow hB)
  replace HVW := Lib.hid (HVW.out.below hB)
  replace HAT := Lib.hid (HAT.out.below hB)
  have HU2 := Lib.hid (show IsV W14 (fun _ => True) u2 (V.sel [2, -1, 0]) from IsV.any hu)
  have hsu2 := HU2.out.store
  clear hu
  clear hB
  have cHVW0 := HVW.out.2.1
  go_wp2_with fail
  obtain ⟨W15, hWn⟩ : ∃ xw9, W14.alloc (.cells #[u2] 31) = xw9 := ⟨_, rfl⟩
  have hB : Below W14.heap.size W14 W15 := by rw [← hWn]; exact below_new _ _
  have hNB : At1 W15 W14.heap.size (u2) := by rw [← hWn]; exact At1.new _ _ _
  have hsz9 : W15.heap.size = W14.heap.size + 1 := by rw [← hWn]; simp
  rw [hWn]
  clear hWn
  obtain ⟨bp, hnm⟩ : ∃ x, W14.heap.size = x := ⟨_, rfl⟩
  rw [hnm] at hNB hsz9 ⊢
  have HZW15 := Lib.hid hsz9
  clear hsz9
  clear cHVW0
  replace HB := Lib.hid (HB.out.trans (hB.mono HB.out.size))
  replace HV := Lib.hid (HV.out.below hB)
  replace HT := Lib.hid (fun j hj => keep_below hB _ _ (HT.out j hj))
  replace HU := Lib.hid (HU.out.grow hB)
  replace HVW := Lib.hid (HVW.out.below hB)
  replace HAT := Lib.hid (HAT.out.below hB)
  replace HU2 := Lib.hid (HU2.out.grow hB)
  have HPW := Lib.hid hNB
  clear hNB hB hnm
  have cHVW0 := HVW.out.2.1
  have cHPW0 := HPW.out.2.1
  clear cHVW0 cHPW0
  obtain ⟨W16, hWn⟩ : ∃ xw9, W15.alloc (.cells #[.int .i64 0, .float .f64 4619567317775286272, .int .i32 0, .slice none 0 0, .int .i64 0, .float .f64 0, .int .i32 0, .slice none 0 0, .int .i64 0, .float .f64 4617315517961601024, .int .i32 0, .slice none 0 0] 48) = xw9 := ⟨_, rfl⟩
  have hB : Below W15.heap.size W15 W16 := by rw [← hWn]; exact below_new _ _
  have hNB : Its W16 (fun _ => True) (.slice (some ⟨W15.heap.size, 0, none⟩) 3 3) [(0, 4619567317775286272, 0, []), (0, 0, 0, []), (0, 4617315517961601024, 0, [])] := by
    rw [← hWn]
    refine (Its.of_own (ok := fun _ => True) (base := 0) (L := [(0, 4619567317775286272, 0, .slice none 0 0), (0, 0, 0, .slice none 0 0), (0, 4617315517961601024, 0, .slice none 0 0)]) (World.ownsRow_lit (base := 0) (e := 48) (size := 4) W15 #[.int .i64 0, .float .f64 4619567317775286272, .int .i32 0, .slice none 0 0, .int .i64 0, .float .f64 0, .int .i32 0, .slice none 0 0, .int .i64 0, .float .f64 4617315517961601024, .int .i32 0, .slice none 0 0] 3 (Nat.zero_le _) (by unfold maxLen; omega) rfl) ?_).wide (fun _ _ _ => trivial)
    exact (((Quad.nil _ _).snoc (x := (0, 4619567317775286272, 0, [])) (IsB.nil _ _)).snoc (x := (0, 0, 0, [])) (IsB.nil _ _)).snoc (x := (0, 4617315517961601024, 0, [])) (IsB.nil _ _)
  rw [hWn]
  clear hWn
  rw [HZW15.out] at hNB
  replace HB := Lib.hid (HB.out.trans (hB.mono HB.out.size))
  replace HV := Lib.hid (HV.out.below hB)
  replace HT := Lib.hid (fun j hj => keep_below hB _ _ (HT.out j hj))
  replace HU := Lib.hid (HU.out.grow hB)
  replace HVW := Lib.hid (HVW.out.below hB)
  replace HAT := Lib.hid (HAT.out.below hB)
  replace HU2 := Lib.hid (HU2.out.grow hB)
  replace HPW := Lib.hid (HPW.out.below hB)
  have HITS := Lib.hid hNB
  clear hNB hB
  refine (shows8_calls _ (V.sel [2, -1, 0]) _ _ 0 _ HU2.out HGP.out HCL.out HITS.out HIT.out.symm HT.out).mono ?_
  rintro e W17 ⟨rfl, hB⟩
  replace HB := Lib.hid (HB.out.trans (hB.mono HB.out.size))
  replace HV := Lib.hid (HV.out.below hB)
  replace HT := Lib.hid (fun j hj => keep_below hB _ _ (HT.out j hj))
  replace HU := Lib.hid (HU.out.grow hB)
  replace HVW := Lib.hid (HVW.out.below hB)
  replace HAT := Lib.hid (HAT.out.below hB)
  replace HU2 := Lib.hid (HU2.out.grow hB)
  replace HPW := Lib.hid (HPW.out.below hB)
  replace HITS := Lib.hid (HITS.out.grow hB)
  clear hB
  have cHVW0 := HVW.out.2.1
  have cHPW0 := HPW.out.2.1
  go_wp2_with fail
  go_ret
  exact BoolIs.mk rfl HB.out
end Go.Proofs.YtohkohnihaockaaGreatDoor

/- Layer 8's law: FlatJoins. -/
namespace Go.Proofs.YtohkohnihaockaaGreatDoor
set_option maxRecDepth 100000
open Go.RowKit Fl
set_option linter.unusedVariables false

theorem fl4_arr1 (x y : Value) (w : World) : (Instr.field 33 (.agg #[x, y]) 1).run Tryz.prog w = .ok (.agg #[y]) w := by kernel_rfl
theorem gV_joinIn {d : Nat} {V : VV} (h : gV d V) : V.ok ∧ V.nm ∧ ∀ a ∈ V.boxs, a.1.length ≤ 1048576 := ⟨h.1, h.2.1, gV_box h⟩
/-- What lies of k lists: their arrays and their tidied ones. -/
def JL (ps : List PA) (Z : List (Value × VV)) (T : List PA) (k : Nat) : Prop :=
  Z.map (·.2) = (ps.take k).map (fun p => (arrP 40 p).2) ∧ T = (ps.take k).map (tidyP 40) ∧ ∀ p ∈ ps.take k, chk 40 p = 0 ∧ p.l.length ≤ 3000
theorem JL.step {ps : List PA} {Z : List (Value × VV)} {T : List PA} {k : Nat} {p : PA} {u : Value} (h : JL ps Z T k) (hx : ps[k]? = some p) (hc : chk 40 p = 0) (hl : p.l.length ≤ 3000) : JL ps (Z ++ [(u, (arrP 40 p).2)]) (T ++ [tidyP 40 p]) (k + 1) := by
  obtain ⟨h1, h2, h3⟩ := h
  have ht := ptake hx
  refine ⟨by rw [ht]; simp [h1], by rw [ht]; simp [h2], fun q hq => ?_⟩
  rw [ht] at hq
  rcases List.mem_append.1 hq with hq | hq
  · exact h3 q hq
  · rw [List.mem_singleton.1 hq]; exact ⟨hc, hl⟩
theorem tidy_len (p : PA) : (tidyP 40 p).l.length = p.l.length ∧ (tidyP 40 p).f = p.f := by
  cases p with
  | mk s l f => exact ⟨by show (l.map _).length = l.length; simp, rfl⟩
theorem JL.meet {ps : List PA} {Z : List (Value × VV)} {T : List PA} (h : JL ps Z T ps.length) (hn : ps.length ≤ 12) :
    JoinIn Z ∧ (∀ p ∈ T, p.l.length ≤ 3000) ∧ (∀ p ∈ T, 0 ≤ p.f ∧ p.f ≤ 2) ∧ Z.length = ps.length ∧ T.length = ps.length ∧
    (rcls (-1) T = none → joinB Z = false ∧ joinZ Z = .none) ∧
    (∀ c, rcls (-1) T = some c → joinB Z = true ∧ gV 39 (joinZ Z) ∧ (joinZ Z).cls = rfin c T ∧ itsA 39 (joinZ Z) = T.flatMap fun p => p.l) := by
  obtain ⟨h1, h2, h3⟩ := h
  rw [List.take_length] at h1 h2 h3
  have hz : Z.length = ps.length := by have := congrArg List.length h1; simpa using this
  have ht : T.length = ps.length := by rw [h2]; simp
  have hZ : ∀ k (hk : k < ps.length), (Z[k]'(by omega)).2 = (arrP 40 ps[k]).2 := by
    intro k hk
    have := congrArg (fun l => l[k]?) h1
    simpa [List.getElem?_eq_getElem (show k < Z.length by omega), List.getElem?_eq_getElem hk] using this
  have hT : ∀ k (hk : k < ps.length), (T[k]'(by omega)) = tidyP 40 ps[k] := by
    intro k hk; simp [h2]
  have hall : ∀ x ∈ Z.zip T, (gV 39 x.1.2 ∧ itsA 39 x.1.2 = x.2.l ∧ x.1.2.cls = x.2.f) ∧ x.2.l.length ≤ 3000 := by
    intro x hx
    obtain ⟨k, hk, e⟩ := List.mem_iff_getElem.1 hx
    have hk2 : k < ps.length := by rw [List.length_zip] at hk; omega
    rw [List.getElem_zip] at e
    subst e
    obtain ⟨c1, c2⟩ := h3 ps[k] (List.getElem_mem hk2)
    simp only [hZ k hk2, hT k hk2]
    refine ⟨⟨gA_gV (d := 39) (arrP_good 40 _ c1), its_arrP (d := 39) c1, ?_⟩, by rw [(tidy_len _).1]; exact c2⟩
    rw [(tidy_len _).2]; exact (arrP_len (d := 40) c1).2.1
  have hm1 : (Z.zip T).map (·.1) = Z := List.map_fst_zip (by omega)
  have hm2 : (Z.zip T).map (·.2) = T := List.map_snd_zip (by omega)
  have hj := joins_meet (L := Z.zip T) (fun x hx => (hall x hx).1) (fun x hx => (hall x hx).2) (by rw [List.length_zip]; omega)
  rw [hm1, hm2] at hj
  refine ⟨fun q hq => ?_, fun q hq => ?_, fun q hq => ?_, hz, ht, hj⟩
  · obtain ⟨k, hk, e⟩ := List.mem_iff_getElem.1 hq
    have := (hall (q, T[k]'(by omega)) (by rw [List.mem_iff_getElem]; exact ⟨k, by rw [List.length_zip]; omega, by rw [List.getElem_zip, e]⟩)).1.1
    exact gV_joinIn this
  · obtain ⟨k, hk, e⟩ := List.mem_iff_getElem.1 hq
    exact (hall (Z[k]'(by omega), q) (by rw [List.mem_iff_getElem]; exact ⟨k, by rw [List.length_zip]; omega, by rw [List.getElem_zip, e]⟩)).2
  · obtain ⟨k, hk, e⟩ := List.mem_iff_getElem.1 hq
    have := (hall (Z[k]'(by omega), q) (by rw [List.mem_iff_getElem]; exact ⟨k, by rw [List.length_zip]; omega, by rw [List.getElem_zip, e]⟩)).1.2.2
    have hc := VV.cls_cases (Z[k]'(by omega)).2
    simp only at this
    rw [this] at hc
    omega

set_option maxHeartbeats 16000000 in
theorem flatJoins_walk (v : Value) (ps : List PA) (n : Nat) (w : World) (hl : ∀ q ∈ ps, lo n q) (hp : IsB w (fun _ => True) v ps) (hT : TabAt w) :
    Calls Tryz.prog 3 #[v] w (BoolIs true w) := by
  have HPS := Lib.hid hp
  have HL := Lib.hid hl
  have HT := Lib.hid hT
  have HT0 := Lib.hid hT
  have HB := Lib.hid (Below.refl w.heap.size w)
  obtain ⟨bo, bc, rfl, hbc, hbm⟩ := hp.len
  have HBC := Lib.hid (And.intro hbc hbm)
  have hfa := fl4_arr1
  clear hl hp hT hbc hbm
  by_cases hlg : 12 < ps.length
  · go_enter Tryz.func3, Tryz.ntmps3
    go_wp2_with fail
    refine (awake8_calls _ HT.out).mono ?_
    rintro e W11 ⟨rfl, hB⟩
    replace HB := Lib.hid (HB.out.trans (hB.mono HB.out.size))
    replace HT := Lib.hid (fun j hj => keep_below hB _ _ (HT.out j hj))
    clear hB
    go_wp2_with fail
    go_ret
    exact BoolIs.mk rfl HB.out
  have HLG := Lib.hid (show ps.length ≤ 12 by omega)
  have HJ0 := Lib.hid (JR.start w)
  obtain ⟨i0, hi, hz0, hz1, hz2⟩ := info_parts info_vec1
  have HI0 := Lib.hid (And.intro hi (And.intro hz0 (And.intro hz1 hz2)))
  obtain ⟨i3, hi3, hz03, hz13, hz23⟩ := info_parts info_plain3
  have HI3 := Lib.hid (And.intro hi3 (And.intro hz03 (And.intro hz13 hz23)))
  clear hi hz0 hz1 hz2 hi3 hz03 hz13 hz23
  go_enter Tryz.func3, Tryz.ntmps3
  go_wp2_with fail
  go_loopw [3, 4, 5] (fun vo vt i wr => ∃ (k : Nat) (Z : List (Value × VV)) (L : List TV) (T : List PA), k ≤ ps.length ∧ i = .int .i64 k ∧ JL ps Z T k ∧ JR w k k vo vt Z L T wr) (fun _ _ i _ => ps.length - (intOf i).toNat)
  case atStart => exact ⟨0, [], [], [], by omega, rfl, ⟨rfl, rfl, fun p hp => by simp at hp⟩, HJ0.out⟩
  case round =>
    obtain ⟨k, Z, L, T, hk, rfl, hJL, hR⟩ := hrel
    obtain ⟨vo1, vo2, rfl⟩ := owns_form hR.1
    obtain ⟨vt1, vt2, rfl⟩ := owns_form hR.2.1
    have HR := Lib.hid hR
    have HJL := Lib.hid hJL
    have HSW := Lib.hid hR.2.2.2.2.2.size
    have HB := Lib.hid hR.2.2.2.2.2
    have HBW := Lib.hid (Below.refl wr.heap.size wr)
    have HT := Lib.hid (show TabAt wr from fun j hj => keep_below HB.out _ _ (HT.out j hj))
    clear hR hJL
    have hM12 := HLG.out
    by_cases hlt : k < ps.length
    · have hx := List.getElem?_eq_getElem hlt
      obtain ⟨p, hpp⟩ : ∃ p, p = ps[k] := ⟨_, rfl⟩
      rw [← hpp] at hx
      clear hpp
      have HX := Lib.hid hx
      obtain ⟨b, off, so, sc, io, ic, rfl, _, c0, c1, c2, hP⟩ := HPS.out.lt.at hx
      have HCW := Lib.hid (And.intro c0 (And.intro c1 c2))
      have HIW := Lib.hid hP
      have HCE := Lib.hid (And.intro (keep_below HB.out _ _ c0) (And.intro (keep_below HB.out _ _ c1) (keep_below HB.out _ _ c2)))
      have HI := Lib.hid (HIW.out.grow HB.out)
      have HLP := Lib.hid (HL.out p (List.mem_of_getElem? hx))
      have HKK := Lib.hid (show k + 1 ≤ ps.length by omega)
      have HMS := Lib.hid (show ps.length - (k + 1) < ps.length - k by omega)
      have HM1 : Hid (k + 1 ≤ maxLen) := Lib.hid (by unfold maxLen; omega)
      have HM2 : Hid ((k + 1) * 16 ≤ 140737488355328) := Lib.hid (by omega)
      have HM3 : Hid ((k + 1) * 56 ≤ 140737488355328) := Lib.hid (by omega)
      clear hx hP c0 c1 c2
      have cHCE0 := HCE.out.1
      have cHCE1 := HCE.out.2.1
      have cHCE2 := HCE.out.2.2
      go_wp2_with fail
      refine (good8_short _ p _ n _ HLP.out HI.out).mono ?_
      rintro e W11 ⟨g, rfl, hg, hB⟩
      clear cHCE0 cHCE1 cHCE2
      replace HB := Lib.hid (HB.out.trans (hB.mono HB.out.size))
      replace HT := Lib.hid (fun j hj => keep_below hB _ _ (HT.out j hj))
      replace HBW := Lib.hid (HBW.out.trans (hB.mono HBW.out.size))
      replace HCE := Lib.hid (And.intro (keep_below hB _ _ HCE.out.1) (And.intro (keep_below hB _ _ HCE.out.2.1) (keep_below hB _ _ HCE.out.2.2)))
      replace HI := Lib.hid (HI.out.grow hB)
      have HG := Lib.hid hg
      clear hg
      clear hB
      cases g
      · have cHCE0 := HCE.out.1
        have cHCE1 := HCE.out.2.1
        have cHCE2 := HCE.out.2.2
        go_wp2_with fail
        refine (awake8_calls _ HT.out).mono ?_
        rintro e W12 ⟨rfl, hB⟩
        clear cHCE0 cHCE1 cHCE2
        replace HB := Lib.hid (HB.out.trans (hB.mono HB.out.size))
        replace HT := Lib.hid (fun j hj => keep_below hB _ _ (HT.out j hj))
        replace HBW := Lib.hid (HBW.out.trans (hB.mono HBW.out.size))
        replace HCE := Lib.hid (And.intro (keep_below hB _ _ HCE.out.1) (And.intro (keep_below hB _ _ HCE.out.2.1) (keep_below hB _ _ HCE.out.2.2)))
        replace HI := Lib.hid (HI.out.grow hB)
        clear hB
        have cHCE0 := HCE.out.1
        have cHCE1 := HCE.out.2.1
        have cHCE2 := HCE.out.2.2
        go_wp2_with fail
        go_ret
        exact BoolIs.mk rfl HB.out
      have HCP := Lib.hid (HG.out rfl)
      have cHCE0 := HCE.out.1
      have cHCE1 := HCE.out.2.1
      have cHCE2 := HCE.out.2.2
      go_wp2_with fail
      have HO := HBW.out.size
      refine (lof_calls _ p _ n _ HLP.out HI.out HT.out HCP.out.1).mono ?_
      rintro e W12 ⟨so3, sc3, uo, rfl, hOR, hB⟩
      clear cHCE0 cHCE1 cHCE2
      replace HB := Lib.hid (HB.out.trans (hB.mono HB.out.size))
      replace HT := Lib.hid (fun j hj => keep_below hB _ _ (HT.out j hj))
      replace HBW := Lib.hid (HBW.out.trans (hB.mono HBW.out.size))
      replace HCE := Lib.hid (And.intro (keep_below hB _ _ HCE.out.1) (And.intro (keep_below hB _ _ HCE.out.2.1) (keep_below hB _ _ HCE.out.2.2)))
      replace HI := Lib.hid (HI.out.grow hB)
      have HUO := Lib.hid (show IsV W12 (fun b => (Value.slice vo1 k vo2).ownBlock ≠ some b ∧ (Value.slice vt1 k vt2).ownBlock ≠ some b) uo (arrP 40 p).2 from hOR.2.wide (fun b _ (h : W11.heap.size ≤ b) => HR.out.free (Nat.le_trans HO h)))
      clear hOR HO
      clear hB
      have cHCE0 := HCE.out.1
      have cHCE1 := HCE.out.2.1
      have cHCE2 := HCE.out.2.2
      obtain ⟨W4, hW4⟩ : ∃ W4, W4 = W12.alloc (.cells #[uo] 31) := ⟨_, rfl⟩
      have HB4 := Lib.hid (show Below wr.heap.size wr W4 by rw [hW4]; exact HBW.out.alloc HBW.out.size _)
      have HN4 := Lib.hid (show ∀ j u, [uo][j]? = some u → W4.cell? ((⟨W12.heap.size, 0, none⟩ : Addr).add j) = some u by rw [hW4]; exact cell_one_newv _ _ _)
      have HU4 := Lib.hid (show IsV W4 (fun b => (Value.slice vo1 k vo2).ownBlock ≠ some b ∧ (Value.slice vt1 k vt2).ownBlock ≠ some b) uo (arrP 40 p).2 by rw [hW4]; exact HUO.out.grow (below_new _ _))
      have HON := Lib.hid (show ∀ u ∈ [uo], u.oneCell' = true by intro u hu; simp at hu; subst hu; exact HUO.out.one)
      have HO4 := Lib.hid (owns_below2 HR.out.1 HB4.out)
      have HS4 := Lib.hid (Nat.le_trans HSW.out HB4.out.size)
      have hfold4 := hW4.symm
      clear hW4
      go_wp2_with (at_builtin; refine wpList_append_blk _ rfl _ _ 24 rfl w.heap.size 31 i0 _ 1 16 Tryz.underlying24 HI0.out.1 HI0.out.2.1 HI0.out.2.2.1 HI0.out.2.2.2 rfl (by decide) _ k _ rfl HO4.out ⟨W12.heap.size, 0, none⟩ 1 1 [uo] rfl rfl HN4.out HON.out HM1.out HM2.out HS4.out ?_)
      intro v' w5 hown hgrow hblk
      obtain ⟨ao', cap', rfl⟩ := owns_form hown
      have HJ5 := Lib.hid (HR.out.own HB4.out HU4.out hown hgrow hblk)
      clear cHCE0 cHCE1 cHCE2 hown hgrow hblk hfold4 HB HBW HT HCE HI HUO
      have HB := Lib.hid HJ5.out.2.2.2.2.2
      have HBW := Lib.hid (Below.refl w5.heap.size w5)
      have HT := Lib.hid (show TabAt w5 from fun j hj => keep_below HB.out _ _ (HT0.out j hj))
      have HCE := Lib.hid (And.intro (keep_below HB.out _ _ HCW.out.1) (And.intro (keep_below HB.out _ _ HCW.out.2.1) (keep_below HB.out _ _ HCW.out.2.2)))
      have HI := Lib.hid (HIW.out.grow HB.out)
      have HSW5 := Lib.hid HB.out.size
      have cHCE0 := HCE.out.1
      have cHCE1 := HCE.out.2.1
      have cHCE2 := HCE.out.2.2
      go_wp2_with fail
      have HO := HBW.out.size
      refine (ptidy_calls 40 _ p _ _ HCP.out.1 HI.out).mono ?_
      rintro e W13 ⟨ut, rfl, hut, hB⟩
      clear cHCE0 cHCE1 cHCE2
      replace HB := Lib.hid (HB.out.trans (hB.mono HB.out.size))
      replace HT := Lib.hid (fun j hj => keep_below hB _ _ (HT.out j hj))
      replace HBW := Lib.hid (HBW.out.trans (hB.mono HBW.out.size))
      replace HCE := Lib.hid (And.intro (keep_below hB _ _ HCE.out.1) (And.intro (keep_below hB _ _ HCE.out.2.1) (keep_below hB _ _ HCE.out.2.2)))
      replace HI := Lib.hid (HI.out.grow hB)
      have HUT := Lib.hid (show IsP W13 (fun b => (Value.slice ao' (k + 1) cap').ownBlock ≠ some b ∧ (Value.slice vt1 k vt2).ownBlock ≠ some b) ut (tidyP 40 p) from hut.wide (fun b _ h => h.elim (fun h => HJ5.out.old h.1.2) (fun (h : w5.heap.size ≤ b) => HJ5.out.free (Nat.le_trans HO h))))
      obtain ⟨ta, tb, tc, td, rfl, _, _⟩ := hut.opened
      clear hut HO
      clear hB
      have cHCE0 := HCE.out.1
      have cHCE1 := HCE.out.2.1
      have cHCE2 := HCE.out.2.2
      obtain ⟨t, ht⟩ : ∃ t : TV, t = (.slice ta (tidyP 40 p).s.length tb, .slice tc (tidyP 40 p).l.length td, .int .i64 (tidyP 40 p).f) := ⟨_, rfl⟩
      have e0 : Value.slice ta (tidyP 40 p).s.length tb = t.1 := by rw [ht]
      have e1 : Value.slice tc (tidyP 40 p).l.length td = t.2.1 := by rw [ht]
      have e2 : Value.int .i64 (tidyP 40 p).f = t.2.2 := by rw [ht]
      have o0 : t.1.oneCell' = true := by rw [ht]; rfl
      have o1 : t.2.1.oneCell' = true := by rw [ht]; rfl
      have o2 : t.2.2.oneCell' = true := by rw [ht]; rfl
      have HOC := Lib.hid (And.intro o0 (And.intro o1 o2))
      rw [e0, e1, e2] at HUT ⊢
      clear ht e0 e1 e2 o0 o1 o2
      obtain ⟨W6, hW6⟩ : ∃ W6, W6 = W13.alloc (.cells #[t.1, t.2.1, t.2.2] 29) := ⟨_, rfl⟩
      have HB6 := Lib.hid (show Below w5.heap.size w5 W6 by rw [hW6]; exact HBW.out.alloc HBW.out.size _)
      have HN6 := Lib.hid (show ∀ j u, (triV t)[j]? = some u → W6.cell? ((⟨W13.heap.size, 0, none⟩ : Addr).add j) = some u by rw [hW6]; exact cell_three_new _ _ _ _ _)
      have HU6 := Lib.hid (show IsP W6 (fun b => (Value.slice ao' (k + 1) cap').ownBlock ≠ some b ∧ (Value.slice vt1 k vt2).ownBlock ≠ some b) (.agg #[t.1, t.2.1, t.2.2]) (tidyP 40 p) by rw [hW6]; exact HUT.out.grow (below_new _ _))
      have HON6 := Lib.hid (show ∀ u ∈ triV t, u.oneCell' = true by intro u hu; simp only [triV, List.mem_cons, List.not_mem_nil, or_false] at hu; rcases hu with rfl | rfl | rfl; exact HOC.out.1; exact HOC.out.2.1; exact HOC.out.2.2)
      have HO6 := Lib.hid (owns_below2 HJ5.out.2.1 HB6.out)
      have HS6 := Lib.hid (Nat.le_trans HSW5.out HB6.out.size)
      have hfold6 := hW6.symm
      clear hW6
      go_wp2_with (at_builtin; refine wpList_append_blk _ rfl _ _ 22 rfl w.heap.size 29 i3 _ 3 56 Tryz.underlying22 HI3.out.1 HI3.out.2.1 HI3.out.2.2.1 HI3.out.2.2.2 rfl (by decide) _ k _ rfl HO6.out ⟨W13.heap.size, 0, none⟩ 1 1 (triV t) rfl rfl HN6.out HON6.out HM1.out HM3.out HS6.out ?_)
      intro v' w7 hown hgrow hblk
      obtain ⟨ao7, cap7, rfl⟩ := owns_form hown
      have HJ7 := Lib.hid (HJ5.out.tidy HB6.out HU6.out hown hgrow hblk)
      have HJL7 := Lib.hid (HJL.out.step (u := uo) HX.out HCP.out.1 HCP.out.2)
      clear cHCE0 cHCE1 cHCE2 hown hgrow hblk hfold6
      go_wp2_with fail
      go_roundw
      case rel => exact ⟨k + 1, _, _, _, HKK.out, by go_num, HJL7.out, HJ7.out⟩
      case measure => simpa [intOf] using HMS.out
    · have hkl : k = ps.length := by omega
      rw [hkl] at HJL
      obtain ⟨m1, m2, m3, m4, m5, m6, m7⟩ := JL.meet HJL.out HLG.out
      obtain ⟨d1, d2, _, _⟩ := HR.out.ends
      have HZV := Lib.hid d1
      have HTB := Lib.hid d2
      have HM1 := Lib.hid m1
      have HM2 := Lib.hid m2
      have HM3 := Lib.hid m3
      have HM4 := Lib.hid (show Z.length ≤ 1000000 by omega)
      have HM5 := Lib.hid (show T.length ≤ 100 by omega)
      have HM6 := Lib.hid m6
      have HM7 := Lib.hid m7
      clear m1 m2 m3 m4 m5 m6 m7 d1 d2 hkl
      go_wp2_with fail
      refine (fjoin_calls _ Z _ HZV.out HM4.out HM1.out HT.out).mono ?_
      rintro e W11 ⟨uj, rfl, huj, hB⟩
      replace HB := Lib.hid (HB.out.trans (hB.mono HB.out.size))
      replace HT := Lib.hid (fun j hj => keep_below hB _ _ (HT.out j hj))
      replace HZV := Lib.hid (HZV.out.keep (Kept.below hB) (fun _ _ h => h))
      replace HTB := Lib.hid (HTB.out.grow hB)
      have HUJ := Lib.hid huj.any
      have hsj := HUJ.out.store
      clear huj
      clear hB
      obtain ⟨W12, hWn⟩ : ∃ xw9, W11.alloc (.cells #[uj] 31) = xw9 := ⟨_, rfl⟩
      have hB : Below W11.heap.size W11 W12 := by rw [← hWn]; exact below_new _ _
      have hNB : At1 W12 W11.heap.size (uj) := by rw [← hWn]; exact At1.new _ _ _
      replace HB := Lib.hid (HB.out.trans (hB.mono HB.out.size))
      replace HT := Lib.hid (fun j hj => keep_below hB _ _ (HT.out j hj))
      replace HZV := Lib.hid (HZV.out.keep (Kept.below hB) (fun _ _ h => h))
      replace HTB := Lib.hid (HTB.out.grow hB)
      replace HUJ := Lib.hid (HUJ.out.grow hB)
      have HJV := Lib.hid hNB
      clear hNB hB
      have cHJV0 := HJV.out.2.1
      go_wp2_with fail
      clear hWn
      refine (rjoin_calls _ T _ HTB.out HM5.out HM2.out HM3.out).mono ?_
      rintro e W13 ⟨ur, rfl, hur, hB⟩
      clear cHJV0
      replace HB := Lib.hid (HB.out.trans (hB.mono HB.out.size))
      replace HT := Lib.hid (fun j hj => keep_below hB _ _ (HT.out j hj))
      replace HZV := Lib.hid (HZV.out.keep (Kept.below hB) (fun _ _ h => h))
      replace HTB := Lib.hid (HTB.out.grow hB)
      replace HUJ := Lib.hid (HUJ.out.grow hB)
      replace HJV := Lib.hid (HJV.out.below hB)
      have HUR := Lib.hid (show Its W13 (fun _ => True) ur (jl T) from hur.wide (fun _ _ _ => trivial))
      obtain ⟨ro, rc, rfl, _⟩ := hur.len
      clear hur
      clear hB
      rcases hcl : rcls (-1) T with _ | c
      · obtain ⟨j1, j2⟩ := HM6.out hcl
        have HJC := Lib.hid (show jcls T = -1 by unfold jcls; rw [hcl])
        rw [HJC.out]
        rw [j2] at HUJ
        rw [j1]
        clear j1 j2 hcl
        have cHJV0 := HJV.out.2.1
        go_wp2_with fail
        refine (kind_calls _ .none _ HUJ.out).mono ?_
        rintro e W14 ⟨rfl, hB⟩
        clear cHJV0
        replace HB := Lib.hid (HB.out.trans (hB.mono HB.out.size))
        replace HT := Lib.hid (fun j hj => keep_below hB _ _ (HT.out j hj))
        replace HZV := Lib.hid (HZV.out.keep (Kept.below hB) (fun _ _ h => h))
        replace HTB := Lib.hid (HTB.out.grow hB)
        replace HUJ := Lib.hid (HUJ.out.grow hB)
        replace HJV := Lib.hid (HJV.out.below hB)
        replace HUR := Lib.hid (HUR.out.grow hB)
        clear hB
        have cHJV0 := HJV.out.2.1
        go_wp2_with fail
        refine (awake8_calls _ HT.out).mono ?_
        rintro e W15 ⟨rfl, hB⟩
        clear cHJV0
        replace HB := Lib.hid (HB.out.trans (hB.mono HB.out.size))
        replace HT := Lib.hid (fun j hj => keep_below hB _ _ (HT.out j hj))
        replace HZV := Lib.hid (HZV.out.keep (Kept.below hB) (fun _ _ h => h))
        replace HTB := Lib.hid (HTB.out.grow hB)
        replace HUJ := Lib.hid (HUJ.out.grow hB)
        replace HJV := Lib.hid (HJV.out.below hB)
        replace HUR := Lib.hid (HUR.out.grow hB)
        clear hB
        have cHJV0 := HJV.out.2.1
        go_wp2_with fail
        go_ret
        exact BoolIs.mk rfl HB.out
      · obtain ⟨j1, j2, j3, j4⟩ := HM7.out c hcl
        have HJC := Lib.hid (show jcls T = rfin c T by unfold jcls; rw [hcl])
        have HJL2 := Lib.hid (show jl T = itsA 39 (joinZ Z) by rw [j4]; unfold jl; rw [hcl])
        have HJ2 := Lib.hid j2
        obtain ⟨cz, hcz⟩ : ∃ cz, cz = rfin c T := ⟨_, rfl⟩
        have HJ3 := Lib.hid (show (joinZ Z).cls = cz by rw [hcz]; exact j3)
        have hc0 : ¬ cz < 0 := by have := VV.cls_cases (joinZ Z); have := HJ3.out; omega
        rw [HJC.out, ← hcz]
        rw [j1]
        clear j1 j2 j3 j4 hcl hcz
        have cHJV0 := HJV.out.2.1
        go_wp2_with fail
        refine (shows8_calls _ (joinZ Z) _ (jl T) cz _ HUJ.out HJ2.out HJ3.out HUR.out HJL2.out HT.out).mono ?_
        rintro e W14 ⟨rfl, hB⟩
        clear cHJV0
        replace HB := Lib.hid (HB.out.trans (hB.mono HB.out.size))
        replace HT := Lib.hid (fun j hj => keep_below hB _ _ (HT.out j hj))
        replace HZV := Lib.hid (HZV.out.keep (Kept.below hB) (fun _ _ h => h))
        replace HTB := Lib.hid (HTB.out.grow hB)
        replace HUJ := Lib.hid (HUJ.out.grow hB)
        replace HJV := Lib.hid (HJV.out.below hB)
        replace HUR := Lib.hid (HUR.out.grow hB)
        clear hB
        have cHJV0 := HJV.out.2.1
        go_wp2_with fail
        refine (awake8_calls _ HT.out).mono ?_
        rintro e W15 ⟨rfl, hB⟩
        clear cHJV0
        replace HB := Lib.hid (HB.out.trans (hB.mono HB.out.size))
        replace HT := Lib.hid (fun j hj => keep_below hB _ _ (HT.out j hj))
        replace HZV := Lib.hid (HZV.out.keep (Kept.below hB) (fun _ _ h => h))
        replace HTB := Lib.hid (HTB.out.grow hB)
        replace HUJ := Lib.hid (HUJ.out.grow hB)
        replace HJV := Lib.hid (HJV.out.below hB)
        replace HUR := Lib.hid (HUR.out.grow hB)
        clear hB
        have cHJV0 := HJV.out.2.1
        go_wp2_with fail
        go_ret
        exact BoolIs.mk rfl HB.out

theorem flatJoins_frame (w : World) (v : Value) (ps : List PA) (n : Nat) (hl : ∀ q ∈ ps, lo n q) (hp : IsB w (fun _ => True) v ps) (hT : TabAt w) :
    Calls Tryz.prog 3 #[v] w fun e w' => e = .returned (.bool true) ∧ Below w.heap.size w w' := flatJoins_walk v ps n w hl hp hT
end Go.Proofs.YtohkohnihaockaaGreatDoor

/- Package flat, walked: Blank, clamp, selected, Pick. -/
import Derived.Test.YtbdhibcbpgjbmaaGreatDoorFlB
import Derived.Test.YtbdhibcbpgjbmaaGreatDoorVaW
namespace Go.Proofs.YtbdhibcbpgjbmaaGreatDoor
set_option maxRecDepth 100000
open Go.RowKit Fl
set_option linter.unusedVariables false

def blankA : List Int × VV := ([0], .bits [])

set_option maxHeartbeats 4000000 in
theorem fblank_calls (w : World) : Calls Tryz.prog 128 #[] w (ArrNew blankA w) := by
 obtain ⟨W1, hW1⟩ : ∃ W1, W1 = (w.alloc (.cells #[.slice none 0 0, .nilIface] 38)).alloc (.cells #[.int .i64 0] 3) := ⟨_, rfl⟩
 have HB := Lib.hid (show Below w.heap.size w W1 by rw [hW1]; exact (below_new _ _).alloc (by simp) _)
 have HR := Lib.hid (show At2 W1 w.heap.size (.slice none 0 0) .nilIface by rw [hW1]; exact (At2.new w _ _ _).below (below_new _ _))
 have HSZ := Lib.hid (show W1.heap.size = w.heap.size + 2 by rw [hW1]; simp)
 have HL := Lib.hid (show Slc W1 (fun b => b = w.heap.size + 1) (.slice (some ⟨w.heap.size + 1, 0, none⟩) 1 1) 1 (ints [0]) by
  have h := Slc.owned (World.ownsRow_lit (base := w.heap.size + 1) (e := 3) (size := 1) (w.alloc (.cells #[.slice none 0 0, .nilIface] 38)) #[.int .i64 0] 1 (by simp) (by unfold maxLen; omega) rfl)
  rw [hW1]
  simp only [World.size_alloc] at h
  refine Slc.keep (ok := fun b => w.heap.size + 1 ≤ b) (Kept.refl _ _) (fun b hb h => ?_) h
  simp at hb
  omega)
 have hfold := hW1.symm
 clear hW1
 go_enter Tryz.func128, Tryz.ntmps128
 go_wp2_with fail
 clear hfold
 refine (vnone_calls 0 _).mono ?_
 rintro e W2 ⟨u', rfl, hu, hB2⟩
 have hsu := hu.store
 have HU := Lib.hid (show IsV W2 (fun b => W1.heap.size ≤ b) u' (.bits []) from hu)
 have HL2 := Lib.hid (HL.out.below hB2)
 have HR2 := Lib.hid (HR.out.below hB2)
 have HB2 := Lib.hid (HB.out.trans (hB2.mono HB.out.size))
 have c0 := HR2.out.2.1; have c1 := HR2.out.2.2.1; have z0 := HR2.out.2.2.2 0; have z1 := HR2.out.2.2.2 1; have HSW := Lib.hid HR.out.1; clear hB2 hu
 go_wp2_with fail
 refine bodyPost_ret (v := .agg #[.slice (some ⟨w.heap.size + 1, 0, none⟩) 1 1, u']) (by simp [results, Tryz.results128, go_sem, c0, c1]) rfl ⟨_, 1, u', rfl, ⟨?_, ?_⟩, (HB2.out.setCell (Nat.le_refl _) _).setCell (Nat.le_refl _) _⟩
 ·exact HL2.out.keep ((Kept.setCell _ _ _ (by simp)).trans (Kept.setCell _ _ _ (by simp))) (fun b _ (h : b = w.heap.size + 1) => by omega)
 ·exact HU.out.keep ((Kept.setCell _ _ _ (by have := HSW.out; simp <;> omega)).trans (Kept.setCell _ _ _ (by have := HSW.out; simp <;> omega))) (fun b _ (h : W1.heap.size ≤ b) => by have := HSZ.out; omega)

theorem fnumbers_calls {ok : Nat → Prop} (v : Value) (l : List Nat) (w : World) (hv : Slc w ok v l.length (f64s l)) (hm : l.length ≤ 1048576) (hf : ∀ x ∈ l, Fnt x) (hT : TabAt w) :
  Calls Tryz.prog 129 #[v] w fun e w' => ∃ u, e = .returned (.agg #[u]) ∧ IsV w' (fun b => w.heap.size ≤ b) u (VV.floats (l.map ze)).sq ∧ Below w.heap.size w w' := by
 have HV := Lib.hid hv; have HF := Lib.hid hf; have HT := Lib.hid hT
 obtain ⟨ao, cap, rfl, _⟩ := hv.opened
 clear hv hf hT
 obtain ⟨W1, hW1⟩ : ∃ W1, W1 = w.alloc (.cells #[.nilIface] 36) := ⟨_, rfl⟩
 have HB := Lib.hid (show Below w.heap.size w W1 by rw [hW1]; exact below_new _ _)
 have HR := Lib.hid (show At1 W1 w.heap.size .nilIface by rw [hW1]; exact At1.new w _ _)
 have hfold := hW1.symm
 clear hW1
 go_enter Tryz.func129, Tryz.ntmps129
 go_wp2_with fail
 clear hfold
 refine (numbers_yes _ l _ (HV.out.below HB.out) hm HF.out (fun j hj => keep_below HB.out _ _ (HT.out j hj))).mono ?_
 rintro e W2 ⟨u', rfl, hu, hB2⟩
 have hsu := hu.store
 have HU := Lib.hid (show IsV W2 (fun b => W1.heap.size ≤ b) u' _ from hu)
 obtain ⟨W3, hW3⟩ : ∃ W3, W3 = W2.alloc (.cells #[u'] 36) := ⟨_, rfl⟩
 have HN := Lib.hid (show Below W2.heap.size W2 W3 by rw [hW3]; exact below_new _ _)
 have HU3 := Lib.hid (HU.out.grow HN.out)
 have HV := Lib.hid (show At1 W3 W2.heap.size u' by rw [hW3]; exact At1.new _ _ _)
 have HB3 := Lib.hid ((HB.out.trans (hB2.mono HB.out.size)).trans (HN.out.mono (Nat.le_trans HB.out.size hB2.size)))
 obtain ⟨_, r0, rf⟩ := (HR.out.below hB2).below HN.out
 have rf0 := rf 0
 have HSZ := Lib.hid HR.out.1
 obtain ⟨_, v0, _⟩ := HV.out
 have HFW := Lib.hid hW3.symm; clear hu hB2 hW3 rf; have hfold := HFW.out
 go_wp2_with fail
 refine bodyPost_ret (v := .agg #[u']) (by simp [results, Tryz.results129, go_sem, r0]) rfl ⟨_, rfl, ?_, HB3.out.setCell (Nat.le_refl _) _⟩
 exact HU3.out.keep (Kept.setCell _ _ _ (by have := HSZ.out; simp <;> omega)) (fun b _ (h : W1.heap.size ≤ b) => by have := HSZ.out; have := HB.out.size; omega)
theorem fclamp_calls (n most : Int) (w : World) :
  Calls Tryz.prog 105 #[.int .i64 n, .int .i64 most] w fun e w' => e = .returned (.int .i64 (min (max n 0) most)) ∧ w = w' := by
 by_cases h : n < 0
 ·by_cases h2 : most < 0
  ·go_enter Tryz.func105, Tryz.ntmps105
   go_wp2
   all_goals (go_ret; exact ⟨ret_i (by first | rfl | omega), rfl⟩)
  ·go_enter Tryz.func105, Tryz.ntmps105
   go_wp2
   all_goals (go_ret; exact ⟨ret_i (by first | rfl | omega), rfl⟩)
 ·by_cases h2 : most < n
  ·go_enter Tryz.func105, Tryz.ntmps105
   go_wp2
   all_goals (go_ret; exact ⟨ret_i (by first | rfl | omega), rfl⟩)
  ·go_enter Tryz.func105, Tryz.ntmps105
   go_wp2
   all_goals (go_ret; exact ⟨ret_i (by first | rfl | omega), rfl⟩)

/-- Elements at some places. -/
noncomputable def VV.sel (V : VV) (at_ : List Int) : VV :=
 match V with
 | .bits l => .bits (at_.map (sqI l)) | .chars l => .chars (at_.map (atI l 32)) | .boxes l => .boxes (at_.map (atI l blankA))
 | V => (VV.floats (at_.map (atI V.nums 0))).sq
theorem VV.sel_bits {V : VV} (h : V.isBit = true) (at_ : List Int) : V.sel at_ = .bits (at_.map (sqI V.packed)) := by cases V <;> simp_all [VV.isBit, VV.sel, VV.packed]
theorem VV.sel_chars {V : VV} (h : V.cls = 1) (at_ : List Int) : V.sel at_ = .chars (at_.map (atI V.text 32)) := by cases V <;> simp_all [VV.cls, VV.sel, VV.text]
theorem VV.sel_boxes {V : VV} (h : V.cls = 2) (at_ : List Int) : V.sel at_ = .boxes (at_.map (atI V.boxs blankA)) := by cases V <;> simp_all [VV.cls, VV.sel, VV.boxs]
theorem VV.sel_nums {V : VV} (h : V.cls = 0) (h2 : V.isBit = false) (at_ : List Int) : V.sel at_ = (VV.floats (at_.map (atI V.nums 0))).sq := by cases V <;> simp_all [VV.cls, VV.sel, VV.isBit]
theorem VV.text_len {V : VV} (h : V.cls = 1) : V.text.length = V.len := by cases V <;> simp_all [VV.cls, VV.text, VV.len]
theorem VV.packed_len {V : VV} (h : V.isBit = true) : V.packed.length = V.len := by cases V <;> simp_all [VV.isBit, VV.packed, VV.len]
theorem atI_num {l : List Nat} {i : Int} (h : ∀ x ∈ l, Num x) : Num (atI l 0 i) := by
 by_cases hin : 0 ≤ i ∧ i < (l.length : Int)
 ·obtain ⟨k, rfl⟩ := Int.eq_ofNat_of_zero_le hin.1
  have hk : k < l.length := by omega
  rw [show atI l 0 (k : Int) = l[k] from atI_nat hk]
  exact h _ (List.getElem_mem hk)
 ·rw [atI_neg hin]; exact ⟨fin_zero, fun _ => rfl⟩
theorem map_atI_num {l : List Nat} {at_ : List Int} (h : ∀ x ∈ l, Num x) : ∀ x ∈ at_.map (atI l 0), Num x := by
 intro x hx
 obtain ⟨i, _, rfl⟩ := List.mem_map.1 hx
 exact atI_num h
theorem VV.packed_ok {V : VV} (h : V.ok) : V.packed.length ≤ 1048576 := by
 cases V <;> simp_all [VV.ok, VV.packed]
end Go.Proofs.YtbdhibcbpgjbmaaGreatDoor

/- Package flat, walked: selected, Pick. -/
import Derived.Test.YtbdhibcbpgjbmaaGreatDoorFlC
namespace Go.Proofs.YtbdhibcbpgjbmaaGreatDoor
set_option maxRecDepth 100000
open Go.RowKit Fl
set_option linter.unusedVariables false

theorem VV.cls_cases (V : VV) : V.cls = 0 ∨ V.cls = 1 ∨ V.cls = 2 := by cases V <;> simp [VV.cls]
theorem VV.bit_cls {V : VV} (h : V.isBit = true) : V.cls = 0 := by cases V <;> simp_all [VV.cls, VV.isBit]
theorem At1.put1 {w : World} {b : Nat} {u : Value} (h : At1 w b u) (x : Value) : At1 (w.setCell ⟨b, 0, none⟩ x) b x :=
 ⟨by simpa using h.1, World.cell?_setCell_same _ _ _ h.2.1, fun o => by simpa using h.2.2 o⟩
theorem atI_boxs {l : List (List Int × VV)} {at_ : List Int} (h : ∀ a ∈ l, a.1.length ≤ 1048576) : ∀ p ∈ at_.map (atI l blankA), p.1.length ≤ 1048576 := by
 intro p hp
 obtain ⟨i, _, rfl⟩ := List.mem_map.1 hp
 by_cases hin : 0 ≤ i ∧ i < (l.length : Int)
 ·obtain ⟨k, rfl⟩ := Int.eq_ofNat_of_zero_le hin.1
  have hk : k < l.length := by omega
  rw [show atI l blankA (k : Int) = l[k] from atI_nat hk]
  exact h _ (List.getElem_mem hk)
 ·rw [atI_neg hin]; simp [blankA]
theorem bools_eq (l : List Bool) : bools l = l.map Value.bool := rfl

set_option maxHeartbeats 4000000 in
theorem selected_calls {ok ok2 : Nat → Prop} (u : Value) (V : VV) (v : Value) (at_ : List Int) (w : World) (hu : IsV w ok u V) (hok : V.ok) (hn : V.nm) (hb : ∀ a ∈ V.boxs, a.1.length ≤ 1048576) (hv : Slc w ok2 v at_.length (ints at_)) (hm : at_.length ≤ 1048576) (hT : TabAt w) :
  Calls Tryz.prog 106 #[.agg #[u], v] w fun e w' => ∃ u', e = .returned (.agg #[u']) ∧ IsV w' (fun b => (ok b ∧ b < w.heap.size) ∨ w.heap.size ≤ b) u' (V.sel at_) ∧ Below w.heap.size w w' := by
 obtain ⟨ao, cap, rfl, _⟩ := hv.opened
 have hsu := hu.store
 obtain ⟨W1, hW1⟩ : ∃ W1, W1 = (w.alloc (.cells #[u] 36)).alloc (.cells #[.nilIface] 36) := ⟨_, rfl⟩
 have HB := Lib.hid (show Below w.heap.size w W1 by rw [hW1]; exact (below_new _ _).alloc (by simp) _)
 have HSZ := Lib.hid (show W1.heap.size = w.heap.size + 2 by rw [hW1]; simp)
 have HA := Lib.hid (show At1 W1 w.heap.size u by rw [hW1]; exact (At1.new w _ _).below (below_new _ _))
 have HR := Lib.hid (show At1 W1 (w.heap.size + 1) .nilIface by rw [hW1]; have := At1.new (w.alloc (.cells #[u] 36)) .nilIface 36; simpa using this)
 have HU := Lib.hid (show IsV W1 (fun b => ok b ∧ b < w.heap.size) u V from hu.lt.grow HB.out)
 have HV := Lib.hid (show Slc W1 (fun b => b < w.heap.size) (.slice ao at_.length cap) at_.length (ints at_) from (hv.keep (Kept.refl _ _) (fun b h _ => h)).below HB.out)
 have HT := Lib.hid (show TabAt W1 from fun j hj => keep_below HB.out _ _ (hT j hj))
 have HOK := Lib.hid hok; have HN := Lib.hid hn; have HBX := Lib.hid hb
 have HW1 := Lib.hid (Below.refl W1.heap.size W1)
 have hfold := hW1.symm
 clear hu hv hT hok hn hb hW1; have cHA0 := HA.out.2.1; have cHR0 := HR.out.2.1
 go_enter Tryz.func106, Tryz.ntmps106
 go_wp2_with fail
 clear hfold
 refine (vpacked_calls _ V _ HU.out).mono ?_
 rintro e W11 ⟨vb, rfl, hbt, hB⟩
 clear cHA0 cHR0; replace HA := HA.go hB; replace HR := HR.go hB; replace HB := cb hB HB; replace HW1 := cb hB HW1; replace HU := HU.go hB; replace HV := HV.go hB; replace HT := HT.go hB; have HBT := Lib.hid hbt
 obtain ⟨so, sc, rfl, _⟩ := hbt.opened
 clear hbt; clear hB; have HNE := Lib.hid HW1.out.size
 have hmf : ∀ (fn : Fn) (first cap : Array Value) (w : World), (Instr.makeFunc fn first cap).run Tryz.prog w = .ok (.func fn first cap) w := fun _ _ _ _ => rfl
 by_cases hbit : V.isBit = true
 ·have HBI := Lib.hid hbit; rw [hbit]; clear hbit
  obtain ⟨W12, hWn, hB, hNB⟩ := ahd2 W11 (.int .i64 (V.packed.length : Int)) (.slice so ((V.packed.length + 63) / 64) sc) 81
  replace HA := HA.go hB; replace HR := HR.go hB; replace HB := cb hB HB; replace HW1 := cb hB HW1; replace HU := HU.go hB; replace HV := HV.go hB; replace HT := HT.go hB; replace HBT := HBT.go hB; have HVB := Lib.hid hNB; clear hNB hB; have cHA0 := HA.out.2.1; have cHR0 := HR.out.2.1; have cHVB0 := HVB.out.2.1; have cHVB1 := HVB.out.2.2.1
  go_wp2_with fail
  clear hWn
  obtain ⟨L, hL⟩ : ∃ L, L = at_.map (sqI V.packed) := ⟨_, rfl⟩
  have HLE := Lib.hid hL
  have HLL := Lib.hid (show L.length = at_.length by rw [hL]; simp)
  obtain ⟨QV, hQV⟩ : ∃ QV, QV = VV.bits L := ⟨_, rfl⟩
  have HQV := Lib.hid hQV; clear hQV hL
  obtain ⟨W13, hWD, hB⟩ := drwn W12
  clear cHA0 cHR0 cHVB0 cHVB1; replace HA := HA.go hB; replace HR := HR.go hB; replace HB := cb hB HB; replace HW1 := cb hB HW1; replace HU := HU.go hB; replace HV := HV.go hB; replace HT := HT.go hB; replace HBT := HBT.go hB; replace HVB := HVB.go hB; clear hB
  refine rgn (S := fun w' => w'.cell? ⟨W11.heap.size, 0, none⟩ = some (.int .i64 (V.packed.length : Int)) ∧ w'.cell? ⟨W11.heap.size, 1, none⟩ = some (.slice so ((V.packed.length + 63) / 64) sc)) hWD ⟨HVB.out.2.1, HVB.out.2.2.1⟩ (fun hHeld => ?_)
  clear hWD; apply tk 0; apply tk 2; apply tk 3; apply tk 4
  apply rdy 1; intro K hK; clear hHeld; go_simp
  refine (len_calls _ V.packed _ HBT.out).mono ?_
  rintro e W14 ⟨rfl, hB⟩
  replace HA := HA.go hB; replace HR := HR.go hB; replace HB := cb hB HB; replace HW1 := cb hB HW1; replace HU := HU.go hB; replace HV := HV.go hB; replace HT := HT.go hB; replace HBT := HBT.go hB; replace HVB := HVB.go hB; clear hB
  refine hK.out _ _ ⟨HVB.out.2.1, HVB.out.2.2.1⟩ (fun hHeld => ?_)
  clear hK K
  apply rdy 5; intro K hK; clear hHeld; go_simp; have HO := HW1.out.size
  refine (chB_calls _ V.packed _ at_ _ HBT.out HV.out (by omega) (VV.packed_ok HOK.out)).mono ?_
  rintro e W15 ⟨vc, rfl, hvc, hB⟩
  replace HA := HA.go hB; replace HR := HR.go hB; replace HB := cb hB HB; replace HW1 := cb hB HW1; replace HU := HU.go hB; replace HV := HV.go hB; replace HT := HT.go hB; replace HBT := HBT.go hB; replace HVB := HVB.go hB
  rw [← HLE.out] at hvc
  have HVC := Lib.hid (show Slc W15 (fun b => w.heap.size + 2 ≤ b) vc L.length (bools L) by rw [HLL.out]; exact hvc.keep (Kept.refl _ _) (fun b _ (h : _ ≤ b) => Nat.le_trans (by have := HSZ.out; omega) h))
  obtain ⟨co, cc, rfl, _⟩ := HVC.out.opened
  clear hvc HO; clear hB
  refine hK.out _ _ ⟨HVB.out.2.1, HVB.out.2.2.1⟩ (fun hHeld => ?_)
  clear hK K
  apply rdy 6; intro K hK; clear hHeld; go_simp; have HO := HW1.out.size
  refine (pack_fresh _ L _ HVC.out.1.sl (by rw [HLL.out]; exact hm)).mono ?_
  rintro e W16 ⟨vp, rfl, hvp, hB⟩
  replace HA := HA.go hB; replace HR := HR.go hB; replace HB := cb hB HB; replace HW1 := cb hB HW1; replace HU := HU.go hB; replace HV := HV.go hB; replace HT := HT.go hB; replace HBT := HBT.go hB; replace HVB := HVB.go hB; replace HVC := HVC.go hB
  have HVP := Lib.hid (show IsBitsX W16 (fun b => w.heap.size + 2 ≤ b) vp L from hvp.keep (Kept.refl _ _) (fun b _ (h : _ ≤ b) => Nat.le_trans (by have := HSZ.out; omega) h))
  clear hvp HO; clear hB
  refine hK.out _ _ ⟨HVB.out.2.1, HVB.out.2.2.1⟩ (fun hHeld => ?_)
  clear hK K
  apply rdy 7; intro K hK; clear hHeld; go_simp
  refine (vbits_ok _ L _ HVP.out (by rw [HLL.out]; exact hm)).mono ?_
  rintro e W17 ⟨uq, rfl, huq, hB⟩
  replace HA := HA.go hB; replace HR := HR.go hB; replace HB := cb hB HB; replace HW1 := cb hB HW1; replace HU := HU.go hB; replace HV := HV.go hB; replace HT := HT.go hB; replace HBT := HBT.go hB; replace HVB := HVB.go hB; replace HVC := HVC.go hB; replace HVP := HVP.go hB
  have HQ := Lib.hid (show IsV W17 (fun b => (ok b ∧ b < w.heap.size) ∨ w.heap.size + 2 ≤ b) uq QV by rw [HQV.out]; exact huq.wide (fun b _ h => Or.inr h))
  have hsq := huq.store; clear huq; clear hB
  refine hK.out _ _ ⟨HVB.out.2.1, HVB.out.2.2.1⟩ (fun hHeld => ?_)
  clear hK K
  apply rdy 8; intro K hK; clear hHeld; have s0 := HR.out.2.1; have t0 := HR.out.2.2 0; go_simp; clear s0 t0
  obtain ⟨W18, hWn⟩ : ∃ xw9, W17.setCell ⟨w.heap.size + 1, 0, none⟩ uq = xw9 := ⟨_, rfl⟩
  rw [hWn]
  replace HR := Lib.hid (show At1 W18 (w.heap.size + 1) uq by rw [← hWn]; exact At1.put1 HR.out _)
  replace HB := Lib.hid (show Below w.heap.size w W18 by rw [← hWn]; exact HB.out.setCell (Nat.le_succ _) _)
  replace HQ := Lib.hid (show IsV W18 (fun b => (ok b ∧ b < w.heap.size) ∨ w.heap.size + 2 ≤ b) uq QV by rw [← hWn]; exact HQ.out.keep (Kept.setCell _ _ _ (by simp)) (fun _ _ h => h))
  replace HVB := Lib.hid (show At2 W18 W11.heap.size _ _ by rw [← hWn]; exact HVB.out.grown (grown_setCell _ ⟨w.heap.size + 1, 0, none⟩ _) (by have := HNE.out; have := HSZ.out; simp; omega))
  clear hWn
  refine hK.out _ _ ⟨HVB.out.2.1, HVB.out.2.2.1⟩ (fun hHeld => ?_)
  clear hK K
  refine wpAnyH_done (by kernel_rfl) ?_ _
  clear hHeld; have cHR0 := HR.out.2.1; have cHVB0 := HVB.out.2.1; have cHVB1 := HVB.out.2.2.1
  go_wp2_with fail
  refine bodyPost_ret (v := .agg #[uq]) (by simp [results, Tryz.results106, go_sem, cHR0]) rfl ⟨_, rfl, ?_, HB.out⟩
  rw [VV.sel_bits HBI.out, ← HLE.out, ← HQV.out]
  exact HQ.out.wide (fun b _ (h : (ok b ∧ b < w.heap.size) ∨ w.heap.size + 2 ≤ b) => h.imp id (fun h => by omega))
 have hbit2 : V.isBit = false := by simpa using hbit
 have HBI := Lib.hid hbit2; rw [hbit2]; clear hbit hbit2
 obtain ⟨W12, hWn, hB, hNB⟩ := ahd2 W11 (.int .i64 (V.packed.length : Int)) (.slice so ((V.packed.length + 63) / 64) sc) 81
 replace HA := HA.go hB; replace HR := HR.go hB; replace HB := cb hB HB; replace HW1 := cb hB HW1; replace HU := HU.go hB; replace HV := HV.go hB; replace HT := HT.go hB; replace HBT := HBT.go hB; have HVB := Lib.hid hNB; clear hNB hB; have cHA0 := HA.out.2.1; have cHR0 := HR.out.2.1; have cHVB0 := HVB.out.2.1; have cHVB1 := HVB.out.2.2.1
 go_wp2_with fail
 clear hWn
 refine (class_calls _ V _ HU.out).mono ?_
 rintro e W13 ⟨rfl, hB⟩
 clear cHA0 cHR0 cHVB0 cHVB1; replace HA := HA.go hB; replace HR := HR.go hB; replace HB := cb hB HB; replace HW1 := cb hB HW1; replace HU := HU.go hB; replace HV := HV.go hB; replace HT := HT.go hB; replace HBT := HBT.go hB; replace HVB := HVB.go hB; clear hB
 rcases VV.cls_cases V with hc | hc | hc
 ·have HC := Lib.hid hc; rw [hc]; clear hc; have cHA0 := HA.out.2.1; have cHR0 := HR.out.2.1; have cHVB0 := HVB.out.2.1; have cHVB1 := HVB.out.2.2.1
  go_wp2_with fail
  obtain ⟨L, hL⟩ : ∃ L, L = at_.map (atI V.nums 0) := ⟨_, rfl⟩
  have HLE := Lib.hid hL
  have HLL := Lib.hid (show L.length = at_.length by rw [hL]; simp)
  obtain ⟨QV, hQV⟩ : ∃ QV, QV = (VV.floats L).sq := ⟨_, rfl⟩
  have HQV := Lib.hid hQV; clear hQV hL
  have HNN := Lib.hid (show ∀ x ∈ L, Num x by rw [HLE.out]; exact map_atI_num (VV.nums_num HOK.out HN.out))
  obtain ⟨W14, hWD, hB⟩ := drwn W13
  clear cHA0 cHR0 cHVB0 cHVB1; replace HA := HA.go hB; replace HR := HR.go hB; replace HB := cb hB HB; replace HW1 := cb hB HW1; replace HU := HU.go hB; replace HV := HV.go hB; replace HT := HT.go hB; replace HBT := HBT.go hB; replace HVB := HVB.go hB; clear hB
  refine rgn (S := fun w' => w'.cell? ⟨w.heap.size, 0, none⟩ = some u) hWD HA.out.2.1 (fun hHeld => ?_)
  clear hWD; apply tk 0; apply tk 2; apply tk 3; apply tk 4
  apply rdy 1; intro K hK; clear hHeld; go_simp
  refine (vlen_calls _ V _ HU.out).mono ?_
  rintro e W15 ⟨rfl, hB⟩
  replace HA := HA.go hB; replace HR := HR.go hB; replace HB := cb hB HB; replace HW1 := cb hB HW1; replace HU := HU.go hB; replace HV := HV.go hB; replace HT := HT.go hB; replace HBT := HBT.go hB; replace HVB := HVB.go hB; clear hB
  refine hK.out _ _ HA.out.2.1 (fun hHeld => ?_)
  clear hK K
  apply rdy 5; intro K hK; clear hHeld; go_simp; have HO := HW1.out.size
  refine (chF_calls _ V _ at_ _ HU.out HV.out (by omega)).mono ?_
  rintro e W16 ⟨vc, rfl, hvc, hB⟩
  replace HA := HA.go hB; replace HR := HR.go hB; replace HB := cb hB HB; replace HW1 := cb hB HW1; replace HU := HU.go hB; replace HV := HV.go hB; replace HT := HT.go hB; replace HBT := HBT.go hB; replace HVB := HVB.go hB
  rw [← HLE.out] at hvc
  have HVC := Lib.hid (show Slc W16 (fun b => w.heap.size + 2 ≤ b) vc L.length (f64s L) by rw [HLL.out]; exact hvc.keep (Kept.refl _ _) (fun b _ (h : _ ≤ b) => Nat.le_trans (by have := HSZ.out; omega) h))
  obtain ⟨co, cc, rfl, _⟩ := HVC.out.opened
  clear hvc HO; clear hB
  refine hK.out _ _ HA.out.2.1 (fun hHeld => ?_)
  clear hK K
  apply rdy 6; intro K hK; clear hHeld; go_simp; have HO := HW1.out.size
  refine (fnumbers_calls _ L _ HVC.out (by rw [HLL.out]; exact hm) (fun x hx => (HNN.out x hx).1) HT.out).mono ?_
  rintro e W17 ⟨uq, rfl, huq, hB⟩
  replace HA := HA.go hB; replace HR := HR.go hB; replace HB := cb hB HB; replace HW1 := cb hB HW1; replace HU := HU.go hB; replace HV := HV.go hB; replace HT := HT.go hB; replace HBT := HBT.go hB; replace HVB := HVB.go hB; replace HVC := HVC.go hB
  rw [map_ze HNN.out] at huq
  have HQ := Lib.hid (show IsV W17 (fun b => (ok b ∧ b < w.heap.size) ∨ w.heap.size + 2 ≤ b) uq QV by rw [HQV.out]; exact huq.wide (fun b _ (h : _ ≤ b) => Or.inr (Nat.le_trans (by have := HSZ.out; omega) h)))
  have hsq := huq.store; clear huq HO; clear hB
  refine hK.out _ _ HA.out.2.1 (fun hHeld => ?_)
  clear hK K
  apply rdy 7; intro K hK; clear hHeld; have s0 := HR.out.2.1; have t0 := HR.out.2.2 0; go_simp; clear s0 t0
  obtain ⟨W18, hWn⟩ : ∃ xw9, W17.setCell ⟨w.heap.size + 1, 0, none⟩ uq = xw9 := ⟨_, rfl⟩
  rw [hWn]
  replace HR := Lib.hid (show At1 W18 (w.heap.size + 1) uq by rw [← hWn]; exact At1.put1 HR.out _)
  replace HB := Lib.hid (show Below w.heap.size w W18 by rw [← hWn]; exact HB.out.setCell (Nat.le_succ _) _)
  replace HQ := Lib.hid (show IsV W18 (fun b => (ok b ∧ b < w.heap.size) ∨ w.heap.size + 2 ≤ b) uq QV by rw [← hWn]; exact HQ.out.keep (Kept.setCell _ _ _ (by simp)) (fun _ _ h => h))
  replace HA := Lib.hid (show At1 W18 w.heap.size u by rw [← hWn]; exact HA.out.grown (grown_setCell _ ⟨w.heap.size + 1, 0, none⟩ _) (by simp))
  clear hWn
  refine hK.out _ _ HA.out.2.1 (fun hHeld => ?_)
  clear hK K
  refine wpAnyH_done (by kernel_rfl) ?_ _
  clear hHeld; have cHA0 := HA.out.2.1; have cHR0 := HR.out.2.1
  go_wp2_with fail
  refine bodyPost_ret (v := .agg #[uq]) (by simp [results, Tryz.results106, go_sem, cHR0]) rfl ⟨_, rfl, ?_, HB.out⟩
  rw [VV.sel_nums HC.out HBI.out, ← HLE.out, ← HQV.out]
  exact HQ.out.wide (fun b _ (h : (ok b ∧ b < w.heap.size) ∨ w.heap.size + 2 ≤ b) => h.imp id (fun h => by omega))
 ·have HC := Lib.hid hc; rw [hc]; clear hc; have cHA0 := HA.out.2.1; have cHR0 := HR.out.2.1; have cHVB0 := HVB.out.2.1; have cHVB1 := HVB.out.2.2.1
  go_wp2_with fail
  obtain ⟨L, hL⟩ : ∃ L, L = at_.map (atI V.text 32) := ⟨_, rfl⟩
  have HLE := Lib.hid hL
  have HLL := Lib.hid (show L.length = at_.length by rw [hL]; simp)
  obtain ⟨QV, hQV⟩ : ∃ QV, QV = VV.chars L := ⟨_, rfl⟩
  have HQV := Lib.hid hQV; clear hQV hL
  obtain ⟨W14, hWD, hB⟩ := drwn W13
  clear cHA0 cHR0 cHVB0 cHVB1; replace HA := HA.go hB; replace HR := HR.go hB; replace HB := cb hB HB; replace HW1 := cb hB HW1; replace HU := HU.go hB; replace HV := HV.go hB; replace HT := HT.go hB; replace HBT := HBT.go hB; replace HVB := HVB.go hB; clear hB
  refine rgn (S := fun w' => w'.cell? ⟨w.heap.size, 0, none⟩ = some u) hWD HA.out.2.1 (fun hHeld => ?_)
  clear hWD; apply tk 0; apply tk 2; apply tk 3; apply tk 4
  apply rdy 1; intro K hK; clear hHeld; go_simp
  refine (vlen_calls _ V _ HU.out).mono ?_
  rintro e W15 ⟨rfl, hB⟩
  replace HA := HA.go hB; replace HR := HR.go hB; replace HB := cb hB HB; replace HW1 := cb hB HW1; replace HU := HU.go hB; replace HV := HV.go hB; replace HT := HT.go hB; replace HBT := HBT.go hB; replace HVB := HVB.go hB; clear hB
  refine hK.out _ _ HA.out.2.1 (fun hHeld => ?_)
  clear hK K
  apply rdy 5; intro K hK; clear hHeld; go_simp; have HO := HW1.out.size
  refine (chC_calls _ V _ at_ _ HU.out HV.out (by omega) (VV.text_len HC.out)).mono ?_
  rintro e W16 ⟨vc, rfl, hvc, hB⟩
  replace HA := HA.go hB; replace HR := HR.go hB; replace HB := cb hB HB; replace HW1 := cb hB HW1; replace HU := HU.go hB; replace HV := HV.go hB; replace HT := HT.go hB; replace HBT := HBT.go hB; replace HVB := HVB.go hB
  rw [← HLE.out] at hvc
  have HVC := Lib.hid (show Slc W16 (fun b => w.heap.size + 2 ≤ b) vc L.length (i32s L) by rw [HLL.out]; exact hvc.keep (Kept.refl _ _) (fun b _ (h : _ ≤ b) => Nat.le_trans (by have := HSZ.out; omega) h))
  obtain ⟨co, cc, rfl, _⟩ := HVC.out.opened
  clear hvc HO; clear hB
  refine hK.out _ _ HA.out.2.1 (fun hHeld => ?_)
  clear hK K
  apply rdy 6; intro K hK; clear hHeld; go_simp; have HO := HW1.out.size
  refine (vchars_calls _ L _ HVC.out (by rw [HLL.out]; omega)).mono ?_
  rintro e W17 ⟨uq, rfl, huq, hB⟩
  replace HA := HA.go hB; replace HR := HR.go hB; replace HB := cb hB HB; replace HW1 := cb hB HW1; replace HU := HU.go hB; replace HV := HV.go hB; replace HT := HT.go hB; replace HBT := HBT.go hB; replace HVB := HVB.go hB; replace HVC := HVC.go hB
  have HQ := Lib.hid (show IsV W17 (fun b => (ok b ∧ b < w.heap.size) ∨ w.heap.size + 2 ≤ b) uq QV by rw [HQV.out]; exact huq.wide (fun b _ (h : _ ≤ b) => Or.inr (Nat.le_trans (by have := HSZ.out; omega) h)))
  have hsq := huq.store; clear huq HO; clear hB
  refine hK.out _ _ HA.out.2.1 (fun hHeld => ?_)
  clear hK K
  apply rdy 7; intro K hK; clear hHeld; have s0 := HR.out.2.1; have t0 := HR.out.2.2 0; go_simp; clear s0 t0
  obtain ⟨W18, hWn⟩ : ∃ xw9, W17.setCell ⟨w.heap.size + 1, 0, none⟩ uq = xw9 := ⟨_, rfl⟩
  rw [hWn]
  replace HR := Lib.hid (show At1 W18 (w.heap.size + 1) uq by rw [← hWn]; exact At1.put1 HR.out _)
  replace HB := Lib.hid (show Below w.heap.size w W18 by rw [← hWn]; exact HB.out.setCell (Nat.le_succ _) _)
  replace HQ := Lib.hid (show IsV W18 (fun b => (ok b ∧ b < w.heap.size) ∨ w.heap.size + 2 ≤ b) uq QV by rw [← hWn]; exact HQ.out.keep (Kept.setCell _ _ _ (by simp)) (fun _ _ h => h))
  replace HA := Lib.hid (show At1 W18 w.heap.size u by rw [← hWn]; exact HA.out.grown (grown_setCell _ ⟨w.heap.size + 1, 0, none⟩ _) (by simp))
  clear hWn
  refine hK.out _ _ HA.out.2.1 (fun hHeld => ?_)
  clear hK K
  refine wpAnyH_done (by kernel_rfl) ?_ _
  clear hHeld; have cHA0 := HA.out.2.1; have cHR0 := HR.out.2.1
  go_wp2_with fail
  refine bodyPost_ret (v := .agg #[uq]) (by simp [results, Tryz.results106, go_sem, cHR0]) rfl ⟨_, rfl, ?_, HB.out⟩
  rw [VV.sel_chars HC.out, ← HLE.out, ← HQV.out]
  exact HQ.out.wide (fun b _ (h : (ok b ∧ b < w.heap.size) ∨ w.heap.size + 2 ≤ b) => h.imp id (fun h => by omega))
 ·have HC := Lib.hid hc; rw [hc]; clear hc; have cHA0 := HA.out.2.1; have cHR0 := HR.out.2.1; have cHVB0 := HVB.out.2.1; have cHVB1 := HVB.out.2.2.1
  go_wp2_with fail
  obtain ⟨L, hL⟩ : ∃ L, L = at_.map (atI V.boxs blankA) := ⟨_, rfl⟩
  have HLE := Lib.hid hL
  have HLL := Lib.hid (show L.length = at_.length by rw [hL]; simp)
  obtain ⟨QV, hQV⟩ : ∃ QV, QV = VV.boxes L := ⟨_, rfl⟩
  have HQV := Lib.hid hQV; clear hQV hL
  obtain ⟨W14, hWD, hB⟩ := drwn W13
  clear cHA0 cHR0 cHVB0 cHVB1; replace HA := HA.go hB; replace HR := HR.go hB; replace HB := cb hB HB; replace HW1 := cb hB HW1; replace HU := HU.go hB; replace HV := HV.go hB; replace HT := HT.go hB; replace HBT := HBT.go hB; replace HVB := HVB.go hB; clear hB
  refine rgn (S := fun w' => w'.cell? ⟨w.heap.size, 0, none⟩ = some u) hWD HA.out.2.1 (fun hHeld => ?_)
  clear hWD; apply tk 0; apply tk 2; apply tk 3; apply tk 4
  apply rdy 1; intro K hK; clear hHeld; go_simp
  refine (vlen_calls _ V _ HU.out).mono ?_
  rintro e W15 ⟨rfl, hB⟩
  replace HA := HA.go hB; replace HR := HR.go hB; replace HB := cb hB HB; replace HW1 := cb hB HW1; replace HU := HU.go hB; replace HV := HV.go hB; replace HT := HT.go hB; replace HBT := HBT.go hB; replace HVB := HVB.go hB; clear hB
  refine hK.out _ _ HA.out.2.1 (fun hHeld => ?_)
  clear hK K
  apply rdy 5; intro K hK; clear hHeld; go_simp; have HO := HW1.out.size
  refine (fblank_calls _).mono ?_
  rintro e W16 ⟨bo, bc, ub, rfl, hbl, hB⟩
  replace HA := HA.go hB; replace HR := HR.go hB; replace HB := cb hB HB; replace HW1 := cb hB HW1; replace HU := HU.go hB; replace HV := HV.go hB; replace HT := HT.go hB; replace HBT := HBT.go hB; replace HVB := HVB.go hB
  have HBL := Lib.hid (show IsArr W16 (fun b => (ok b ∧ b < w.heap.size) ∨ w.heap.size + 2 ≤ b) (.slice bo blankA.1.length bc) ub blankA from hbl.keep (Kept.refl _ _) (fun b _ (h : _ ≤ b) => Or.inr (Nat.le_trans (by have := HSZ.out; omega) h)))
  have hsb := hbl.2.store
  clear hbl HO; clear hB
  refine hK.out _ _ HA.out.2.1 (fun hHeld => ?_)
  clear hK K
  apply rdy 6; intro K hK; clear hHeld; go_simp; have HO := HW1.out.size
  refine (chA_calls _ V _ _ _ blankA at_ _ (HU.out.wide (fun b _ h => Or.inl h)) HOK.out (VV.boxs_len HC.out) HBL.out HV.out (by omega)).mono ?_
  rintro e W17 ⟨vc, rfl, hvc, hB⟩
  replace HA := HA.go hB; replace HR := HR.go hB; replace HB := cb hB HB; replace HW1 := cb hB HW1; replace HU := HU.go hB; replace HV := HV.go hB; replace HT := HT.go hB; replace HBT := HBT.go hB; replace HVB := HVB.go hB; replace HBL := HBL.go hB
  rw [← HLE.out] at hvc
  have HVC := Lib.hid (show Arrs W17 (fun b => (ok b ∧ b < w.heap.size) ∨ w.heap.size + 2 ≤ b) vc L from hvc.keep (Kept.refl _ _) (fun b _ h => by rcases h with h | h; exact h; exact Or.inr (Nat.le_trans (by have := HSZ.out; omega) h)))
  obtain ⟨co, cc, rfl, _⟩ := HVC.out.len
  clear hvc HO; clear hB
  refine hK.out _ _ HA.out.2.1 (fun hHeld => ?_)
  clear hK K
  apply rdy 7; intro K hK; clear hHeld; go_simp; have HO := HW1.out.size
  refine (vboxes_calls _ L _ HVC.out (by rw [HLL.out]; exact hm) (by rw [HLE.out]; exact atI_boxs HBX.out)).mono ?_
  rintro e W18 ⟨uq, rfl, huq, hB⟩
  replace HA := HA.go hB; replace HR := HR.go hB; replace HB := cb hB HB; replace HW1 := cb hB HW1; replace HU := HU.go hB; replace HV := HV.go hB; replace HT := HT.go hB; replace HBT := HBT.go hB; replace HVB := HVB.go hB; replace HBL := HBL.go hB; replace HVC := HVC.go hB
  have HQ := Lib.hid (show IsV W18 (fun b => (ok b ∧ b < w.heap.size) ∨ w.heap.size + 2 ≤ b) uq QV by rw [HQV.out]; exact huq.wide (fun b _ h => by rcases h with h | h; exact h.1; exact Or.inr (Nat.le_trans (by have := HSZ.out; omega) h)))
  have hsq := huq.store; clear huq HO; clear hB
  refine hK.out _ _ HA.out.2.1 (fun hHeld => ?_)
  clear hK K
  apply rdy 8; intro K hK; clear hHeld; have s0 := HR.out.2.1; have t0 := HR.out.2.2 0; go_simp; clear s0 t0
  obtain ⟨W19, hWn⟩ : ∃ xw9, W18.setCell ⟨w.heap.size + 1, 0, none⟩ uq = xw9 := ⟨_, rfl⟩
  rw [hWn]
  replace HR := Lib.hid (show At1 W19 (w.heap.size + 1) uq by rw [← hWn]; exact At1.put1 HR.out _)
  replace HB := Lib.hid (show Below w.heap.size w W19 by rw [← hWn]; exact HB.out.setCell (Nat.le_succ _) _)
  replace HQ := Lib.hid (show IsV W19 (fun b => (ok b ∧ b < w.heap.size) ∨ w.heap.size + 2 ≤ b) uq QV by rw [← hWn]; exact HQ.out.keep (Kept.setCell _ _ _ (by simp)) (fun _ _ h => h))
  replace HA := Lib.hid (show At1 W19 w.heap.size u by rw [← hWn]; exact HA.out.grown (grown_setCell _ ⟨w.heap.size + 1, 0, none⟩ _) (by simp))
  clear hWn
  refine hK.out _ _ HA.out.2.1 (fun hHeld => ?_)
  clear hK K
  refine wpAnyH_done (by kernel_rfl) ?_ _
  clear hHeld; have cHA0 := HA.out.2.1; have cHR0 := HR.out.2.1
  go_wp2_with fail
  refine bodyPost_ret (v := .agg #[uq]) (by simp [results, Tryz.results106, go_sem, cHR0]) rfl ⟨_, rfl, ?_, HB.out⟩
  rw [VV.sel_boxes HC.out, ← HLE.out, ← HQV.out]
  exact HQ.out.wide (fun b _ (h : (ok b ∧ b < w.heap.size) ∨ w.heap.size + 2 ≤ b) => h.imp id (fun h => by omega))
end Go.Proofs.YtbdhibcbpgjbmaaGreatDoor

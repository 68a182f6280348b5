/- Package flat, walked: Turn, Again, Cut. -/
import Derived.Test.YtbdhibcbpgjbmaaGreatDoorFlS
import Derived.Test.YtbdhibcbpgjbmaaGreatDoorBvH
namespace Go.Proofs.YtbdhibcbpgjbmaaGreatDoor
set_option maxRecDepth 100000
open Go.RowKit Fl
set_option linter.unusedVariables false

def turnL (n : Nat) : List Int := (List.range n).map fun (i : Nat) => (n : Int) - 1 - (i : Int)
def againL (c m : Nat) : List Int := (List.range m).map fun (i : Nat) => (i : Int) % (c : Int)
def cutL (x n : Nat) : List Int := (List.range n).map fun (i : Nat) => (x : Int) + (i : Int)
theorem turnL_len (n : Nat) : (turnL n).length = n := by simp [turnL]
theorem againL_len (c m : Nat) : (againL c m).length = m := by simp [againL]
theorem cutL_len (x n : Nat) : (cutL x n).length = n := by simp [cutL]

theorem isBitsX_nil (w : World) (ok : Nat → Prop) : IsBitsX w ok (.agg #[.int .i64 0, .slice none 0 0]) [] := ⟨_, rfl, (Slc.nil w ok).1⟩
theorem cutx_calls (v : Value) (l : List Bool) (a b : Int) (w : World) (hv : IsBits w v l) (hl : l.length ≤ 1048576) (x y : Nat) (hx : min (max a 0) l.length = (x : Int)) (hy : min (max b 0) l.length = (y : Int)) :
  Calls Tryz.prog 104 #[v, .int .i64 a, .int .i64 b] w fun e w' => ∃ v, e = .returned v ∧ IsBitsX w' (fun b => w.heap.size + 2 ≤ b) v ((l.take y).drop x) ∧ Below w.heap.size w w' := by
 by_cases h : x < y
 ·exact cut_fresh v l a b w hv hl x y hx hy h
 ·refine (cutb_none v l a b w hv hl x y hx hy (by omega)).mono ?_
  rintro e w' ⟨rfl, hB⟩
  rw [show (l.take y).drop x = [] from List.drop_eq_nil_of_le (by simp; omega)]
  exact ⟨_, rfl, isBitsX_nil _ _, hB⟩
/-- A number brought between 0 and another one. -/
def cl8 (a : Int) (n : Nat) : Nat := (min (max a 0) (n : Int)).toNat
theorem cl8_eq (a : Int) (n : Nat) : min (max a 0) (n : Int) = (cl8 a n : Int) := by unfold cl8; omega
theorem cl8_le (a : Int) (n : Nat) : cl8 a n ≤ n := by unfold cl8; omega
noncomputable def VV.cut (V : VV) (a b : Int) : VV := if V.isBit = true then .bits ((V.packed.take (cl8 b V.len)).drop (cl8 a V.len)) else V.sel (cutL (cl8 a V.len) (cl8 b V.len - cl8 a V.len))

set_option maxHeartbeats 8000000 in
theorem fcut_calls {ok : Nat → Prop} (u : Value) (V : VV) (a b : Int) (w : World) (hu : IsV w ok u V) (hok : V.ok) (hn : V.nm) (hb : ∀ a ∈ V.boxs, a.1.length ≤ 1048576) (hT : TabAt w) :
  Calls Tryz.prog 78 #[.agg #[u], .int .i64 a, .int .i64 b] w fun e w' => ∃ u', e = .returned (.agg #[u']) ∧ IsV w' (fun b => (ok b ∧ b < w.heap.size) ∨ w.heap.size ≤ b) u' (V.cut a b) ∧ Below w.heap.size w w' := by
 have hsu := hu.store
 obtain ⟨W1, hW1⟩ : ∃ W1, W1 = ((w.alloc (.cells #[u] 36)).alloc (.cells #[.int .i64 a] 3)).alloc (.cells #[.nilIface] 36) := ⟨_, rfl⟩
 have HB := Lib.hid (show Below w.heap.size w W1 by rw [hW1]; exact (((below_new _ _).alloc (by simp) _).alloc (by simp; omega) _))
 have HSZ := Lib.hid (show W1.heap.size = w.heap.size + 3 by rw [hW1]; simp)
 have HA := Lib.hid (show At1 W1 w.heap.size u by rw [hW1]; exact ((At1.new w _ _).below (below_new _ _)).below (below_new _ _))
 have HR := Lib.hid (show At1 W1 (w.heap.size + 1 + 1) .nilIface by rw [hW1]; have := At1.new ((w.alloc (.cells #[u] 36)).alloc (.cells #[.int .i64 a] 3)) .nilIface 36; simpa using this)
 have HU := Lib.hid (show IsV W1 (fun b => ok b ∧ b < w.heap.size) u V from hu.lt.grow HB.out)
 have HT := Lib.hid (show TabAt W1 from fun j hj => keep_below HB.out _ _ (hT j hj))
 have HOK := Lib.hid hok; have HN := Lib.hid hn; have HBX := Lib.hid hb
 have HW1 := Lib.hid (Below.refl W1.heap.size W1)
 have hfold := hW1.symm
 have hmf : ∀ (fn : Fn) (first cap : Array Value) (w : World), (Instr.makeFunc fn first cap).run Tryz.prog w = .ok (.func fn first cap) w := fun _ _ _ _ => rfl
 obtain ⟨QV, hQV⟩ : ∃ QV, QV = V.cut a b := ⟨_, rfl⟩
 have HQV := Lib.hid hQV
 have HLN := Lib.hid (VV.ok_len hok)
 have HF := Lib.hid (show At1 W1 (w.heap.size + 1) (.int .i64 a) by rw [hW1]; have := (At1.new (w.alloc (.cells #[u] 36)) (.int .i64 a) 3).below (below_new _ (.cells #[.nilIface] 36)); simpa using this)
 have HTW := Lib.hid hT
 obtain ⟨x, hx⟩ : ∃ x, x = cl8 a V.len := ⟨_, rfl⟩
 obtain ⟨y, hy⟩ : ∃ y, y = cl8 b V.len := ⟨_, rfl⟩
 have HX := Lib.hid (show min (max a 0) (V.len : Int) = (x : Int) ∧ x ≤ V.len by rw [hx]; exact ⟨cl8_eq _ _, cl8_le _ _⟩)
 have HY := Lib.hid (show min (max b 0) (V.len : Int) = (y : Int) ∧ y ≤ V.len by rw [hy]; exact ⟨cl8_eq _ _, cl8_le _ _⟩)
 have HQB := Lib.hid (show V.isBit = true → V.cut a b = .bits ((V.packed.take y).drop x) by intro h; rw [hx, hy]; exact if_pos h)
 have HQN := Lib.hid (show V.isBit = false → V.cut a b = V.sel (cutL x (y - x)) by intro h; rw [hx, hy]; exact if_neg (by simp [h]))
 clear hx hy; clear hu hT hok hn hb hW1 hQV; have cHA0 := HA.out.2.1; have cHR0 := HR.out.2.1; have cHF0 := HF.out.2.1
 go_enter Tryz.func78, Tryz.ntmps78
 go_wp2_with fail
 clear hfold
 refine (vpacked_calls _ V _ HU.out).mono ?_
 rintro e W11 ⟨vb, rfl, hbt, hB⟩
 clear cHA0 cHR0 cHF0; replace HA := HA.go hB; replace HR := HR.go hB; replace HB := cb hB HB; replace HW1 := cb hB HW1; replace HU := HU.go hB; replace HT := HT.go hB; replace HF := HF.go hB; have HBT := Lib.hid hbt
 obtain ⟨so, sc, rfl, _⟩ := hbt.opened
 clear hbt; clear hB; have HNE := Lib.hid HW1.out.size
 by_cases hbit : V.isBit = true
 ·have HBI := Lib.hid hbit; rw [hbit]; clear hbit
  obtain ⟨W12, hWn, hB, hNB⟩ := ahd2 W11 (.int .i64 (V.packed.length : Int)) (.slice so ((V.packed.length + 63) / 64) sc) 81
  replace HA := HA.go hB; replace HR := HR.go hB; replace HB := cb hB HB; replace HW1 := cb hB HW1; replace HU := HU.go hB; replace HT := HT.go hB; replace HF := HF.go hB; replace HBT := HBT.go hB; have HVB := Lib.hid hNB; clear hNB hB; have cHA0 := HA.out.2.1; have cHR0 := HR.out.2.1; have cHF0 := HF.out.2.1; have cHVB0 := HVB.out.2.1; have cHVB1 := HVB.out.2.2.1
  go_wp2_with fail
  clear hWn; have HO := HW1.out.size
  refine (cutx_calls _ V.packed a b _ HBT.out (VV.packed_ok HOK.out) x y (by rw [VV.packed_len HBI.out]; exact HX.out.1) (by rw [VV.packed_len HBI.out]; exact HY.out.1)).mono ?_
  rintro e W13 ⟨vp, rfl, hvp, hB⟩
  clear cHA0 cHR0 cHF0 cHVB0 cHVB1; replace HA := HA.go hB; replace HR := HR.go hB; replace HB := cb hB HB; replace HW1 := cb hB HW1; replace HU := HU.go hB; replace HT := HT.go hB; replace HF := HF.go hB; replace HBT := HBT.go hB; replace HVB := HVB.go hB
  have HVP := Lib.hid (show IsBitsX W13 (fun b => w.heap.size + 1 + 1 < b) vp ((V.packed.take y).drop x) from hvp.keep (Kept.refl _ _) (fun b _ (h : _ ≤ b) => Nat.lt_of_lt_of_le (by have := HSZ.out; omega) h))
  clear hvp HO; clear hB; have cHA0 := HA.out.2.1; have cHR0 := HR.out.2.1; have cHF0 := HF.out.2.1; have cHVB0 := HVB.out.2.1; have cHVB1 := HVB.out.2.2.1
  go_wp2_with fail
  refine (vbits_ok _ ((V.packed.take y).drop x) _ HVP.out (by have := VV.packed_ok HOK.out; simp; omega)).mono ?_
  rintro e W14 ⟨uq, rfl, huq, hB⟩
  clear cHA0 cHR0 cHF0 cHVB0 cHVB1; replace HA := HA.go hB; replace HR := HR.go hB; replace HB := cb hB HB; replace HW1 := cb hB HW1; replace HU := HU.go hB; replace HT := HT.go hB; replace HF := HF.go hB; replace HBT := HBT.go hB; replace HVB := HVB.go hB; replace HVP := HVP.go hB; have HQ := Lib.hid huq; have hsq := huq.store; clear huq; clear hB; have cHA0 := HA.out.2.1; have cHR0 := HR.out.2.1
  have zHR0 := HR.out.2.2 0; have cHF0 := HF.out.2.1; have cHVB0 := HVB.out.2.1; have cHVB1 := HVB.out.2.2.1
  go_wp2_with fail
  refine bodyPost_ret (v := .agg #[uq]) (by simp [results, Tryz.results78, go_sem, cHR0, World.cell?_setCell_same]) rfl ⟨_, rfl, ?_, HB.out.setCell (by simp; omega) _⟩
  rw [HQB.out HBI.out]
  exact (HQ.out.keep (Kept.setCell _ _ _ (by simp)) (fun _ _ h => h)).wide (fun b _ h => Or.inr (by omega))
 have hbit2 : V.isBit = false := by simpa using hbit
 have HBI := Lib.hid hbit2; rw [hbit2]; clear hbit hbit2
 obtain ⟨W12, hWn, hB, hNB⟩ := ahd2 W11 (.int .i64 (V.packed.length : Int)) (.slice so ((V.packed.length + 63) / 64) sc) 81
 replace HA := HA.go hB; replace HR := HR.go hB; replace HB := cb hB HB; replace HW1 := cb hB HW1; replace HU := HU.go hB; replace HT := HT.go hB; replace HF := HF.go hB; replace HBT := HBT.go hB; have HVB := Lib.hid hNB; clear hNB hB; have cHA0 := HA.out.2.1; have cHR0 := HR.out.2.1; have cHF0 := HF.out.2.1; have cHVB0 := HVB.out.2.1; have cHVB1 := HVB.out.2.2.1
 go_wp2_with fail
 clear hWn
 obtain ⟨m, hm⟩ : ∃ m, m = y - x := ⟨_, rfl⟩
 have HMX := Lib.hid (show m = y - x ∧ m ≤ 1048576 by have := HY.out.2; have := HLN.out; omega)
 obtain ⟨L, hL⟩ : ∃ L, L = cutL x m := ⟨_, rfl⟩
 have HLE := Lib.hid hL
 have HLL := Lib.hid (show L.length = m by rw [hL, cutL_len])
 replace HQV := Lib.hid (show QV = V.sel L by rw [HQV.out, HQN.out HBI.out, hL, hm])
 have HQ0 := Lib.hid (show V.cut a b = V.sel L by rw [HQN.out HBI.out, hL, hm])
 clear hm hL
 obtain ⟨W13, hWD, hB⟩ := drwn W12
 clear cHA0 cHR0 cHF0 cHVB0 cHVB1; replace HA := HA.go hB; replace HR := HR.go hB; replace HB := cb hB HB; replace HW1 := cb hB HW1; replace HU := HU.go hB; replace HT := HT.go hB; replace HF := HF.go hB; replace HBT := HBT.go hB; replace HVB := HVB.go hB; clear hB
 refine rgn (S := fun w' => w'.cell? ⟨w.heap.size, 0, none⟩ = some u) hWD HA.out.2.1 (fun hHeld => ?_)
 clear hWD; apply tk 1; apply tk 4; apply tk 5
 refine wpAnyH_ready (rs := [0, 2]) (by kernel_rfl) (by simp) ?_
 refine AllReadyH.cons (o := _) rfl (fun K hK => ?_) ?_
 ·clear hHeld; have q0 := HF.out.2.1; go_simp; clear q0
  refine hK.out _ _ HA.out.2.1 (fun hHeld => ?_)
  clear hK K
  apply rdy 2; intro K hK; clear hHeld; go_simp
  refine (vlen_calls _ V _ HU.out).mono ?_
  rintro e W14 ⟨rfl, hB⟩
  replace HA := HA.go hB; replace HR := HR.go hB; replace HB := cb hB HB; replace HW1 := cb hB HW1; replace HU := HU.go hB; replace HT := HT.go hB; replace HF := HF.go hB; replace HBT := HBT.go hB; replace HVB := HVB.go hB; clear hB
  refine hK.out _ _ HA.out.2.1 (fun hHeld => ?_)
  clear hK K
  apply rdy 3; intro K hK; clear hHeld; go_simp
  refine (Calls.grow_same (fclamp_calls a (V.len : Int) _)).mono ?_
  rintro e W15 ⟨rfl, hB⟩
  replace HA := HA.go hB; replace HR := HR.go hB; replace HB := cb hB HB; replace HW1 := cb hB HW1; replace HU := HU.go hB; replace HT := HT.go hB; replace HF := HF.go hB; replace HBT := HBT.go hB; replace HVB := HVB.go hB
  rw [HX.out.1]
  clear hB
  refine hK.out _ _ HA.out.2.1 (fun hHeld => ?_)
  clear hK K
  apply rdy 6; intro K hK; clear hHeld; go_simp
  refine (vlen_calls _ V _ HU.out).mono ?_
  rintro e W16 ⟨rfl, hB⟩
  replace HA := HA.go hB; replace HR := HR.go hB; replace HB := cb hB HB; replace HW1 := cb hB HW1; replace HU := HU.go hB; replace HT := HT.go hB; replace HF := HF.go hB; replace HBT := HBT.go hB; replace HVB := HVB.go hB; clear hB
  refine hK.out _ _ HA.out.2.1 (fun hHeld => ?_)
  clear hK K
  apply rdy 7; intro K hK; clear hHeld; go_simp
  refine (Calls.grow_same (fclamp_calls b (V.len : Int) _)).mono ?_
  rintro e W17 ⟨rfl, hB⟩
  replace HA := HA.go hB; replace HR := HR.go hB; replace HB := cb hB HB; replace HW1 := cb hB HW1; replace HU := HU.go hB; replace HT := HT.go hB; replace HF := HF.go hB; replace HBT := HBT.go hB; replace HVB := HVB.go hB
  rw [HY.out.1]
  clear hB
  refine hK.out _ _ HA.out.2.1 (fun hHeld => ?_)
  clear hK K
  apply rdy 8; intro K hK; clear hHeld; have s0 := HF.out.2.1; have t0 := HF.out.2.2 0; go_simp; clear s0 t0
  obtain ⟨W18, hWn⟩ : ∃ xw9, W17.setCell ⟨w.heap.size + 1, 0, none⟩ (.int .i64 (x : Int)) = xw9 := ⟨_, rfl⟩
  rw [hWn]
  have hsz9 : w.heap.size + 3 ≤ W18.heap.size := by rw [← hWn]; have := HW1.out.size; have := HSZ.out; simp; omega
  replace HF := Lib.hid (show At1 W18 (w.heap.size + 1) (.int .i64 (x : Int)) by rw [← hWn]; exact At1.put1 HF.out _)
  replace HA := Lib.hid (show At1 W18 w.heap.size u by rw [← hWn]; exact HA.out.grown (grown_setCell _ ⟨w.heap.size + 1, 0, none⟩ _) (by simp))
  replace HR := Lib.hid (show At1 W18 (w.heap.size + 1 + 1) .nilIface by rw [← hWn]; exact HR.out.grown (grown_setCell _ ⟨w.heap.size + 1, 0, none⟩ _) (by simp))
  replace HU := Lib.hid (show IsV W18 (fun b => ok b ∧ b < w.heap.size) u V by rw [← hWn]; exact HU.out.keep (Kept.setCell _ _ _ (by simp)) (fun _ _ h => h))
  replace HB := Lib.hid (show Below w.heap.size w W18 by rw [← hWn]; exact HB.out.setCell (Nat.le_succ _) _)
  replace HT := Lib.hid (show TabAt W18 from fun j hj => keep_below HB.out _ _ (HTW.out j hj))
  replace HW1 := Lib.hid (Below.refl W18.heap.size W18)
  replace HSZ := Lib.hid hsz9
  clear hWn hsz9
  refine hK.out _ _ HA.out.2.1 (fun hHeld => ?_)
  clear hK K; apply tk 9
  refine wpAnyH_done (by kernel_rfl) ?_ _
  clear hHeld; have cHA0 := HA.out.2.1; have cHR0 := HR.out.2.1; have cHF0 := HF.out.2.1
  go_wp2_with fail
  have hwr : IntKind.i64.wrap ((y : Int) - (x : Int)) = (y : Int) - (x : Int) := IntWalk.i64_in _ (by have := HX.out.2; have := HY.out.2; have := HLN.out; omega)
  obtain ⟨W19, hWD, hB⟩ := drwn W18
  clear cHA0 cHR0 cHF0; replace HA := HA.go hB; replace HR := HR.go hB; replace HB := cb hB HB; replace HW1 := cb hB HW1; replace HU := HU.go hB; replace HT := HT.go hB; replace HF := HF.go hB; clear hB
  refine rgn (S := fun w' => w'.cell? ⟨w.heap.size, 0, none⟩ = some u ∧ w'.cell? ⟨w.heap.size + 1, 0, none⟩ = some (.int .i64 (x : Int))) hWD ⟨HA.out.2.1, HF.out.2.1⟩ (fun hHeld => ?_)
  clear hWD; apply tk 0; apply tk 1; apply tk 2; apply tk 3
  refine wpAnyH_take (i := 4) (v := (.int .i64 (m : Int))) rfl (by kernel_rfl) (by kernel_rfl) (by kernel_rfl) (fun _ _ _ h => h) (Or.inl ⟨by rfl, ?_⟩) (by assumption) ?_
  ·(intro w hSw; (try dsimp only at hSw); go_simp; have := HMX.out; first | omega | (split <;> omega) | (constructor <;> intros <;> omega) | (intros; omega))
  simp only [Act.put, List.getElem_toArray, List.getElem_cons_succ, List.getElem_cons_zero, List.setIfInBounds_toArray, List.set_cons_zero, List.set_cons_succ]
  apply tk 5
  apply rdy 6; intro K hK; clear hHeld; go_simp
  refine ((placesCut_calls (w.heap.size + 1) (x : Int) (fun i => (x : Int) + (i : Int)) m _ (by have := HMX.out; omega) HF.out (fun i w' hi hc => cutR_calls _ _ _ _ hc (by omega) (by have := HX.out.2; have := HLN.out; omega) (by omega) (by have := HMX.out; omega)))).mono ?_
  rintro e W20 ⟨vp, rfl, hvp, hB⟩
  replace HA := HA.go hB; replace HR := HR.go hB; replace HB := cb hB HB; replace HW1 := cb hB HW1; replace HU := HU.go hB; replace HT := HT.go hB; replace HF := HF.go hB
  have HVP := Lib.hid (show Slc W20 (fun _ => True) vp (L).length (ints (L)) by rw [HLE.out]; exact hvp.keep (Kept.refl _ _) (fun _ _ _ => trivial))
  obtain ⟨po, pc, rfl, _⟩ := HVP.out.opened
  clear hvp; clear hB
  refine hK.out _ _ ⟨HA.out.2.1, HF.out.2.1⟩ (fun hHeld => ?_)
  clear hK K
  apply rdy 7; intro K hK; clear hHeld; go_simp; have HO := HW1.out.size
  refine (selected_calls _ V _ (L) _ HU.out HOK.out HN.out HBX.out HVP.out (by rw [HLL.out]; exact HMX.out.2) HT.out).mono ?_
  rintro e W21 ⟨uq, rfl, huq, hB⟩
  replace HA := HA.go hB; replace HR := HR.go hB; replace HB := cb hB HB; replace HW1 := cb hB HW1; replace HU := HU.go hB; replace HT := HT.go hB; replace HF := HF.go hB; replace HVP := HVP.go hB
  have HQ := Lib.hid (show IsV W21 (fun b => (ok b ∧ b < w.heap.size) ∨ w.heap.size + 1 + 1 < b) uq QV by rw [HQV.out]; exact huq.wide (fun b _ h => by rcases h with h | h; exact Or.inl h.1; exact Or.inr (Nat.lt_of_lt_of_le (by have := HSZ.out; omega) h)))
  have hsq := huq.store; clear huq HO; clear hB
  refine hK.out _ _ ⟨HA.out.2.1, HF.out.2.1⟩ (fun hHeld => ?_)
  clear hK K
  apply rdy 8; intro K hK; clear hHeld; have s0 := HR.out.2.1; have t0 := HR.out.2.2 0; go_simp; clear s0 t0
  obtain ⟨W22, hWn⟩ : ∃ xw9, W21.setCell ⟨w.heap.size + 1 + 1, 0, none⟩ uq = xw9 := ⟨_, rfl⟩
  rw [hWn]
  replace HR := Lib.hid (show At1 W22 (w.heap.size + 1 + 1) uq by rw [← hWn]; exact At1.put1 HR.out _)
  replace HB := Lib.hid (show Below w.heap.size w W22 by rw [← hWn]; exact HB.out.setCell (Nat.le_add_right _ 2) _)
  replace HQ := Lib.hid (show IsV W22 (fun b => (ok b ∧ b < w.heap.size) ∨ w.heap.size + 1 + 1 < b) uq QV by rw [← hWn]; exact HQ.out.keep (Kept.setCell _ _ _ (by simp <;> (intros; omega))) (fun _ _ h => h))
  replace HA := Lib.hid (show At1 W22 (w.heap.size) u by rw [← hWn]; exact HA.out.grown (grown_setCell _ ⟨w.heap.size + 1 + 1, 0, none⟩ _) (by simp <;> omega))
  replace HF := Lib.hid (show At1 W22 (w.heap.size + 1) (.int .i64 (x : Int)) by rw [← hWn]; exact HF.out.grown (grown_setCell _ ⟨w.heap.size + 1 + 1, 0, none⟩ _) (by simp <;> omega))
  clear hWn
  refine hK.out _ _ ⟨HA.out.2.1, HF.out.2.1⟩ (fun hHeld => ?_)
  clear hK K
  refine wpAnyH_done (by kernel_rfl) ?_ _
  clear hHeld; have cHA0 := HA.out.2.1; have cHR0 := HR.out.2.1; have cHF0 := HF.out.2.1
  go_wp2_with fail
  refine bodyPost_ret (v := .agg #[uq]) (by simp [results, Tryz.results78, go_sem, cHR0]) rfl ⟨_, rfl, ?_, HB.out⟩
  rw [HQ0.out, ← HQV.out]
  exact HQ.out.wide (fun b _ (h : (ok b ∧ b < w.heap.size) ∨ w.heap.size + 1 + 1 < b) => h.imp id (fun h => by omega))
 refine AllReadyH.cons (o := _) rfl (fun K hK => ?_) ?_
 ·clear hHeld; go_simp
  refine (vlen_calls _ V _ HU.out).mono ?_
  rintro e W14 ⟨rfl, hB⟩
  replace HA := HA.go hB; replace HR := HR.go hB; replace HB := cb hB HB; replace HW1 := cb hB HW1; replace HU := HU.go hB; replace HT := HT.go hB; replace HF := HF.go hB; replace HBT := HBT.go hB; replace HVB := HVB.go hB; clear hB
  refine hK.out _ _ HA.out.2.1 (fun hHeld => ?_)
  clear hK K
  apply rdy 0; intro K hK; clear hHeld; have q0 := HF.out.2.1; go_simp; clear q0
  refine hK.out _ _ HA.out.2.1 (fun hHeld => ?_)
  clear hK K
  apply rdy 3; intro K hK; clear hHeld; go_simp
  refine (Calls.grow_same (fclamp_calls a (V.len : Int) _)).mono ?_
  rintro e W15 ⟨rfl, hB⟩
  replace HA := HA.go hB; replace HR := HR.go hB; replace HB := cb hB HB; replace HW1 := cb hB HW1; replace HU := HU.go hB; replace HT := HT.go hB; replace HF := HF.go hB; replace HBT := HBT.go hB; replace HVB := HVB.go hB
  rw [HX.out.1]
  clear hB
  refine hK.out _ _ HA.out.2.1 (fun hHeld => ?_)
  clear hK K
  apply rdy 6; intro K hK; clear hHeld; go_simp
  refine (vlen_calls _ V _ HU.out).mono ?_
  rintro e W16 ⟨rfl, hB⟩
  replace HA := HA.go hB; replace HR := HR.go hB; replace HB := cb hB HB; replace HW1 := cb hB HW1; replace HU := HU.go hB; replace HT := HT.go hB; replace HF := HF.go hB; replace HBT := HBT.go hB; replace HVB := HVB.go hB; clear hB
  refine hK.out _ _ HA.out.2.1 (fun hHeld => ?_)
  clear hK K
  apply rdy 7; intro K hK; clear hHeld; go_simp
  refine (Calls.grow_same (fclamp_calls b (V.len : Int) _)).mono ?_
  rintro e W17 ⟨rfl, hB⟩
  replace HA := HA.go hB; replace HR := HR.go hB; replace HB := cb hB HB; replace HW1 := cb hB HW1; replace HU := HU.go hB; replace HT := HT.go hB; replace HF := HF.go hB; replace HBT := HBT.go hB; replace HVB := HVB.go hB
  rw [HY.out.1]
  clear hB
  refine hK.out _ _ HA.out.2.1 (fun hHeld => ?_)
  clear hK K
  apply rdy 8; intro K hK; clear hHeld; have s0 := HF.out.2.1; have t0 := HF.out.2.2 0; go_simp; clear s0 t0
  obtain ⟨W18, hWn⟩ : ∃ xw9, W17.setCell ⟨w.heap.size + 1, 0, none⟩ (.int .i64 (x : Int)) = xw9 := ⟨_, rfl⟩
  rw [hWn]
  have hsz9 : w.heap.size + 3 ≤ W18.heap.size := by rw [← hWn]; have := HW1.out.size; have := HSZ.out; simp; omega
  replace HF := Lib.hid (show At1 W18 (w.heap.size + 1) (.int .i64 (x : Int)) by rw [← hWn]; exact At1.put1 HF.out _)
  replace HA := Lib.hid (show At1 W18 w.heap.size u by rw [← hWn]; exact HA.out.grown (grown_setCell _ ⟨w.heap.size + 1, 0, none⟩ _) (by simp))
  replace HR := Lib.hid (show At1 W18 (w.heap.size + 1 + 1) .nilIface by rw [← hWn]; exact HR.out.grown (grown_setCell _ ⟨w.heap.size + 1, 0, none⟩ _) (by simp))
  replace HU := Lib.hid (show IsV W18 (fun b => ok b ∧ b < w.heap.size) u V by rw [← hWn]; exact HU.out.keep (Kept.setCell _ _ _ (by simp)) (fun _ _ h => h))
  replace HB := Lib.hid (show Below w.heap.size w W18 by rw [← hWn]; exact HB.out.setCell (Nat.le_succ _) _)
  replace HT := Lib.hid (show TabAt W18 from fun j hj => keep_below HB.out _ _ (HTW.out j hj))
  replace HW1 := Lib.hid (Below.refl W18.heap.size W18)
  replace HSZ := Lib.hid hsz9
  clear hWn hsz9
  refine hK.out _ _ HA.out.2.1 (fun hHeld => ?_)
  clear hK K; apply tk 9
  refine wpAnyH_done (by kernel_rfl) ?_ _
  clear hHeld; have cHA0 := HA.out.2.1; have cHR0 := HR.out.2.1; have cHF0 := HF.out.2.1
  go_wp2_with fail
  have hwr : IntKind.i64.wrap ((y : Int) - (x : Int)) = (y : Int) - (x : Int) := IntWalk.i64_in _ (by have := HX.out.2; have := HY.out.2; have := HLN.out; omega)
  obtain ⟨W19, hWD, hB⟩ := drwn W18
  clear cHA0 cHR0 cHF0; replace HA := HA.go hB; replace HR := HR.go hB; replace HB := cb hB HB; replace HW1 := cb hB HW1; replace HU := HU.go hB; replace HT := HT.go hB; replace HF := HF.go hB; clear hB
  refine rgn (S := fun w' => w'.cell? ⟨w.heap.size, 0, none⟩ = some u ∧ w'.cell? ⟨w.heap.size + 1, 0, none⟩ = some (.int .i64 (x : Int))) hWD ⟨HA.out.2.1, HF.out.2.1⟩ (fun hHeld => ?_)
  clear hWD; apply tk 0; apply tk 1; apply tk 2; apply tk 3
  refine wpAnyH_take (i := 4) (v := (.int .i64 (m : Int))) rfl (by kernel_rfl) (by kernel_rfl) (by kernel_rfl) (fun _ _ _ h => h) (Or.inl ⟨by rfl, ?_⟩) (by assumption) ?_
  ·(intro w hSw; (try dsimp only at hSw); go_simp; have := HMX.out; first | omega | (split <;> omega) | (constructor <;> intros <;> omega) | (intros; omega))
  simp only [Act.put, List.getElem_toArray, List.getElem_cons_succ, List.getElem_cons_zero, List.setIfInBounds_toArray, List.set_cons_zero, List.set_cons_succ]
  apply tk 5
  apply rdy 6; intro K hK; clear hHeld; go_simp
  refine ((placesCut_calls (w.heap.size + 1) (x : Int) (fun i => (x : Int) + (i : Int)) m _ (by have := HMX.out; omega) HF.out (fun i w' hi hc => cutR_calls _ _ _ _ hc (by omega) (by have := HX.out.2; have := HLN.out; omega) (by omega) (by have := HMX.out; omega)))).mono ?_
  rintro e W20 ⟨vp, rfl, hvp, hB⟩
  replace HA := HA.go hB; replace HR := HR.go hB; replace HB := cb hB HB; replace HW1 := cb hB HW1; replace HU := HU.go hB; replace HT := HT.go hB; replace HF := HF.go hB
  have HVP := Lib.hid (show Slc W20 (fun _ => True) vp (L).length (ints (L)) by rw [HLE.out]; exact hvp.keep (Kept.refl _ _) (fun _ _ _ => trivial))
  obtain ⟨po, pc, rfl, _⟩ := HVP.out.opened
  clear hvp; clear hB
  refine hK.out _ _ ⟨HA.out.2.1, HF.out.2.1⟩ (fun hHeld => ?_)
  clear hK K
  apply rdy 7; intro K hK; clear hHeld; go_simp; have HO := HW1.out.size
  refine (selected_calls _ V _ (L) _ HU.out HOK.out HN.out HBX.out HVP.out (by rw [HLL.out]; exact HMX.out.2) HT.out).mono ?_
  rintro e W21 ⟨uq, rfl, huq, hB⟩
  replace HA := HA.go hB; replace HR := HR.go hB; replace HB := cb hB HB; replace HW1 := cb hB HW1; replace HU := HU.go hB; replace HT := HT.go hB; replace HF := HF.go hB; replace HVP := HVP.go hB
  have HQ := Lib.hid (show IsV W21 (fun b => (ok b ∧ b < w.heap.size) ∨ w.heap.size + 1 + 1 < b) uq QV by rw [HQV.out]; exact huq.wide (fun b _ h => by rcases h with h | h; exact Or.inl h.1; exact Or.inr (Nat.lt_of_lt_of_le (by have := HSZ.out; omega) h)))
  have hsq := huq.store; clear huq HO; clear hB
  refine hK.out _ _ ⟨HA.out.2.1, HF.out.2.1⟩ (fun hHeld => ?_)
  clear hK K
  apply rdy 8; intro K hK; clear hHeld; have s0 := HR.out.2.1; have t0 := HR.out.2.2 0; go_simp; clear s0 t0
  obtain ⟨W22, hWn⟩ : ∃ xw9, W21.setCell ⟨w.heap.size + 1 + 1, 0, none⟩ uq = xw9 := ⟨_, rfl⟩
  rw [hWn]
  replace HR := Lib.hid (show At1 W22 (w.heap.size + 1 + 1) uq by rw [← hWn]; exact At1.put1 HR.out _)
  replace HB := Lib.hid (show Below w.heap.size w W22 by rw [← hWn]; exact HB.out.setCell (Nat.le_add_right _ 2) _)
  replace HQ := Lib.hid (show IsV W22 (fun b => (ok b ∧ b < w.heap.size) ∨ w.heap.size + 1 + 1 < b) uq QV by rw [← hWn]; exact HQ.out.keep (Kept.setCell _ _ _ (by simp <;> (intros; omega))) (fun _ _ h => h))
  replace HA := Lib.hid (show At1 W22 (w.heap.size) u by rw [← hWn]; exact HA.out.grown (grown_setCell _ ⟨w.heap.size + 1 + 1, 0, none⟩ _) (by simp <;> omega))
  replace HF := Lib.hid (show At1 W22 (w.heap.size + 1) (.int .i64 (x : Int)) by rw [← hWn]; exact HF.out.grown (grown_setCell _ ⟨w.heap.size + 1 + 1, 0, none⟩ _) (by simp <;> omega))
  clear hWn
  refine hK.out _ _ ⟨HA.out.2.1, HF.out.2.1⟩ (fun hHeld => ?_)
  clear hK K
  refine wpAnyH_done (by kernel_rfl) ?_ _
  clear hHeld; have cHA0 := HA.out.2.1; have cHR0 := HR.out.2.1; have cHF0 := HF.out.2.1
  go_wp2_with fail
  refine bodyPost_ret (v := .agg #[uq]) (by simp [results, Tryz.results78, go_sem, cHR0]) rfl ⟨_, rfl, ?_, HB.out⟩
  rw [HQ0.out, ← HQV.out]
  exact HQ.out.wide (fun b _ (h : (ok b ∧ b < w.heap.size) ∨ w.heap.size + 1 + 1 < b) => h.imp id (fun h => by omega))
 exact AllReadyH.nil
end Go.Proofs.YtbdhibcbpgjbmaaGreatDoor

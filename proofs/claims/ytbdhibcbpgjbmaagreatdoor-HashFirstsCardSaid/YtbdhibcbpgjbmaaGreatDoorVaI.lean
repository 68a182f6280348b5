/- Package value, walked: numbers, letters. -/
import Derived.Test.YtbdhibcbpgjbmaaGreatDoorVaH
import Derived.Test.YtbdhibcbpgjbmaaGreatDoorSqE
import Derived.Test.YtbdhibcbpgjbmaaGreatDoorWalk2
namespace Go.Proofs.YtbdhibcbpgjbmaaGreatDoor
open Go.RowKit Fl
set_option linter.unusedVariables false
set_option maxRecDepth 100000

noncomputable def numsV (l : List PI) : VV := (VV.floats ((l.map (fun x => x.2.1)).map ze)).sq
def numB (l : List PI) : Bool := l.all fun x => decide (x.1 = 0 ∧ Fnt x.2.1)
def letB (l : List PI) : Bool := l.all fun x => decide (x.1 = 1)
def bC (b : Bool) : Int := if b then 0 else 1
/-- A vector, or why there is none. -/
def VecOr (c : Int) (V : VV) (w : World) (e : Ending) (w' : World) : Prop := ∃ u, e = .returned (.tuple #[.agg #[u], .int .i64 c]) ∧ (c = 0 → IsV w' (fun b => w.heap.size ≤ b) u V) ∧ (c ≠ 0 → u = .nilIface) ∧ Below w.heap.size w w'
theorem VecOr.no {c : Int} {V : VV} {w w' : World} (hc : c ≠ 0) (hb : Below w.heap.size w w') : VecOr c V w (.returned (.tuple #[.agg #[.nilIface], .int .i64 c])) w' := ⟨_, rfl, fun h => absurd h hc, fun _ => rfl, hb⟩
theorem VecOr.yes {c : Int} {V : VV} {w w' : World} {u : Value} (hc : c = 0) (hv : IsV w' (fun b => w.heap.size ≤ b) u V) (hb : Below w.heap.size w w') : VecOr c V w (.returned (.tuple #[.agg #[u], .int .i64 0])) w' := ⟨_, by rw [hc], fun _ => hv, fun h => absurd hc h, hb⟩
theorem all_no {l : List PI} {f : PI → Bool} {k : Nat} {x : PI} (h : l[k]? = some x) (hx : f x = false) : l.all f = false := by
 apply Bool.eq_false_iff.2
 intro ha
 rw [List.all_eq_true.1 ha x (List.mem_of_getElem? h)] at hx
 cases hx

set_option maxHeartbeats 4000000 in
theorem numbers_items {ok : Nat → Prop} (v : Value) (l : List PI) (w : World) (hv : Its w ok v l) (hm : l.length ≤ 1048576) (hw : ∀ x ∈ l, x.2.1 < 18446744073709551616) (hT : TabAt w) :
  Calls Tryz.prog 120 #[v] w (VecOr (bC (numB l)) (numsV l) w) := by
 have HV := Lib.hid hv; have HT := Lib.hid hT; have HWF := Lib.hid hw; have HM := Lib.hid hm
 obtain ⟨ao, cap, rfl, hc1, hc2⟩ := hv.len
 unfold maxLen at hc2
 clear hv hT hw
 obtain ⟨xs, hxs⟩ : ∃ xs : List Value, xs = f64s (l.map (fun x => x.2.1)) := ⟨_, rfl⟩
 have HXS := Lib.hid hxs
 have HXL := Lib.hid (show xs.length = l.length by rw [hxs]; simp [f64s])
 have HX := Lib.hid (show ∀ k x, l[k]? = some x → ∃ h : k < xs.length, xs[k] = .float .f64 x.2.1 by
  intro k x hx
  obtain ⟨hk, e⟩ := List.getElem?_eq_some_iff.1 hx
  exact ⟨by rw [hxs]; simpa [f64s] using hk, by simp [hxs, f64s, e]⟩)
 have hst := run_store_float
 have hmk := run_mkF1 l.length (by omega) (w.alloc (.cells #[.nilIface] 36))
 clear hxs
 obtain ⟨W0, hW0⟩ : ∃ W0, W0 = (w.alloc (.cells #[.nilIface] 36)).alloc (.cells (zerosV (.float .f64 0) l.length) 31) := ⟨_, rfl⟩
 have HO0 : Hid (W0.ownsRow (w.heap.size + 1) 31 1 (.slice (some ⟨w.heap.size + 1, 0, none⟩) l.length l.length) l.length (List.replicate l.length (.float .f64 0))) := Lib.hid (by
  have := own_make1 (.float .f64 0) 31 l.length (by omega) (w.alloc (.cells #[.nilIface] 36)) (w.heap.size + 1) (by simp)
  rw [hW0]; simpa using this)
 have HA := Lib.hid (show At1 W0 w.heap.size .nilIface by rw [hW0]; exact (At1.new _ _ _).below (below_new _ _))
 have HW := Lib.hid (show Below w.heap.size w W0 by rw [hW0]; exact (below_new _ _).alloc (by simp) _)
 go_enter Tryz.func120, Tryz.ntmps120
 go_wp2_with fail
 rw [← hW0]
 clear hW0 hmk
 go_loopw [14] (fun i wr => ∃ k : Nat, k ≤ l.length ∧ i = .int .i64 k ∧ (l.take k).all (fun x => decide (x.1 = 0)) = true ∧ wr.ownsRow (w.heap.size + 1) 31 1 (.slice (some ⟨w.heap.size + 1, 0, none⟩) l.length l.length) l.length (fillTo xs (.float .f64 0) k) ∧ W0.grownBy wr (some (w.heap.size + 1))) (fun i _ => l.length - (intOf i).toNat)
 case atStart => exact ⟨0, by omega, rfl, rfl, by rw [fillTo_zero, HXL.out]; exact HO0.out, grown_refl _ _⟩
 case round =>
  obtain ⟨k, hk, rfl, hal, hown, hgr⟩ := hrel
  have HAL := Lib.hid hal; have HO := Lib.hid hown; have HG := Lib.hid hgr
  have HB := Lib.hid (HW.out.grown hgr HW.out.size (fun j hj => by cases hj; omega))
  have hA2 := Lib.hid (HA.out.grown hgr (by simp))
  by_cases hlt : k < l.length
  ·have hx := List.getElem?_eq_getElem hlt
   obtain ⟨x, hxx⟩ : ∃ x, x = l[k] := ⟨_, rfl⟩
   rw [← hxx] at hx
   clear hxx; have HXK := Lib.hid hx
   obtain ⟨hkx, hgx⟩ := HX.out k x hx
   obtain ⟨b, off, bo, bc, rfl, _, c0, c1, c2, c3, hbx⟩ := (HV.out.grow HB.out).at hx
   obtain ⟨kd, nm, ch, bx⟩ := x
   simp only at c0 c1 c2 c3 hgx
   obtain ⟨W2, hW2⟩ : ∃ W2, W2 = wr.alloc (.cells #[.int .i64 kd, .float .f64 nm, .int .i32 ch, .slice bo bx.length bc] 34) := ⟨_, rfl⟩
   have HA4 := Lib.hid (show Blk4 W2 wr.heap.size _ _ _ _ by rw [hW2]; exact Blk4.new wr _ _ _ _ _)
   have HO2 := Lib.hid (show W2.ownsRow (w.heap.size + 1) 31 1 (.slice (some ⟨w.heap.size + 1, 0, none⟩) l.length l.length) l.length (fillTo xs (.float .f64 0) k) by rw [hW2]; exact HO.out.alloc _)
   have HG2 := Lib.hid (show W0.grownBy W2 (some (w.heap.size + 1)) by rw [hW2]; exact grown_trans HG.out (grown_any (below_grown (below_new _ _)) _))
   have hA3 := Lib.hid (HA.out.grown HG2.out (by simp))
   have HGX := Lib.hid hgx
   have HBB := Lib.hid (show Below w.heap.size w W2 by rw [hW2]; exact HB.out.alloc HB.out.size _)
   have hcw := owns_cell HO2.out k (by rw [fillTo_len _ _ _ (by rw [HXL.out]; exact hk), HXL.out]; exact hlt)
   have hfr := World.ownsRow.frozenAt HO2.out k
   obtain ⟨_, a0, af⟩ := hA3.out
   have af0 := af 0
   obtain ⟨_, d0, d1, d2, d3, _⟩ := HA4.out
   have hfold := hW2.symm
   clear hown hgr hal hx hbx hgx hW2 af
   by_cases hk0 : kd = 0
   ·subst hk0
    have HAN := Lib.hid (show (l.take (k + 1)).all (fun x => decide (x.1 = 0)) = true by rw [all_take HXK.out, HAL.out]; rfl)
    go_wp2_with fail
    go_roundw
    case rel =>
     refine ⟨k + 1, by omega, by go_num, HAN.out, ?_, grown_trans HG2.out (grown_setCell _ ⟨w.heap.size + 1, k, none⟩ _)⟩
     have := (World.ownsRow.stored HO2.out k (.float .f64 nm)).1
     rw [← HGX.out, fillTo_set] at this
     rw [← HGX.out]
     exact this
    case measure => simp [intOf]; omega
   ·have h0e : (kd != 0) = true := by simpa using hk0
    have HNO := Lib.hid (show bC (numB l) = 1 by unfold numB; rw [all_no HXK.out (decide_eq_false (by simp [hk0]))]; rfl)
    clear hk0
    go_wp2_with fail
    refine bodyPost_ret (v := .tuple #[.agg #[.nilIface], .int .i64 1]) (by simp [results, Tryz.results120, go_sem, a0]) rfl ?_
    have := VecOr.no (c := bC (numB l)) (V := numsV l) (w := w) (by rw [HNO.out]; decide) (HBB.out.setCell (Nat.le_refl _) (p := ⟨w.heap.size, 0, none⟩) .nilIface)
    rw [HNO.out] at this ⊢
    exact this
  ·have hkl : k = l.length := by omega
   have HAL2 := Lib.hid (show l.all (fun x => decide (x.1 = 0)) = true by have := HAL.out; rwa [hkl, List.take_length] at this)
   have HS := Lib.hid (show Slc wr (fun b => w.heap.size + 1 ≤ b) (.slice (some ⟨w.heap.size + 1, 0, none⟩) l.length l.length) (l.map (fun x => x.2.1)).length (f64s (l.map (fun x => x.2.1))) by
    have := Slc.owned HO.out
    rw [hkl, ← HXL.out, fillTo_all, HXL.out, HXS.out] at this
    rwa [List.length_map])
   have HLM := Lib.hid (show (l.map (fun x => x.2.1)).length ≤ 1048576 by rw [List.length_map]; exact HM.out)
   have HTr := Lib.hid (fun j hj => keep_below HB.out _ _ (HT.out j hj))
   clear hown hgr hal hkl
   cases hb : numB l
   ·have HNO := Lib.hid (show bC (numB l) = 1 by rw [hb]; rfl)
    have HEX := Lib.hid (show ∃ x ∈ l.map (fun x => x.2.1), ¬ Fnt x by
     apply Classical.byContradiction
     intro hn
     have : numB l = true := List.all_eq_true.2 (fun x hx => decide_eq_true ⟨of_decide_eq_true (List.all_eq_true.1 HAL2.out x hx), Classical.byContradiction fun h => hn ⟨x.2.1, List.mem_map.2 ⟨x, hx, rfl⟩, h⟩⟩)
     rw [hb] at this; cases this)
    clear hb
    go_wp2_with fail
    refine (numbers_no _ _ _ HS.out HLM.out (fun x hx => by obtain ⟨y, hy, rfl⟩ := List.mem_map.1 hx; exact HWF.out y hy) HEX.out).mono ?_
    rintro e w2 ⟨rfl, hB2⟩
    obtain ⟨_, a0, af⟩ := hA2.out.below hB2
    have af0 := af 0
    have HB2 := Lib.hid (HB.out.trans (hB2.mono HB.out.size))
    have HL2 := Lib.hid (hA2.out.below hB2).1
    have a9 := Lib.hid ((((hA2.out.below hB2).set .nilIface).below (below_new _ (.cells #[.nilIface] 36))).2.1)
    clear hB2 af
    go_wp2_with fail
    refine bodyPost_ret (v := .tuple #[.agg #[.nilIface], .int .i64 1]) (by simp [results, Tryz.results120, go_sem, a9.out]) rfl ?_
    have := VecOr.no (c := bC (numB l)) (V := numsV l) (w := w) (by rw [HNO.out]; decide) ((HB2.out.setCell (Nat.le_refl _) (p := ⟨w.heap.size, 0, none⟩) .nilIface).alloc (by simpa using HB2.out.size) (.cells #[.nilIface] 36))
    rw [HNO.out] at this ⊢
    exact this
   ·have HNO := Lib.hid (show bC (numB l) = 0 by rw [hb]; rfl)
    have HEX := Lib.hid (show ∀ x ∈ l.map (fun x => x.2.1), Fnt x by
     intro x hx
     obtain ⟨y, hy, rfl⟩ := List.mem_map.1 hx
     exact (of_decide_eq_true (List.all_eq_true.1 hb y hy)).2)
    clear hb
    go_wp2_with fail
    refine (numbers_yes _ _ _ HS.out HLM.out HEX.out HTr.out).mono ?_
    rintro e w2 ⟨u, rfl, hu, hB2⟩
    have hsx := hu.store; have HU := Lib.hid hu
    obtain ⟨_, a0, af⟩ := hA2.out.below hB2
    have af0 := af 0
    have HB2 := Lib.hid (HB.out.trans (hB2.mono HB.out.size))
    have HZ := Lib.hid (show w.heap.size + 1 ≤ wr.heap.size from hA2.out.1)
    have a9 := Lib.hid ((((hA2.out.below hB2).set u).below (below_new _ (.cells #[u] 36))).2.1)
    clear hB2 hu af
    go_wp2_with fail
    refine bodyPost_ret (v := .tuple #[.agg #[u], .int .i64 0]) (by simp [results, Tryz.results120, go_sem, a9.out]) rfl ?_
    refine VecOr.yes HNO.out (((HU.out.setb (p := ⟨w.heap.size, 0, none⟩) (fun (h : wr.heap.size ≤ w.heap.size) => by have := HZ.out; omega) _).grow (below_new _ _)).wide (fun b _ (h : wr.heap.size ≤ b) => by have := HZ.out; omega)) ((HB2.out.setCell (p := ⟨w.heap.size, 0, none⟩) (Nat.le_refl _) _).alloc (by simpa using HB2.out.size) _)

theorem run_mkR (n : Nat) (hn : n ≤ 2000000) (w : World) : (Instr.makeSlice 102 (.int .i64 (n : Int)) (.int .i64 (n : Int))).run Tryz.prog w = .ok (.slice (some ⟨w.heap.size, 0, none⟩) n n) (w.alloc (.cells (zerosV (.int .i32 0) n) 21)) := by
 obtain ⟨i0, hi, hz0, hz1, hz2⟩ := info_parts info_i32
 have hr := run_make (P := Tryz.prog) w 102 21 i0 _ Tryz.underlying102 hi hz0 .i64 .i64 n n (by omega) (Int.le_refl _) (by rw [hz2]; omega) (by omega)
 simp only [Int.toNat_natCast, hz1] at hr
 exact hr

set_option maxHeartbeats 4000000 in
theorem letters_items {ok : Nat → Prop} (v : Value) (l : List PI) (w : World) (hv : Its w ok v l) (hm : l.length ≤ 1048576) :
  Calls Tryz.prog 118 #[v] w (VecOr (bC (letB l)) (.chars (l.map (fun x => x.2.2.1))) w) := by
 have HV := Lib.hid hv; have HM := Lib.hid hm
 obtain ⟨ao, cap, rfl, hc1, hc2⟩ := hv.len
 unfold maxLen at hc2
 clear hv
 obtain ⟨xs, hxs⟩ : ∃ xs : List Value, xs = i32s (l.map (fun x => x.2.2.1)) := ⟨_, rfl⟩
 have HXS := Lib.hid hxs
 have HXL := Lib.hid (show xs.length = l.length by rw [hxs]; simp [i32s])
 have HX := Lib.hid (show ∀ k x, l[k]? = some x → ∃ h : k < xs.length, xs[k] = .int .i32 x.2.2.1 by
  intro k x hx
  obtain ⟨hk, e⟩ := List.getElem?_eq_some_iff.1 hx
  exact ⟨by rw [hxs]; simpa [i32s] using hk, by simp [hxs, i32s, e]⟩)
 have hst := run_store_float
 have hmk := run_mkR l.length (by omega) (w.alloc (.cells #[.nilIface] 36))
 clear hxs
 obtain ⟨W0, hW0⟩ : ∃ W0, W0 = (w.alloc (.cells #[.nilIface] 36)).alloc (.cells (zerosV (.int .i32 0) l.length) 21) := ⟨_, rfl⟩
 have HO0 : Hid (W0.ownsRow (w.heap.size + 1) 21 1 (.slice (some ⟨w.heap.size + 1, 0, none⟩) l.length l.length) l.length (List.replicate l.length (.int .i32 0))) := Lib.hid (by
  have := own_make1 (.int .i32 0) 21 l.length (by omega) (w.alloc (.cells #[.nilIface] 36)) (w.heap.size + 1) (by simp)
  rw [hW0]; simpa using this)
 have HA := Lib.hid (show At1 W0 w.heap.size .nilIface by rw [hW0]; exact (At1.new _ _ _).below (below_new _ _))
 have HW := Lib.hid (show Below w.heap.size w W0 by rw [hW0]; exact (below_new _ _).alloc (by simp) _)
 go_enter Tryz.func118, Tryz.ntmps118
 go_wp2_with fail
 rw [← hW0]
 clear hW0 hmk
 go_loopw [12] (fun i wr => ∃ k : Nat, k ≤ l.length ∧ i = .int .i64 k ∧ (l.take k).all (fun x => decide (x.1 = 1)) = true ∧ wr.ownsRow (w.heap.size + 1) 21 1 (.slice (some ⟨w.heap.size + 1, 0, none⟩) l.length l.length) l.length (fillTo xs (.int .i32 0) k) ∧ W0.grownBy wr (some (w.heap.size + 1))) (fun i _ => l.length - (intOf i).toNat)
 case atStart => exact ⟨0, by omega, rfl, rfl, by rw [fillTo_zero, HXL.out]; exact HO0.out, grown_refl _ _⟩
 case round =>
  obtain ⟨k, hk, rfl, hal, hown, hgr⟩ := hrel
  have HAL := Lib.hid hal; have HO := Lib.hid hown; have HG := Lib.hid hgr
  have HB := Lib.hid (HW.out.grown hgr HW.out.size (fun j hj => by cases hj; omega))
  have hA2 := Lib.hid (HA.out.grown hgr (by simp))
  by_cases hlt : k < l.length
  ·have hx := List.getElem?_eq_getElem hlt
   obtain ⟨x, hxx⟩ : ∃ x, x = l[k] := ⟨_, rfl⟩
   rw [← hxx] at hx
   clear hxx; have HXK := Lib.hid hx
   obtain ⟨hkx, hgx⟩ := HX.out k x hx
   obtain ⟨b, off, bo, bc, rfl, _, c0, c1, c2, c3, hbx⟩ := (HV.out.grow HB.out).at hx
   obtain ⟨kd, nm, ch, bx⟩ := x
   simp only at c0 c1 c2 c3 hgx
   obtain ⟨W2, hW2⟩ : ∃ W2, W2 = wr.alloc (.cells #[.int .i64 kd, .float .f64 nm, .int .i32 ch, .slice bo bx.length bc] 34) := ⟨_, rfl⟩
   have HA4 := Lib.hid (show Blk4 W2 wr.heap.size _ _ _ _ by rw [hW2]; exact Blk4.new wr _ _ _ _ _)
   have HO2 := Lib.hid (show W2.ownsRow (w.heap.size + 1) 21 1 (.slice (some ⟨w.heap.size + 1, 0, none⟩) l.length l.length) l.length (fillTo xs (.int .i32 0) k) by rw [hW2]; exact HO.out.alloc _)
   have HG2 := Lib.hid (show W0.grownBy W2 (some (w.heap.size + 1)) by rw [hW2]; exact grown_trans HG.out (grown_any (below_grown (below_new _ _)) _))
   have hA3 := Lib.hid (HA.out.grown HG2.out (by simp))
   have HGX := Lib.hid hgx
   have HBB := Lib.hid (show Below w.heap.size w W2 by rw [hW2]; exact HB.out.alloc HB.out.size _)
   have hcw := owns_cell HO2.out k (by rw [fillTo_len _ _ _ (by rw [HXL.out]; exact hk), HXL.out]; exact hlt)
   have hfr := World.ownsRow.frozenAt HO2.out k
   obtain ⟨_, a0, af⟩ := hA3.out
   have af0 := af 0
   obtain ⟨_, d0, d1, d2, d3, _⟩ := HA4.out
   have hfold := hW2.symm
   clear hown hgr hal hx hbx hgx hW2 af
   by_cases hk0 : kd = 1
   ·subst hk0
    have HAN := Lib.hid (show (l.take (k + 1)).all (fun x => decide (x.1 = 1)) = true by rw [all_take HXK.out, HAL.out]; rfl)
    go_wp2_with fail
    go_roundw
    case rel =>
     refine ⟨k + 1, by omega, by go_num, HAN.out, ?_, grown_trans HG2.out (grown_setCell _ ⟨w.heap.size + 1, k, none⟩ _)⟩
     have := (World.ownsRow.stored HO2.out k (.int .i32 ch)).1
     rw [← HGX.out, fillTo_set] at this
     rw [← HGX.out]
     exact this
    case measure => simp [intOf]; omega
   ·have h0e : (kd != 1) = true := by simpa using hk0
    have HNO := Lib.hid (show bC (letB l) = 1 by unfold letB; rw [all_no HXK.out (decide_eq_false (by simp [hk0]))]; rfl)
    clear hk0
    go_wp2_with fail
    refine bodyPost_ret (v := .tuple #[.agg #[.nilIface], .int .i64 1]) (by simp [results, Tryz.results118, go_sem, a0]) rfl ?_
    have := VecOr.no (c := bC (letB l)) (V := .chars (l.map (fun x => x.2.2.1))) (w := w) (by rw [HNO.out]; decide) (HBB.out.setCell (Nat.le_refl _) (p := ⟨w.heap.size, 0, none⟩) .nilIface)
    rw [HNO.out] at this ⊢
    exact this
  ·have hkl : k = l.length := by omega
   have HNO := Lib.hid (show bC (letB l) = 0 by unfold letB; have := HAL.out; rw [hkl, List.take_length] at this; rw [this]; rfl)
   have HS := Lib.hid (show Slc wr (fun b => w.heap.size + 1 ≤ b) (.slice (some ⟨w.heap.size + 1, 0, none⟩) l.length l.length) (l.map (fun x => x.2.2.1)).length (i32s (l.map (fun x => x.2.2.1))) by
    have := Slc.owned HO.out
    rw [hkl, ← HXL.out, fillTo_all, HXL.out, HXS.out] at this
    rwa [List.length_map])
   have HLM := Lib.hid (show (l.map (fun x => x.2.2.1)).length ≤ 2000000 by rw [List.length_map]; have := HM.out; omega)
   clear hown hgr hal hkl
   go_wp2_with fail
   refine (vchars_calls _ _ _ HS.out HLM.out).mono ?_
   rintro e w2 ⟨u, rfl, hu, hB2⟩
   have hsx := hu.store; have HU := Lib.hid hu
   obtain ⟨_, a0, af⟩ := hA2.out.below hB2
   have af0 := af 0
   have HB2 := Lib.hid (HB.out.trans (hB2.mono HB.out.size))
   have HZ := Lib.hid (show w.heap.size + 1 ≤ wr.heap.size from hA2.out.1)
   clear hB2 hu af
   go_wp2_with fail
   refine bodyPost_ret (v := .tuple #[.agg #[u], .int .i64 0]) (by simp [results, Tryz.results118, go_sem, a0]) rfl ?_
   refine VecOr.yes HNO.out ((HU.out.setb (p := ⟨w.heap.size, 0, none⟩) (fun (h : wr.heap.size ≤ w.heap.size) => by have := HZ.out; omega) _).wide (fun b _ (h : wr.heap.size ≤ b) => by have := HZ.out; omega)) (HB2.out.setCell (p := ⟨w.heap.size, 0, none⟩) (Nat.le_refl _) _)
end Go.Proofs.YtbdhibcbpgjbmaaGreatDoor

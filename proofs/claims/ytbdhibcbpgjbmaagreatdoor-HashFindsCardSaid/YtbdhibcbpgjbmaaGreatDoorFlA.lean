/- Package flat, walked: chosen, of numbers, characters and booleans. -/
import Derived.Test.YtbdhibcbpgjbmaaGreatDoorVeM
import Derived.Test.YtbdhibcbpgjbmaaGreatDoorVeF
namespace Go.Proofs.YtbdhibcbpgjbmaaGreatDoor
set_option maxRecDepth 100000
open Go.RowKit
set_option linter.unusedVariables false

theorem atI_in {α : Type} {l : List α} {d e : α} {i : Int} (h : 0 ≤ i ∧ i < (l.length : Int)) : atI l d i = atI l e i := by
 have hk : i.toNat < l.length := by omega
 simp [atI, h.1, List.getElem?_eq_getElem hk]
theorem info_bool1 : (Tryz.prog.info? 4).map (fun i => (i.zero, i.size, i.bytes)) = some (some (.bool false), 1, 1) := by kernel_rfl
theorem run_mkC1 (n : Nat) (hn : n ≤ 2000000) (w : World) : (Instr.makeSlice 102 (.int .i64 (n : Int)) (.int .i64 (n : Int))).run Tryz.prog w = .ok (.slice (some ⟨w.heap.size, 0, none⟩) n n) (w.alloc (.cells (zerosV (.int .i32 0) n) 21)) := by
 obtain ⟨i0, hi, hz0, hz1, hz2⟩ := info_parts info_i32
 have hr := run_make (P := Tryz.prog) w 102 21 i0 _ Tryz.underlying102 hi hz0 .i64 .i64 n n (by omega) (Int.le_refl _) (by rw [hz2]; omega) (by omega)
 simp only [Int.toNat_natCast, hz1] at hr
 exact hr
theorem run_mkB1 (n : Nat) (hn : n ≤ 2000000) (w : World) : (Instr.makeSlice 29 (.int .i64 (n : Int)) (.int .i64 (n : Int))).run Tryz.prog w = .ok (.slice (some ⟨w.heap.size, 0, none⟩) n n) (w.alloc (.cells (zerosV (.bool false) n) 4)) := by
 obtain ⟨i0, hi, hz0, hz1, hz2⟩ := info_parts info_bool1
 have hr := run_make (P := Tryz.prog) w 29 4 i0 _ Tryz.underlying29 hi hz0 .i64 .i64 n n (by omega) (Int.le_refl _) (by rw [hz2]; omega) (by omega)
 simp only [Int.toNat_natCast, hz1] at hr
 exact hr

set_option maxHeartbeats 1000000 in
theorem chF_calls {ok ok2 : Nat → Prop} (u : Value) (V : VV) (v : Value) (at_ : List Int) (w : World) (hu : IsV w ok u V) (hv : Slc w ok2 v at_.length (ints at_)) (hm : at_.length ≤ 2000000) :
  Calls Tryz.prog 130 #[.int .i64 (V.len : Int), .func (.func 59) #[.agg #[u]] #[], v, .float .f64 0] w fun e w' => ∃ v, e = .returned v ∧ Slc w' (fun b => w.heap.size ≤ b) v at_.length (f64s (at_.map (atI V.nums 0))) ∧ Below w.heap.size w w' := by
 obtain ⟨ao, cap, rfl, _, _, _, hc⟩ := hv.opened
 have HC := Lib.hid hc; have HU := Lib.hid hu; clear hv hc hu
 have hst := run_store_float
 obtain ⟨xs, hxs⟩ : ∃ xs : List Value, xs = (f64s (at_.map (atI V.nums 0))) := ⟨_, rfl⟩
 have hxl : xs.length = at_.length := by rw [hxs]; simp [f64s]
 have hget : ∀ k (h : k < xs.length) (h2 : k < at_.length), ∃ x : Int, x = at_[k]'h2 ∧ xs[k]'h = .float .f64 (atI V.nums 0 x) := by intro k h h2; refine ⟨_, rfl, ?_⟩; simp [hxs, f64s]
 rw [← hxs]
 have HX := Lib.hid hget; have HXL := Lib.hid hxl
 have hmk := run_mkF1 at_.length (by omega) w
 clear hxs hget hxl
 obtain ⟨W0, hW0⟩ : ∃ W0, W0 = w.alloc (.cells (zerosV (.float .f64 0) at_.length) 31) := ⟨_, rfl⟩
 have HO0 : Hid (W0.ownsRow w.heap.size 31 1 (.slice (some ⟨w.heap.size, 0, none⟩) at_.length at_.length) at_.length (List.replicate at_.length (.float .f64 0))) := Lib.hid (by rw [hW0]; exact own_make1 _ _ _ (by omega) _ _ (Nat.le_refl _))
 have HW := Lib.hid (show Below w.heap.size w W0 by rw [hW0]; exact below_new _ _)
 go_enter Tryz.func130, Tryz.ntmps130
 go_wp2
 rw [← hW0]
 clear hW0 hmk
 go_loopw [17] (fun i wr => ∃ k : Nat, k ≤ at_.length ∧ i = .int .i64 k ∧ wr.ownsRow w.heap.size 31 1 (.slice (some ⟨w.heap.size, 0, none⟩) at_.length at_.length) at_.length (fillTo xs (.float .f64 0) k) ∧ W0.grownBy wr (some w.heap.size)) (fun i _ => at_.length - (intOf i).toNat)
 case atStart => exact ⟨0, by omega, rfl, by rw [fillTo_zero, HXL.out]; exact HO0.out, grown_refl _ _⟩
 case round =>
  obtain ⟨k, hk, rfl, hown, hgr⟩ := hrel
  have HO := Lib.hid hown; have HG := Lib.hid hgr
  have HB := Lib.hid (HW.out.grown hgr HW.out.size (fun j hj => by cases hj; omega))
  by_cases hlt : k < at_.length
  ·obtain ⟨b, off, rfl, _, hcl0⟩ := HC.out k (by rw [ints_len]; exact hlt)
   have hcl := keep_below HB.out _ _ hcl0
   rw [ints_get] at hcl
   obtain ⟨x, hx, hxk⟩ := HX.out k (by rw [HXL.out]; exact hlt) hlt
   have hcw := owns_cell HO.out k (by rw [fillTo_len _ _ _ (by rw [HXL.out]; exact hk), HXL.out]; exact hlt)
   have hfr := World.ownsRow.frozenAt HO.out k
   rw [← hx] at hcl
   have HXK := Lib.hid hxk; clear hown hgr hcl0 hx hxk
   by_cases hin : 0 ≤ x ∧ x < (V.len : Int)
   ·have hi1 := hin.1
    have hi2 := hin.2
    have HIN := Lib.hid hin; clear hin
    have HWR := Lib.hid (Nat.le_refl wr.heap.size)
    go_wp2_with fail
    refine (num_calls _ V _ _ (HU.out.grow (HB.out.setCell (Nat.le_refl _) _))).mono ?_
    rintro e w2 ⟨rfl, hB2⟩
    have HS := Lib.hid (World.ownsRow.stored HO.out k (.float .f64 0)).1
    have HO2 := Lib.hid (owns_below2 HS.out hB2)
    have HG2 := Lib.hid (grown_trans (grown_trans HG.out (grown_setCell _ ⟨w.heap.size, k, none⟩ _)) (grown_any (below_grown hB2) _))
    have hcw2 := owns_cell2 HO2.out k (by rw [List.length_set, fillTo_len _ _ _ (by rw [HXL.out]; exact hk), HXL.out]; exact hlt)
    have hfr2 := World.ownsRow.frozenAt HO2.out k
    clear hB2 hcw hfr
    go_wp2
    go_roundw
    case rel =>
     refine ⟨k + 1, by omega, by go_num, ?_, grown_trans HG2.out (grown_setCell _ ⟨w.heap.size, k, none⟩ _)⟩
     have := (World.ownsRow.stored HO2.out k (.float .f64 (atI V.nums 0 x))).1
     have hq : xs[k]'(by rw [HXL.out]; exact hlt) = .float .f64 (atI V.nums 0 x) := by rw [HXK.out]
     rw [List.set_set, ← hq, fillTo_set] at this
     rw [← hq]
     exact this
    case measure => simp [intOf]; omega
   ·have HZ := Lib.hid (VV.nums_len hin)
    have hn : ¬ (0 ≤ x) ∨ (0 ≤ x ∧ ¬ (x < (V.len : Int))) := by omega
    clear hin
    rcases hn with hn | ⟨hn, hn2⟩
    all_goals
     go_wp2_with fail
     go_roundw
     case rel =>
      refine ⟨k + 1, by omega, by go_num, ?_, grown_trans HG.out (grown_setCell _ ⟨w.heap.size, k, none⟩ _)⟩
      have := (World.ownsRow.stored HO.out k (.float .f64 0)).1
      have hq : xs[k]'(by rw [HXL.out]; exact hlt) = .float .f64 0 := by rw [HXK.out, HZ.out]
      rw [← hq, fillTo_set] at this
      rw [← hq]
      exact this
     case measure => simp [intOf]; omega
  ·have hkl : k = at_.length := by omega
   have HK := Lib.hid hkl; clear hown hgr hkl
   go_wp2
   go_ret
   refine ⟨_, rfl, ?_, HB.out⟩
   have := Slc.owned HO.out
   rwa [HK.out, ← HXL.out, fillTo_all, HXL.out] at this

set_option maxHeartbeats 1000000 in
theorem chC_calls {ok ok2 : Nat → Prop} (u : Value) (V : VV) (v : Value) (at_ : List Int) (w : World) (hu : IsV w ok u V) (hv : Slc w ok2 v at_.length (ints at_)) (hm : at_.length ≤ 2000000) (hcl : V.text.length = V.len) :
  Calls Tryz.prog 126 #[.int .i64 (V.len : Int), .func (.func 55) #[.agg #[u]] #[], v, .int .i32 32] w fun e w' => ∃ v, e = .returned v ∧ Slc w' (fun b => w.heap.size ≤ b) v at_.length (i32s (at_.map (atI V.text 32))) ∧ Below w.heap.size w w' := by
 obtain ⟨ao, cap, rfl, _, _, _, hc⟩ := hv.opened
 have HC := Lib.hid hc; have HU := Lib.hid hu; have HCL := Lib.hid hcl; clear hv hc hu
 obtain ⟨xs, hxs⟩ : ∃ xs : List Value, xs = (i32s (at_.map (atI V.text 32))) := ⟨_, rfl⟩
 have hxl : xs.length = at_.length := by rw [hxs]; simp [i32s]
 have hget : ∀ k (h : k < xs.length) (h2 : k < at_.length), ∃ x : Int, x = at_[k]'h2 ∧ xs[k]'h = .int .i32 (atI V.text 32 x) := by intro k h h2; refine ⟨_, rfl, ?_⟩; simp [hxs, i32s]
 rw [← hxs]
 have HX := Lib.hid hget; have HXL := Lib.hid hxl
 have hmk := run_mkC1 at_.length (by omega) w
 clear hxs hget hxl
 obtain ⟨W0, hW0⟩ : ∃ W0, W0 = w.alloc (.cells (zerosV (.int .i32 0) at_.length) 21) := ⟨_, rfl⟩
 have HO0 : Hid (W0.ownsRow w.heap.size 21 1 (.slice (some ⟨w.heap.size, 0, none⟩) at_.length at_.length) at_.length (List.replicate at_.length (.int .i32 0))) := Lib.hid (by rw [hW0]; exact own_make1 _ _ _ (by omega) _ _ (Nat.le_refl _))
 have HW := Lib.hid (show Below w.heap.size w W0 by rw [hW0]; exact below_new _ _)
 go_enter Tryz.func126, Tryz.ntmps126
 go_wp2
 rw [← hW0]
 clear hW0 hmk
 go_loopw [17] (fun i wr => ∃ k : Nat, k ≤ at_.length ∧ i = .int .i64 k ∧ wr.ownsRow w.heap.size 21 1 (.slice (some ⟨w.heap.size, 0, none⟩) at_.length at_.length) at_.length (fillTo xs (.int .i32 0) k) ∧ W0.grownBy wr (some w.heap.size)) (fun i _ => at_.length - (intOf i).toNat)
 case atStart => exact ⟨0, by omega, rfl, by rw [fillTo_zero, HXL.out]; exact HO0.out, grown_refl _ _⟩
 case round =>
  obtain ⟨k, hk, rfl, hown, hgr⟩ := hrel
  have HO := Lib.hid hown; have HG := Lib.hid hgr
  have HB := Lib.hid (HW.out.grown hgr HW.out.size (fun j hj => by cases hj; omega))
  by_cases hlt : k < at_.length
  ·obtain ⟨b, off, rfl, _, hcl0⟩ := HC.out k (by rw [ints_len]; exact hlt)
   have hcl := keep_below HB.out _ _ hcl0
   rw [ints_get] at hcl
   obtain ⟨x, hx, hxk⟩ := HX.out k (by rw [HXL.out]; exact hlt) hlt
   have hcw := owns_cell HO.out k (by rw [fillTo_len _ _ _ (by rw [HXL.out]; exact hk), HXL.out]; exact hlt)
   have hfr := World.ownsRow.frozenAt HO.out k
   rw [← hx] at hcl
   have HXK := Lib.hid hxk; clear hown hgr hcl0 hx hxk
   by_cases hin : 0 ≤ x ∧ x < (V.len : Int)
   ·have hi1 := hin.1
    have hi2 := hin.2
    have HIN := Lib.hid hin; clear hin
    have HWR := Lib.hid (Nat.le_refl wr.heap.size)
    go_wp2_with fail
    refine (vchar_calls _ V _ _ (HU.out.grow (HB.out.setCell (Nat.le_refl _) _))).mono ?_
    rintro e w2 ⟨rfl, hB2⟩
    have HS := Lib.hid (World.ownsRow.stored HO.out k (.int .i32 32)).1
    have HO2 := Lib.hid (owns_below2 HS.out hB2)
    have HG2 := Lib.hid (grown_trans (grown_trans HG.out (grown_setCell _ ⟨w.heap.size, k, none⟩ _)) (grown_any (below_grown hB2) _))
    have hcw2 := owns_cell2 HO2.out k (by rw [List.length_set, fillTo_len _ _ _ (by rw [HXL.out]; exact hk), HXL.out]; exact hlt)
    have hfr2 := World.ownsRow.frozenAt HO2.out k
    clear hB2 hcw hfr
    go_wp2
    go_roundw
    case rel =>
     refine ⟨k + 1, by omega, by go_num, ?_, grown_trans HG2.out (grown_setCell _ ⟨w.heap.size, k, none⟩ _)⟩
     have := (World.ownsRow.stored HO2.out k (.int .i32 (atI V.text 0 x))).1
     have hq : xs[k]'(by rw [HXL.out]; exact hlt) = .int .i32 (atI V.text 0 x) := by rw [HXK.out]; rw [atI_in (e := 0) (by rw [HCL.out]; exact HIN.out)]
     rw [List.set_set, ← hq, fillTo_set] at this
     rw [← hq]
     exact this
    case measure => simp [intOf]; omega
   ·have HZ := Lib.hid (atI_neg (d := (32 : Int)) (by rw [HCL.out]; exact hin))
    have hn : ¬ (0 ≤ x) ∨ (0 ≤ x ∧ ¬ (x < (V.len : Int))) := by omega
    clear hin
    rcases hn with hn | ⟨hn, hn2⟩
    all_goals
     go_wp2_with fail
     go_roundw
     case rel =>
      refine ⟨k + 1, by omega, by go_num, ?_, grown_trans HG.out (grown_setCell _ ⟨w.heap.size, k, none⟩ _)⟩
      have := (World.ownsRow.stored HO.out k (.int .i32 32)).1
      have hq : xs[k]'(by rw [HXL.out]; exact hlt) = .int .i32 32 := by rw [HXK.out, HZ.out]
      rw [← hq, fillTo_set] at this
      rw [← hq]
      exact this
     case measure => simp [intOf]; omega
  ·have hkl : k = at_.length := by omega
   have HK := Lib.hid hkl; clear hown hgr hkl
   go_wp2
   go_ret
   refine ⟨_, rfl, ?_, HB.out⟩
   have := Slc.owned HO.out
   rwa [HK.out, ← HXL.out, fillTo_all, HXL.out] at this

theorem sqI_out {l : List Bool} {i : Int} (h : ¬ (0 ≤ i ∧ i < (l.length : Int))) : sqI l i = false := by
 by_cases h0 : 0 ≤ i
 ·have : l.length ≤ i.toNat := by omega
  simp [sqI, h0, sq, List.getElem?_eq_none this]
 ·simp [sqI, h0]
set_option maxHeartbeats 1000000 in
theorem chB_calls {ok2 : Nat → Prop} (u : Value) (l : List Bool) (v : Value) (at_ : List Int) (w : World) (hu : IsBits w u l) (hv : Slc w ok2 v at_.length (ints at_)) (hm : at_.length ≤ 2000000) (hcl : l.length ≤ 1048576) :
  Calls Tryz.prog 125 #[.int .i64 (l.length : Int), .func (.func 93) #[u] #[], v, .bool false] w fun e w' => ∃ v, e = .returned v ∧ Slc w' (fun b => w.heap.size ≤ b) v at_.length (bools (at_.map (sqI l))) ∧ Below w.heap.size w w' := by
 obtain ⟨ao, cap, rfl, _, _, _, hc⟩ := hv.opened
 have HC := Lib.hid hc; have HU := Lib.hid hu; have HCL := Lib.hid hcl; clear hv hc hu
 obtain ⟨xs, hxs⟩ : ∃ xs : List Value, xs = (bools (at_.map (sqI l))) := ⟨_, rfl⟩
 have hxl : xs.length = at_.length := by rw [hxs]; simp [bools]
 have hget : ∀ k (h : k < xs.length) (h2 : k < at_.length), ∃ x : Int, x = at_[k]'h2 ∧ xs[k]'h = .bool (sqI l x) := by intro k h h2; refine ⟨_, rfl, ?_⟩; simp [hxs, bools]
 rw [← hxs]
 have HX := Lib.hid hget; have HXL := Lib.hid hxl
 have hmk := run_mkB1 at_.length (by omega) w
 clear hxs hget hxl
 obtain ⟨W0, hW0⟩ : ∃ W0, W0 = w.alloc (.cells (zerosV (.bool false) at_.length) 4) := ⟨_, rfl⟩
 have HO0 : Hid (W0.ownsRow w.heap.size 4 1 (.slice (some ⟨w.heap.size, 0, none⟩) at_.length at_.length) at_.length (List.replicate at_.length (.bool false))) := Lib.hid (by rw [hW0]; exact own_make1 _ _ _ (by omega) _ _ (Nat.le_refl _))
 have HW := Lib.hid (show Below w.heap.size w W0 by rw [hW0]; exact below_new _ _)
 go_enter Tryz.func125, Tryz.ntmps125
 go_wp2
 rw [← hW0]
 clear hW0 hmk
 go_loopw [17] (fun i wr => ∃ k : Nat, k ≤ at_.length ∧ i = .int .i64 k ∧ wr.ownsRow w.heap.size 4 1 (.slice (some ⟨w.heap.size, 0, none⟩) at_.length at_.length) at_.length (fillTo xs (.bool false) k) ∧ W0.grownBy wr (some w.heap.size)) (fun i _ => at_.length - (intOf i).toNat)
 case atStart => exact ⟨0, by omega, rfl, by rw [fillTo_zero, HXL.out]; exact HO0.out, grown_refl _ _⟩
 case round =>
  obtain ⟨k, hk, rfl, hown, hgr⟩ := hrel
  have HO := Lib.hid hown; have HG := Lib.hid hgr
  have HB := Lib.hid (HW.out.grown hgr HW.out.size (fun j hj => by cases hj; omega))
  by_cases hlt : k < at_.length
  ·obtain ⟨b, off, rfl, _, hcl0⟩ := HC.out k (by rw [ints_len]; exact hlt)
   have hcl := keep_below HB.out _ _ hcl0
   rw [ints_get] at hcl
   obtain ⟨x, hx, hxk⟩ := HX.out k (by rw [HXL.out]; exact hlt) hlt
   have hcw := owns_cell HO.out k (by rw [fillTo_len _ _ _ (by rw [HXL.out]; exact hk), HXL.out]; exact hlt)
   have hfr := World.ownsRow.frozenAt HO.out k
   rw [← hx] at hcl
   have HXK := Lib.hid hxk; clear hown hgr hcl0 hx hxk
   by_cases hin : 0 ≤ x ∧ x < (l.length : Int)
   ·have hi1 := hin.1
    have hi2 := hin.2
    have HIN := Lib.hid hin; clear hin
    have HWR := Lib.hid (Nat.le_refl wr.heap.size)
    go_wp2_with fail
    refine (at_calls _ l _ _ (HU.out.keep (keep_below (HB.out.setCell (Nat.le_refl _) _))) HCL.out).mono ?_
    rintro e w2 ⟨rfl, hB2⟩
    have HS := Lib.hid (World.ownsRow.stored HO.out k (.bool false)).1
    have HO2 := Lib.hid (owns_below2 HS.out hB2)
    have HG2 := Lib.hid (grown_trans (grown_trans HG.out (grown_setCell _ ⟨w.heap.size, k, none⟩ _)) (grown_any (below_grown hB2) _))
    have hcw2 := owns_cell2 HO2.out k (by rw [List.length_set, fillTo_len _ _ _ (by rw [HXL.out]; exact hk), HXL.out]; exact hlt)
    have hfr2 := World.ownsRow.frozenAt HO2.out k
    clear hB2 hcw hfr
    go_wp2
    go_roundw
    case rel =>
     refine ⟨k + 1, by omega, by go_num, ?_, grown_trans HG2.out (grown_setCell _ ⟨w.heap.size, k, none⟩ _)⟩
     have := (World.ownsRow.stored HO2.out k (.bool (sqI l x))).1
     have hq : xs[k]'(by rw [HXL.out]; exact hlt) = .bool (sqI l x) := by rw [HXK.out]
     rw [List.set_set, ← hq, fillTo_set] at this
     rw [← hq]
     exact this
    case measure => simp [intOf]; omega
   ·have HZ := Lib.hid (sqI_out hin)
    have hn : ¬ (0 ≤ x) ∨ (0 ≤ x ∧ ¬ (x < (l.length : Int))) := by omega
    clear hin
    rcases hn with hn | ⟨hn, hn2⟩
    all_goals
     go_wp2_with fail
     go_roundw
     case rel =>
      refine ⟨k + 1, by omega, by go_num, ?_, grown_trans HG.out (grown_setCell _ ⟨w.heap.size, k, none⟩ _)⟩
      have := (World.ownsRow.stored HO.out k (.bool false)).1
      have hq : xs[k]'(by rw [HXL.out]; exact hlt) = .bool false := by rw [HXK.out, HZ.out]
      rw [← hq, fillTo_set] at this
      rw [← hq]
      exact this
     case measure => simp [intOf]; omega
  ·have hkl : k = at_.length := by omega
   have HK := Lib.hid hkl; clear hown hgr hkl
   go_wp2
   go_ret
   refine ⟨_, rfl, ?_, HB.out⟩
   have := Slc.owned HO.out
   rwa [HK.out, ← HXL.out, fillTo_all, HXL.out] at this
end Go.Proofs.YtbdhibcbpgjbmaaGreatDoor

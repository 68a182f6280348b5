/- Merged: FlA, FlB, FlC, FlD, FlE, FlM, FlN, FmI, FmJ, FlS, FlT, FlU, FlV, FmL, FlW, FlX, FlY, FlZ, FmA, FmB, FmC, FmD, FmH, FmK, FlO. -/
import Derived.Test.YtohkohnihaockaaGreatDoorMgVe1
import Derived.Test.YtohkohnihaockaaGreatDoorMgVa1
import Derived.Test.YtohkohnihaockaaGreatDoorMgBv1
import Derived.Test.YtohkohnihaockaaGreatDoorMgSh1
/- Package flat, walked: chosen, of numbers, characters and booleans. -/
namespace Go.Proofs.YtohkohnihaockaaGreatDoor
set_option maxRecDepth 100000
open Go.RowKit
set_option linter.unusedVariables false

theorem atI_in {α : Type} {l : List α} {d e : α} {i : Int} (h : 0 ≤ i ∧ i < (l.length : Int)) : atI l d i = atI l e i := by
  have hk : i.toNat < l.length := by omega
  simp [atI, h.1, List.getElem?_eq_getElem hk]
theorem info_bool1 : (Tryz.prog.info? 4).map (fun i => (i.zero, i.size, i.bytes)) = some (some (.bool false), 1, 1) := by kernel_rfl
theorem run_mkC1 (n : Nat) (hn : n ≤ 2000000) (w : World) : (Instr.makeSlice 69 (.int .i64 (n : Int)) (.int .i64 (n : Int))).run Tryz.prog w = .ok (.slice (some ⟨w.heap.size, 0, none⟩) n n) (w.alloc (.cells (zerosV (.int .i32 0) n) 21)) := by
  obtain ⟨i0, hi, hz0, hz1, hz2⟩ := info_parts info_i32
  have hr := run_make (P := Tryz.prog) w 69 21 i0 _ Tryz.underlying69 hi hz0 .i64 .i64 n n (by omega) (Int.le_refl _) (by rw [hz2]; omega) (by omega)
  simp only [Int.toNat_natCast, hz1] at hr
  exact hr
theorem run_mkB1 (n : Nat) (hn : n ≤ 2000000) (w : World) : (Instr.makeSlice 65 (.int .i64 (n : Int)) (.int .i64 (n : Int))).run Tryz.prog w = .ok (.slice (some ⟨w.heap.size, 0, none⟩) n n) (w.alloc (.cells (zerosV (.bool false) n) 4)) := by
  obtain ⟨i0, hi, hz0, hz1, hz2⟩ := info_parts info_bool1
  have hr := run_make (P := Tryz.prog) w 65 4 i0 _ Tryz.underlying65 hi hz0 .i64 .i64 n n (by omega) (Int.le_refl _) (by rw [hz2]; omega) (by omega)
  simp only [Int.toNat_natCast, hz1] at hr
  exact hr

set_option maxHeartbeats 1000000 in
theorem chF_calls {ok ok2 : Nat → Prop} (u : Value) (V : VV) (v : Value) (at_ : List Int) (w : World) (hu : IsV w ok u V) (hv : Slc w ok2 v at_.length (ints at_)) (hm : at_.length ≤ 2000000) :
    Calls Tryz.prog 77 #[.int .i64 (V.len : Int), .func (.func 78) #[.agg #[u]] #[], v, .float .f64 0] w fun e w' => ∃ v, e = .returned v ∧ Slc w' (fun b => w.heap.size ≤ b) v at_.length (f64s (at_.map (atI V.nums 0))) ∧ Below w.heap.size w w' := by
  obtain ⟨ao, cap, rfl, _, _, _, hc⟩ := hv.opened
  have HC := Lib.hid hc
  have HU := Lib.hid hu
  clear hv hc hu
  have hst := run_store_float
  obtain ⟨xs, hxs⟩ : ∃ xs : List Value, xs = (f64s (at_.map (atI V.nums 0))) := ⟨_, rfl⟩
  have hxl : xs.length = at_.length := by rw [hxs]; simp [f64s]
  have hget : ∀ k (h : k < xs.length) (h2 : k < at_.length), ∃ x : Int, x = at_[k]'h2 ∧ xs[k]'h = .float .f64 (atI V.nums 0 x) := by intro k h h2; refine ⟨_, rfl, ?_⟩; simp [hxs, f64s]
  rw [← hxs]
  have HX := Lib.hid hget
  have HXL := Lib.hid hxl
  have hmk := run_mkF1 at_.length (by omega) w
  clear hxs hget hxl
  obtain ⟨W0, hW0⟩ : ∃ W0, W0 = w.alloc (.cells (zerosV (.float .f64 0) at_.length) 44) := ⟨_, rfl⟩
  have HO0 : Hid (W0.ownsRow w.heap.size 44 1 (.slice (some ⟨w.heap.size, 0, none⟩) at_.length at_.length) at_.length (List.replicate at_.length (.float .f64 0))) := Lib.hid (by rw [hW0]; exact own_make1 _ _ _ (by omega) _ _ (Nat.le_refl _))
  have HW := Lib.hid (show Below w.heap.size w W0 by rw [hW0]; exact below_new _ _)
  go_enter Tryz.func77, Tryz.ntmps77
  go_wp2
  rw [← hW0]
  clear hW0 hmk
  go_loopw [17] (fun i wr => ∃ k : Nat, k ≤ at_.length ∧ i = .int .i64 k ∧ wr.ownsRow w.heap.size 44 1 (.slice (some ⟨w.heap.size, 0, none⟩) at_.length at_.length) at_.length (fillTo xs (.float .f64 0) k) ∧ W0.grownBy wr (some w.heap.size)) (fun i _ => at_.length - (intOf i).toNat)
  case atStart => exact ⟨0, by omega, rfl, by rw [fillTo_zero, HXL.out]; exact HO0.out, grown_refl _ _⟩
  case round =>
    obtain ⟨k, hk, rfl, hown, hgr⟩ := hrel
    have HO := Lib.hid hown
    have HG := Lib.hid hgr
    have HB := Lib.hid (HW.out.grown hgr HW.out.size (fun j hj => by cases hj; omega))
    by_cases hlt : k < at_.length
    · obtain ⟨b, off, rfl, _, hcl0⟩ := HC.out k (by rw [ints_len]; exact hlt)
      have hcl := keep_below HB.out _ _ hcl0
      rw [ints_get] at hcl
      obtain ⟨x, hx, hxk⟩ := HX.out k (by rw [HXL.out]; exact hlt) hlt
      have hcw := owns_cell HO.out k (by rw [fillTo_len _ _ _ (by rw [HXL.out]; exact hk), HXL.out]; exact hlt)
      have hfr := World.ownsRow.frozenAt HO.out k
      rw [← hx] at hcl
      have HXK := Lib.hid hxk
      clear hown hgr hcl0 hx hxk
      by_cases hin : 0 ≤ x ∧ x < (V.len : Int)
      · have hi1 := hin.1
        have hi2 := hin.2
        have HIN := Lib.hid hin
        clear hin
        have HWR := Lib.hid (Nat.le_refl wr.heap.size)
        go_wp2_with fail
        refine (num_calls _ V _ _ (HU.out.grow (HB.out.setCell (Nat.le_refl _) _))).mono ?_
        rintro e w2 ⟨rfl, hB2⟩
        have HS := Lib.hid (World.ownsRow.stored HO.out k (.float .f64 0)).1
        have HO2 := Lib.hid (owns_below2 HS.out hB2)
        have HG2 := Lib.hid (grown_trans (grown_trans HG.out (grown_setCell _ ⟨w.heap.size, k, none⟩ _)) (grown_any (below_grown hB2) _))
        have hcw2 := owns_cell2 HO2.out k (by rw [List.length_set, fillTo_len _ _ _ (by rw [HXL.out]; exact hk), HXL.out]; exact hlt)
        have hfr2 := World.ownsRow.frozenAt HO2.out k
        clear hB2 hcw hfr
        go_wp2
        go_roundw
        case rel =>
          refine ⟨k + 1, by omega, by go_num, ?_, grown_trans HG2.out (grown_setCell _ ⟨w.heap.size, k, none⟩ _)⟩
          have := (World.ownsRow.stored HO2.out k (.float .f64 (atI V.nums 0 x))).1
          have hq : xs[k]'(by rw [HXL.out]; exact hlt) = .float .f64 (atI V.nums 0 x) := by rw [HXK.out]
          rw [List.set_set, ← hq, fillTo_set] at this
          rw [← hq]
          exact this
        case measure => simp [intOf]; omega
      · have HZ := Lib.hid (VV.nums_len hin)
        have hn : ¬ (0 ≤ x) ∨ (0 ≤ x ∧ ¬ (x < (V.len : Int))) := by omega
        clear hin
        rcases hn with hn | ⟨hn, hn2⟩
        all_goals
          go_wp2_with fail
          go_roundw
          case rel =>
            refine ⟨k + 1, by omega, by go_num, ?_, grown_trans HG.out (grown_setCell _ ⟨w.heap.size, k, none⟩ _)⟩
            have := (World.ownsRow.stored HO.out k (.float .f64 0)).1
            have hq : xs[k]'(by rw [HXL.out]; exact hlt) = .float .f64 0 := by rw [HXK.out, HZ.out]
            rw [← hq, fillTo_set] at this
            rw [← hq]
            exact this
          case measure => simp [intOf]; omega
    · have hkl : k = at_.length := by omega
      have HK := Lib.hid hkl
      clear hown hgr hkl
      go_wp2
      go_ret
      refine ⟨_, rfl, ?_, HB.out⟩
      have := Slc.owned HO.out
      rwa [HK.out, ← HXL.out, fillTo_all, HXL.out] at this

set_option maxHeartbeats 1000000 in
theorem chC_calls {ok ok2 : Nat → Prop} (u : Value) (V : VV) (v : Value) (at_ : List Int) (w : World) (hu : IsV w ok u V) (hv : Slc w ok2 v at_.length (ints at_)) (hm : at_.length ≤ 2000000) (hcl : V.text.length = V.len) :
    Calls Tryz.prog 72 #[.int .i64 (V.len : Int), .func (.func 73) #[.agg #[u]] #[], v, .int .i32 32] w fun e w' => ∃ v, e = .returned v ∧ Slc w' (fun b => w.heap.size ≤ b) v at_.length (i32s (at_.map (atI V.text 32))) ∧ Below w.heap.size w w' := by
  obtain ⟨ao, cap, rfl, _, _, _, hc⟩ := hv.opened
  have HC := Lib.hid hc
  have HU := Lib.hid hu
  have HCL := Lib.hid hcl
  clear hv hc hu
  obtain ⟨xs, hxs⟩ : ∃ xs : List Value, xs = (i32s (at_.map (atI V.text 32))) := ⟨_, rfl⟩
  have hxl : xs.length = at_.length := by rw [hxs]; simp [i32s]
  have hget : ∀ k (h : k < xs.length) (h2 : k < at_.length), ∃ x : Int, x = at_[k]'h2 ∧ xs[k]'h = .int .i32 (atI V.text 32 x) := by intro k h h2; refine ⟨_, rfl, ?_⟩; simp [hxs, i32s]
  rw [← hxs]
  have HX := Lib.hid hget
  have HXL := Lib.hid hxl
  have hmk := run_mkC1 at_.length (by omega) w
  clear hxs hget hxl
  obtain ⟨W0, hW0⟩ : ∃ W0, W0 = w.alloc (.cells (zerosV (.int .i32 0) at_.length) 21) := ⟨_, rfl⟩
  have HO0 : Hid (W0.ownsRow w.heap.size 21 1 (.slice (some ⟨w.heap.size, 0, none⟩) at_.length at_.length) at_.length (List.replicate at_.length (.int .i32 0))) := Lib.hid (by rw [hW0]; exact own_make1 _ _ _ (by omega) _ _ (Nat.le_refl _))
  have HW := Lib.hid (show Below w.heap.size w W0 by rw [hW0]; exact below_new _ _)
  go_enter Tryz.func72, Tryz.ntmps72
  go_wp2
  rw [← hW0]
  clear hW0 hmk
  go_loopw [17] (fun i wr => ∃ k : Nat, k ≤ at_.length ∧ i = .int .i64 k ∧ wr.ownsRow w.heap.size 21 1 (.slice (some ⟨w.heap.size, 0, none⟩) at_.length at_.length) at_.length (fillTo xs (.int .i32 0) k) ∧ W0.grownBy wr (some w.heap.size)) (fun i _ => at_.length - (intOf i).toNat)
  case atStart => exact ⟨0, by omega, rfl, by rw [fillTo_zero, HXL.out]; exact HO0.out, grown_refl _ _⟩
  case round =>
    obtain ⟨k, hk, rfl, hown, hgr⟩ := hrel
    have HO := Lib.hid hown
    have HG := Lib.hid hgr
    have HB := Lib.hid (HW.out.grown hgr HW.out.size (fun j hj => by cases hj; omega))
    by_cases hlt : k < at_.length
    · obtain ⟨b, off, rfl, _, hcl0⟩ := HC.out k (by rw [ints_len]; exact hlt)
      have hcl := keep_below HB.out _ _ hcl0
      rw [ints_get] at hcl
      obtain ⟨x, hx, hxk⟩ := HX.out k (by rw [HXL.out]; exact hlt) hlt
      have hcw := owns_cell HO.out k (by rw [fillTo_len _ _ _ (by rw [HXL.out]; exact hk), HXL.out]; exact hlt)
      have hfr := World.ownsRow.frozenAt HO.out k
      rw [← hx] at hcl
      have HXK := Lib.hid hxk
      clear hown hgr hcl0 hx hxk
      by_cases hin : 0 ≤ x ∧ x < (V.len : Int)
      · have hi1 := hin.1
        have hi2 := hin.2
        have HIN := Lib.hid hin
        clear hin
        have HWR := Lib.hid (Nat.le_refl wr.heap.size)
        go_wp2_with fail
        refine (vchar_calls _ V _ _ (HU.out.grow (HB.out.setCell (Nat.le_refl _) _))).mono ?_
        rintro e w2 ⟨rfl, hB2⟩
        have HS := Lib.hid (World.ownsRow.stored HO.out k (.int .i32 32)).1
        have HO2 := Lib.hid (owns_below2 HS.out hB2)
        have HG2 := Lib.hid (grown_trans (grown_trans HG.out (grown_setCell _ ⟨w.heap.size, k, none⟩ _)) (grown_any (below_grown hB2) _))
        have hcw2 := owns_cell2 HO2.out k (by rw [List.length_set, fillTo_len _ _ _ (by rw [HXL.out]; exact hk), HXL.out]; exact hlt)
        have hfr2 := World.ownsRow.frozenAt HO2.out k
        clear hB2 hcw hfr
        go_wp2
        go_roundw
        case rel =>
          refine ⟨k + 1, by omega, by go_num, ?_, grown_trans HG2.out (grown_setCell _ ⟨w.heap.size, k, none⟩ _)⟩
          have := (World.ownsRow.stored HO2.out k (.int .i32 (atI V.text 0 x))).1
          have hq : xs[k]'(by rw [HXL.out]; exact hlt) = .int .i32 (atI V.text 0 x) := by rw [HXK.out]; rw [atI_in (e := 0) (by rw [HCL.out]; exact HIN.out)]
          rw [List.set_set, ← hq, fillTo_set] at this
          rw [← hq]
          exact this
        case measure => simp [intOf]; omega
      · have HZ := Lib.hid (atI_neg (d := (32 : Int)) (by rw [HCL.out]; exact hin))
        have hn : ¬ (0 ≤ x) ∨ (0 ≤ x ∧ ¬ (x < (V.len : Int))) := by omega
        clear hin
        rcases hn with hn | ⟨hn, hn2⟩
        all_goals
          go_wp2_with fail
          go_roundw
          case rel =>
            refine ⟨k + 1, by omega, by go_num, ?_, grown_trans HG.out (grown_setCell _ ⟨w.heap.size, k, none⟩ _)⟩
            have := (World.ownsRow.stored HO.out k (.int .i32 32)).1
            have hq : xs[k]'(by rw [HXL.out]; exact hlt) = .int .i32 32 := by rw [HXK.out, HZ.out]
            rw [← hq, fillTo_set] at this
            rw [← hq]
            exact this
          case measure => simp [intOf]; omega
    · have hkl : k = at_.length := by omega
      have HK := Lib.hid hkl
      clear hown hgr hkl
      go_wp2
      go_ret
      refine ⟨_, rfl, ?_, HB.out⟩
      have := Slc.owned HO.out
      rwa [HK.out, ← HXL.out, fillTo_all, HXL.out] at this

theorem sqI_out {l : List Bool} {i : Int} (h : ¬ (0 ≤ i ∧ i < (l.length : Int))) : sqI l i = false := by
  by_cases h0 : 0 ≤ i
  · have : l.length ≤ i.toNat := by omega
    simp [sqI, h0, sq, List.getElem?_eq_none this]
  · simp [sqI, h0]
set_option maxHeartbeats 1000000 in
theorem chB_calls {ok2 : Nat → Prop} (u : Value) (l : List Bool) (v : Value) (at_ : List Int) (w : World) (hu : IsBits w u l) (hv : Slc w ok2 v at_.length (ints at_)) (hm : at_.length ≤ 2000000) (hcl : l.length ≤ 1048576) :
    Calls Tryz.prog 70 #[.int .i64 (l.length : Int), .func (.func 71) #[u] #[], v, .bool false] w fun e w' => ∃ v, e = .returned v ∧ Slc w' (fun b => w.heap.size ≤ b) v at_.length (bools (at_.map (sqI l))) ∧ Below w.heap.size w w' := by
  obtain ⟨ao, cap, rfl, _, _, _, hc⟩ := hv.opened
  have HC := Lib.hid hc
  have HU := Lib.hid hu
  have HCL := Lib.hid hcl
  clear hv hc hu
  obtain ⟨xs, hxs⟩ : ∃ xs : List Value, xs = (bools (at_.map (sqI l))) := ⟨_, rfl⟩
  have hxl : xs.length = at_.length := by rw [hxs]; simp [bools]
  have hget : ∀ k (h : k < xs.length) (h2 : k < at_.length), ∃ x : Int, x = at_[k]'h2 ∧ xs[k]'h = .bool (sqI l x) := by intro k h h2; refine ⟨_, rfl, ?_⟩; simp [hxs, bools]
  rw [← hxs]
  have HX := Lib.hid hget
  have HXL := Lib.hid hxl
  have hmk := run_mkB1 at_.length (by omega) w
  clear hxs hget hxl
  obtain ⟨W0, hW0⟩ : ∃ W0, W0 = w.alloc (.cells (zerosV (.bool false) at_.length) 4) := ⟨_, rfl⟩
  have HO0 : Hid (W0.ownsRow w.heap.size 4 1 (.slice (some ⟨w.heap.size, 0, none⟩) at_.length at_.length) at_.length (List.replicate at_.length (.bool false))) := Lib.hid (by rw [hW0]; exact own_make1 _ _ _ (by omega) _ _ (Nat.le_refl _))
  have HW := Lib.hid (show Below w.heap.size w W0 by rw [hW0]; exact below_new _ _)
  go_enter Tryz.func70, Tryz.ntmps70
  go_wp2
  rw [← hW0]
  clear hW0 hmk
  go_loopw [17] (fun i wr => ∃ k : Nat, k ≤ at_.length ∧ i = .int .i64 k ∧ wr.ownsRow w.heap.size 4 1 (.slice (some ⟨w.heap.size, 0, none⟩) at_.length at_.length) at_.length (fillTo xs (.bool false) k) ∧ W0.grownBy wr (some w.heap.size)) (fun i _ => at_.length - (intOf i).toNat)
  case atStart => exact ⟨0, by omega, rfl, by rw [fillTo_zero, HXL.out]; exact HO0.out, grown_refl _ _⟩
  case round =>
    obtain ⟨k, hk, rfl, hown, hgr⟩ := hrel
    have HO := Lib.hid hown
    have HG := Lib.hid hgr
    have HB := Lib.hid (HW.out.grown hgr HW.out.size (fun j hj => by cases hj; omega))
    by_cases hlt : k < at_.length
    · obtain ⟨b, off, rfl, _, hcl0⟩ := HC.out k (by rw [ints_len]; exact hlt)
      have hcl := keep_below HB.out _ _ hcl0
      rw [ints_get] at hcl
      obtain ⟨x, hx, hxk⟩ := HX.out k (by rw [HXL.out]; exact hlt) hlt
      have hcw := owns_cell HO.out k (by rw [fillTo_len _ _ _ (by rw [HXL.out]; exact hk), HXL.out]; exact hlt)
      have hfr := World.ownsRow.frozenAt HO.out k
      rw [← hx] at hcl
      have HXK := Lib.hid hxk
      clear hown hgr hcl0 hx hxk
      by_cases hin : 0 ≤ x ∧ x < (l.length : Int)
      · have hi1 := hin.1
        have hi2 := hin.2
        have HIN := Lib.hid hin
        clear hin
        have HWR := Lib.hid (Nat.le_refl wr.heap.size)
        go_wp2_with fail
        refine (at_calls _ l _ _ (HU.out.keep (keep_below (HB.out.setCell (Nat.le_refl _) _))) HCL.out).mono ?_
        rintro e w2 ⟨rfl, hB2⟩
        have HS := Lib.hid (World.ownsRow.stored HO.out k (.bool false)).1
        have HO2 := Lib.hid (owns_below2 HS.out hB2)
        have HG2 := Lib.hid (grown_trans (grown_trans HG.out (grown_setCell _ ⟨w.heap.size, k, none⟩ _)) (grown_any (below_grown hB2) _))
        have hcw2 := owns_cell2 HO2.out k (by rw [List.length_set, fillTo_len _ _ _ (by rw [HXL.out]; exact hk), HXL.out]; exact hlt)
        have hfr2 := World.ownsRow.frozenAt HO2.out k
        clear hB2 hcw hfr
        go_wp2
        go_roundw
        case rel =>
          refine ⟨k + 1, by omega, by go_num, ?_, grown_trans HG2.out (grown_setCell _ ⟨w.heap.size, k, none⟩ _)⟩
          have := (World.ownsRow.stored HO2.out k (.bool (sqI l x))).1
          have hq : xs[k]'(by rw [HXL.out]; exact hlt) = .bool (sqI l x) := by rw [HXK.out]
          rw [List.set_set, ← hq, fillTo_set] at this
          rw [← hq]
          exact this
        case measure => simp [intOf]; omega
      · have HZ := Lib.hid (sqI_out hin)
        have hn : ¬ (0 ≤ x) ∨ (0 ≤ x ∧ ¬ (x < (l.length : Int))) := by omega
        clear hin
        rcases hn with hn | ⟨hn, hn2⟩
        all_goals
          go_wp2_with fail
          go_roundw
          case rel =>
            refine ⟨k + 1, by omega, by go_num, ?_, grown_trans HG.out (grown_setCell _ ⟨w.heap.size, k, none⟩ _)⟩
            have := (World.ownsRow.stored HO.out k (.bool false)).1
            have hq : xs[k]'(by rw [HXL.out]; exact hlt) = .bool false := by rw [HXK.out, HZ.out]
            rw [← hq, fillTo_set] at this
            rw [← hq]
            exact this
          case measure => simp [intOf]; omega
    · have hkl : k = at_.length := by omega
      have HK := Lib.hid hkl
      clear hown hgr hkl
      go_wp2
      go_ret
      refine ⟨_, rfl, ?_, HB.out⟩
      have := Slc.owned HO.out
      rwa [HK.out, ← HXL.out, fillTo_all, HXL.out] at this
end Go.Proofs.YtohkohnihaockaaGreatDoor

/- Package flat, walked: chosen, of boxes. -/
namespace Go.Proofs.YtohkohnihaockaaGreatDoor
set_option maxRecDepth 100000
open Go.RowKit
set_option linter.unusedVariables false

theorem arrs_of {w : World} {ok : Nat → Prop} {g : Nat} {l : List (List Int × VV)} {A B : Nat → Value} (hl : l.length ≤ 2000000)
    (ho : w.ownsRow g 33 2 (.slice (some ⟨g, 0, Option.none⟩) l.length l.length) l.length (pairL l.length A B)) (hok : ok g) (h : ∀ i p, l[i]? = some p → IsArr w ok (A i) (B i) p) :
    Arrs w ok (.slice (some ⟨g, 0, Option.none⟩) l.length l.length) l := by
  refine ⟨_, _, A, B, rfl, Nat.le_refl _, by unfold maxLen; omega, fun i hi => ⟨g, 0, rfl, hok, ?_, ?_⟩, fun i hi => (h i _ (List.getElem?_eq_getElem hi)).1, fun i hi => (h i _ (List.getElem?_eq_getElem hi)).2⟩
  · rw [Nat.zero_add, owns_cell2 ho (i * 2) (by rw [pairL_len]; omega), pairL_fst]
  · rw [Nat.zero_add, owns_cell2 ho (i * 2 + 1) (by rw [pairL_len]; omega), pairL_snd]
set_option maxHeartbeats 4000000 in
theorem chA_calls {ok ok2 : Nat → Prop} (u : Value) (V : VV) (v shf uf : Value) (F : List Int × VV) (at_ : List Int) (w : World) (hu : IsV w ok u V) (hok : V.ok) (hcl : V.boxs.length = V.len) (hF : IsArr w ok shf uf F) (hv : Slc w ok2 v at_.length (ints at_)) (hm : at_.length ≤ 2000000) :
    Calls Tryz.prog 74 #[.int .i64 (V.len : Int), .func (.func 75) #[.agg #[u]] #[], v, .agg #[shf, uf]] w fun e w' => ∃ v, e = .returned v ∧ Arrs w' (fun b => ok b ∨ w.heap.size ≤ b) v (at_.map (atI V.boxs F)) ∧ Below w.heap.size w w' := by
  obtain ⟨ao, cap, rfl, _, _, _, hc⟩ := hv.opened
  have HC := Lib.hid hc
  have HU := Lib.hid (hu.lt)
  have HOK := Lib.hid hok
  have HCL := Lib.hid hcl
  have HFF := Lib.hid (show IsArr w (fun b => ok b ∧ b < w.heap.size) shf uf F from hF.keep (Kept.refl _ _) (fun b h h2 => ⟨h2, h⟩))
  have hsf := hF.2.store
  obtain ⟨fo, fc, rfl, _⟩ := hF.1.opened
  clear hv hc hu hok hcl hF
  obtain ⟨w1, hw1⟩ : ∃ w1, w1 = w.alloc (.cells #[.slice fo F.1.length fc, uf] 33) := ⟨_, rfl⟩
  have HB1 := Lib.hid (show Below w.heap.size w w1 by rw [hw1]; exact below_new _ _)
  have HAT := Lib.hid (show At2 w1 w.heap.size (.slice fo F.1.length fc) uf by rw [hw1]; exact At2.new _ _ _ _)
  have HSE := Lib.hid (show w1.heap.size = w.heap.size + 1 by rw [hw1]; simp)
  replace HU := Lib.hid (show IsV w1 (fun b => ok b ∧ b < w.heap.size) u V from HU.out.grow HB1.out)
  replace HFF := Lib.hid (show IsArr w1 (fun b => ok b ∧ b < w.heap.size) (.slice fo F.1.length fc) uf F from HFF.out.keep (Kept.below HB1.out) (fun _ _ h => h))
  replace HC := Lib.hid (fun i h => by
    obtain ⟨b, off, e, h1, h2⟩ := HC.out i h
    exact (⟨b, off, e, keep_below HB1.out _ _ h2⟩ : ∃ b off, ao = some ⟨b, off, Option.none⟩ ∧ w1.cell? ⟨b, off + i, Option.none⟩ = some ((ints at_)[i]'h)))
  have hmk := run_mkA at_.length (by omega) w1
  rw [hw1] at hmk
  obtain ⟨L, hL⟩ : ∃ L, L = at_.map (atI V.boxs F) := ⟨_, rfl⟩
  have HLL := Lib.hid (show L.length = at_.length by rw [hL]; simp)
  have HLX := Lib.hid (show ∀ k (h : k < at_.length), ∃ x, x = at_[k] ∧ L[k]? = some (atI V.boxs F x) by intro k h; exact ⟨_, rfl, by rw [hL]; simp [h]⟩)
  rw [← hL]
  clear hL
  obtain ⟨W0, hW0⟩ : ∃ W0, W0 = w1.alloc (.cells (zerosA at_.length) 33) := ⟨_, rfl⟩
  have HO0 := Lib.hid (show W0.ownsRow (w.heap.size + 1) 33 2 (.slice (some ⟨(w.heap.size + 1), 0, Option.none⟩) at_.length at_.length) at_.length (pairL at_.length (fun _ => .slice Option.none 0 0) (upTo (fun _ => .nilIface) 0)) by rw [hW0, ← HSE.out]; exact own_mkA _ (by omega) _ _ (Nat.le_refl _) _)
  have HW := Lib.hid (show Below (w.heap.size + 1) w1 W0 by rw [hW0, ← HSE.out]; exact below_new _ _)
  have HBX := Lib.hid (show ∀ W, Below (w.heap.size + 1) w1 W → Below w1.heap.size w1 W from fun W h => by rw [HSE.out]; exact h)
  rw [hw1] at hW0
  go_enter Tryz.func74, Tryz.ntmps74
  go_wp2
  rw [← hW0]
  clear hw1
  clear hW0 hmk
  go_loopw [17] (fun i wr => ∃ (k : Nat) (A B : Nat → Value), k ≤ at_.length ∧ i = .int .i64 k ∧ wr.ownsRow (w.heap.size + 1) 33 2 (.slice (some ⟨(w.heap.size + 1), 0, Option.none⟩) at_.length at_.length) at_.length (pairL at_.length A B) ∧ (∀ i p, i < k → L[i]? = some p → IsArr wr (fun b => (ok b ∧ b < w.heap.size) ∨ (w.heap.size + 1) < b) (A i) (B i) p) ∧ W0.grownBy wr (some (w.heap.size + 1))) (fun i _ => at_.length - (intOf i).toNat)
  case atStart => exact ⟨0, _, _, by omega, rfl, HO0.out, fun i _ h => absurd h (by omega), grown_refl _ _⟩
  case round =>
    obtain ⟨k, A, B, hk, rfl, hown, hA, hgr⟩ := hrel
    have HO := Lib.hid hown
    have HG := Lib.hid hgr
    have HA := Lib.hid hA
    have HB := Lib.hid (show Below (w.heap.size + 1) w1 wr from HW.out.grown hgr (by have := HW.out.size; have := HSE.out; omega) (fun j hj => by cases hj; omega))
    have hgs := (hown.lt (w.heap.size + 1) rfl).2
    by_cases hlt : k < at_.length
    · obtain ⟨b, off, rfl, hcl0⟩ := HC.out k (by rw [ints_len]; exact hlt)
      have hcl := keep_below (HBX.out _ HB.out) _ _ hcl0
      have f0 := (HAT.out.below (HBX.out _ HB.out)).2.1
      have f1 := (HAT.out.below (HBX.out _ HB.out)).2.2.1
      rw [ints_get] at hcl
      obtain ⟨x, hx, hlx⟩ := HLX.out k hlt
      rw [← hx] at hcl
      have HLK := Lib.hid hlx
      have e1 := owns_cell2 HO.out (k * 2) (by rw [pairL_len]; omega)
      have e2 := owns_cell2 HO.out (k * 2 + 1) (by rw [pairL_len]; omega)
      have z1 := World.ownsRow.frozenAt HO.out (k * 2)
      have z2 := World.ownsRow.frozenAt HO.out (k * 2 + 1)
      have HS := Lib.hid (show ((wr.setCell ⟨(w.heap.size + 1), k * 2, Option.none⟩ (.slice fo F.1.length fc)).setCell ⟨(w.heap.size + 1), k * 2 + 1, Option.none⟩ uf).ownsRow (w.heap.size + 1) 33 2 (.slice (some ⟨(w.heap.size + 1), 0, Option.none⟩) at_.length at_.length) at_.length (pairL at_.length (upd A k (.slice fo F.1.length fc)) (upd B k uf)) by
        have q1 := (World.ownsRow.stored HO.out (k * 2) (.slice fo F.1.length fc)).1
        have q2 := (World.ownsRow.stored q1 (k * 2 + 1) uf).1
        rw [pairL_set1, pairL_set2] at q2
        exact q2)
      have HGS := Lib.hid (grown_trans (grown_trans HG.out (grown_setCell _ ⟨(w.heap.size + 1), k * 2, Option.none⟩ (.slice fo F.1.length fc))) (grown_setCell _ ⟨(w.heap.size + 1), k * 2 + 1, Option.none⟩ uf))
      have HBS := Lib.hid (show Below (w.heap.size + 1) w1 ((wr.setCell ⟨w.heap.size + 1, k * 2, Option.none⟩ (.slice fo F.1.length fc)).setCell ⟨w.heap.size + 1, k * 2 + 1, Option.none⟩ uf) from (HB.out.setCell (Nat.le_refl _) _).setCell (Nat.le_refl _) _)
      have HAS := Lib.hid (show ∀ i p, i < k → L[i]? = some p → IsArr ((wr.setCell ⟨(w.heap.size + 1), k * 2, Option.none⟩ (.slice fo F.1.length fc)).setCell ⟨(w.heap.size + 1), k * 2 + 1, Option.none⟩ uf) (fun b => (ok b ∧ b < w.heap.size) ∨ (w.heap.size + 1) < b) (A i) (B i) p from fun i p hi hp => (HA.out i p hi hp).keep ((Kept.setCell _ _ _ (by simp)).trans (Kept.setCell _ _ _ (by simp))) (fun _ _ h => h))
      clear hown hgr hcl0 hx hlx hA
      by_cases hin : 0 ≤ x ∧ x < (V.len : Int)
      · have hi1 := hin.1
        have hi2 := hin.2
        have HIN := Lib.hid hin
        clear hin
        go_wp2_with fail
        refine (vbox_calls _ V _ _ (HU.out.grow (HBX.out _ HBS.out)) HOK.out).mono ?_
        rintro e w2 ⟨sh', x', rfl, hAR, hB2⟩
        have hsx := hAR.2.store
        have HAR := Lib.hid hAR
        obtain ⟨so, sc, rfl, _⟩ := hAR.1.opened
        have HO2 := Lib.hid (owns_below2 HS.out hB2)
        have HG2 := Lib.hid (grown_trans HGS.out (grown_any (below_grown hB2) _))
        have HA2 := Lib.hid (show ∀ i p, i < k → L[i]? = some p → IsArr w2 (fun b => (ok b ∧ b < w.heap.size) ∨ (w.heap.size + 1) < b) (A i) (B i) p from fun i p hi hp => (HAS.out i p hi hp).keep (Kept.below hB2) (fun _ _ h => h))
        clear hB2 hAR e1 e2 z1 z2
        have e1 := owns_cell2 HO2.out (k * 2) (by rw [pairL_len]; omega)
        have e2 := owns_cell2 HO2.out (k * 2 + 1) (by rw [pairL_len]; omega)
        have z1 := World.ownsRow.frozenAt HO2.out (k * 2)
        have z2 := World.ownsRow.frozenAt HO2.out (k * 2 + 1)
        go_wp2
        go_roundw
        case rel =>
          refine ⟨k + 1, upd (upd A k (.slice fo F.1.length fc)) k (.slice so (atI V.boxs ([], .none) x).1.length sc), upd (upd B k uf) k x', by omega, by go_num, ?_, ?_, grown_trans (grown_trans HG2.out (grown_setCell _ ⟨(w.heap.size + 1), k * 2, Option.none⟩ _)) (grown_setCell _ ⟨(w.heap.size + 1), k * 2 + 1, Option.none⟩ _)⟩
          · have q1 := (World.ownsRow.stored HO2.out (k * 2) (.slice so (atI V.boxs ([], .none) x).1.length sc)).1
            have q2 := (World.ownsRow.stored q1 (k * 2 + 1) x').1
            rw [pairL_set1, pairL_set2] at q2
            exact q2
          · intro i p hi hp
            have kk : ∀ a y, Kept (fun b => (ok b ∧ b < w.heap.size) ∨ (w.heap.size + 1) < b) w2 ((w2.setCell ⟨(w.heap.size + 1), k * 2, Option.none⟩ a).setCell ⟨(w.heap.size + 1), k * 2 + 1, Option.none⟩ y) := fun a y => (Kept.setCell _ _ _ (by simp)).trans (Kept.setCell _ _ _ (by simp))
            by_cases e : i = k
            · subst e
              simp only [upd, if_true]
              rw [HLK.out] at hp
              obtain rfl := Option.some.inj hp
              rw [atI_in (d := F) (e := ([], VV.none)) (by rw [HCL.out]; exact HIN.out)]
              exact (HAR.out.keep (ok' := fun b => (ok b ∧ b < w.heap.size) ∨ w.heap.size + 1 < b) (Kept.refl _ _) (fun b _ h => by
                rcases h with h | h
                · exact Or.inl h.1
                · exact Or.inr (by simp at h; omega))).keep (kk _ _) (fun _ _ h => h)
            · simp only [upd, if_neg e]
              exact (HA2.out i p (by omega) hp).keep (kk _ _) (fun _ _ h => h)
        case measure => simp [intOf]; omega
      · have HZ := Lib.hid (atI_neg (d := F) (l := V.boxs) (by rw [HCL.out]; exact hin))
        have hn : ¬ (0 ≤ x) ∨ (0 ≤ x ∧ ¬ (x < (V.len : Int))) := by omega
        clear hin
        rcases hn with hn | ⟨hn, hn2⟩
        all_goals
          go_wp2_with fail
          go_roundw
          case rel =>
            refine ⟨k + 1, _, _, by omega, by go_num, HS.out, ?_, HGS.out⟩
            intro i p hi hp
            by_cases e : i = k
            · subst e
              simp only [upd, if_true]
              rw [HLK.out, HZ.out] at hp
              obtain rfl := Option.some.inj hp
              exact HFF.out.keep (Kept.below (HBX.out _ HBS.out)) (fun b _ h => .inl h)
            · simp only [upd, if_neg e]
              exact HAS.out i p (by omega) hp
          case measure => simp [intOf]; omega
    · have hkl : k = at_.length := by omega
      have HK := Lib.hid hkl
      clear hown hA hgr hkl
      go_wp2
      go_ret
      refine ⟨_, rfl, ?_, HB1.out.trans (HB.out.mono (Nat.le_succ _))⟩
      have := HO.out
      rw [← HLL.out] at this ⊢
      refine arrs_of (by rw [HLL.out]; exact hm) this (.inr (Nat.le_succ _)) (fun i p hp => (HA.out i p ?_ hp).keep (Kept.refl _ _) (fun b _ h => by rcases h with h | h; exact .inl h.1; exact .inr (by omega)))
      have := List.getElem?_eq_some_iff.1 hp
      obtain ⟨h, _⟩ := this
      rw [HK.out, ← HLL.out]; exact h
end Go.Proofs.YtohkohnihaockaaGreatDoor

/- Package flat, walked: Blank, clamp, selected, Pick. -/
namespace Go.Proofs.YtohkohnihaockaaGreatDoor
set_option maxRecDepth 100000
open Go.RowKit Fl
set_option linter.unusedVariables false

def blankA : List Int × VV := ([0], .bits [])

set_option maxHeartbeats 4000000 in
theorem fblank_calls (w : World) : Calls Tryz.prog 76 #[] w (ArrNew blankA w) := by
  obtain ⟨W1, hW1⟩ : ∃ W1, W1 = (w.alloc (.cells #[.slice none 0 0, .nilIface] 33)).alloc (.cells #[.int .i64 0] 3) := ⟨_, rfl⟩
  have HB := Lib.hid (show Below w.heap.size w W1 by rw [hW1]; exact (below_new _ _).alloc (by simp) _)
  have HR := Lib.hid (show At2 W1 w.heap.size (.slice none 0 0) .nilIface by rw [hW1]; exact (At2.new w _ _ _).below (below_new _ _))
  have HSZ := Lib.hid (show W1.heap.size = w.heap.size + 2 by rw [hW1]; simp)
  have HL := Lib.hid (show Slc W1 (fun b => b = w.heap.size + 1) (.slice (some ⟨w.heap.size + 1, 0, none⟩) 1 1) 1 (ints [0]) by
    have h := Slc.owned (World.ownsRow_lit (base := w.heap.size + 1) (e := 3) (size := 1) (w.alloc (.cells #[.slice none 0 0, .nilIface] 33)) #[.int .i64 0] 1 (by simp) (by unfold maxLen; omega) rfl)
    rw [hW1]
    simp only [World.size_alloc] at h
    refine Slc.keep (ok := fun b => w.heap.size + 1 ≤ b) (Kept.refl _ _) (fun b hb h => ?_) h
    simp at hb
    omega)
  have hfold := hW1.symm
  clear hW1
  go_enter Tryz.func76, Tryz.ntmps76
  go_wp2_with fail
  clear hfold
  refine (vnone_calls 0 _).mono ?_
  rintro e W2 ⟨u', rfl, hu, hB2⟩
  have hsu := hu.store
  have HU := Lib.hid (show IsV W2 (fun b => W1.heap.size ≤ b) u' (.bits []) from hu)
  have HL2 := Lib.hid (HL.out.below hB2)
  have HR2 := Lib.hid (HR.out.below hB2)
  have HB2 := Lib.hid (HB.out.trans (hB2.mono HB.out.size))
  have c0 := HR2.out.2.1
  have c1 := HR2.out.2.2.1
  have z0 := HR2.out.2.2.2 0
  have z1 := HR2.out.2.2.2 1
  have HSW := Lib.hid HR.out.1
  clear hB2 hu
  go_wp2_with fail
  refine bodyPost_ret (v := .agg #[.slice (some ⟨w.heap.size + 1, 0, none⟩) 1 1, u']) (by simp [results, Tryz.results76, go_sem, c0, c1]) rfl ⟨_, 1, u', rfl, ⟨?_, ?_⟩, (HB2.out.setCell (Nat.le_refl _) _).setCell (Nat.le_refl _) _⟩
  · exact HL2.out.keep ((Kept.setCell _ _ _ (by simp)).trans (Kept.setCell _ _ _ (by simp))) (fun b _ (h : b = w.heap.size + 1) => by omega)
  · exact HU.out.keep ((Kept.setCell _ _ _ (by have := HSW.out; simp <;> omega)).trans (Kept.setCell _ _ _ (by have := HSW.out; simp <;> omega))) (fun b _ (h : W1.heap.size ≤ b) => by have := HSZ.out; omega)

theorem fnumbers_calls {ok : Nat → Prop} (v : Value) (l : List Nat) (w : World) (hv : Slc w ok v l.length (f64s l)) (hm : l.length ≤ 1048576) (hf : ∀ x ∈ l, Fnt x) (hT : TabAt w) :
    Calls Tryz.prog 33 #[v] w fun e w' => ∃ u, e = .returned (.agg #[u]) ∧ IsV w' (fun b => w.heap.size ≤ b) u (VV.floats (l.map ze)).sq ∧ Below w.heap.size w w' := by
  have HV := Lib.hid hv
  have HF := Lib.hid hf
  have HT := Lib.hid hT
  obtain ⟨ao, cap, rfl, _⟩ := hv.opened
  clear hv hf hT
  obtain ⟨W1, hW1⟩ : ∃ W1, W1 = w.alloc (.cells #[.nilIface] 31) := ⟨_, rfl⟩
  have HB := Lib.hid (show Below w.heap.size w W1 by rw [hW1]; exact below_new _ _)
  have HR := Lib.hid (show At1 W1 w.heap.size .nilIface by rw [hW1]; exact At1.new w _ _)
  have hfold := hW1.symm
  clear hW1
  go_enter Tryz.func33, Tryz.ntmps33
  go_wp2_with fail
  clear hfold
  refine (numbers_yes _ l _ (HV.out.below HB.out) hm HF.out (fun j hj => keep_below HB.out _ _ (HT.out j hj))).mono ?_
  rintro e W2 ⟨u', rfl, hu, hB2⟩
  have hsu := hu.store
  have HU := Lib.hid (show IsV W2 (fun b => W1.heap.size ≤ b) u' _ from hu)
  obtain ⟨W3, hW3⟩ : ∃ W3, W3 = W2.alloc (.cells #[u'] 31) := ⟨_, rfl⟩
  have HN := Lib.hid (show Below W2.heap.size W2 W3 by rw [hW3]; exact below_new _ _)
  have HU3 := Lib.hid (HU.out.grow HN.out)
  have HV := Lib.hid (show At1 W3 W2.heap.size u' by rw [hW3]; exact At1.new _ _ _)
  have HB3 := Lib.hid ((HB.out.trans (hB2.mono HB.out.size)).trans (HN.out.mono (Nat.le_trans HB.out.size hB2.size)))
  obtain ⟨_, r0, rf⟩ := (HR.out.below hB2).below HN.out
  have rf0 := rf 0
  have HSZ := Lib.hid HR.out.1
  obtain ⟨_, v0, _⟩ := HV.out
  have HFW := Lib.hid hW3.symm
  clear hu hB2 hW3 rf
  have hfold := HFW.out
  go_wp2_with fail
  refine bodyPost_ret (v := .agg #[u']) (by simp [results, Tryz.results33, go_sem, r0]) rfl ⟨_, rfl, ?_, HB3.out.setCell (Nat.le_refl _) _⟩
  exact HU3.out.keep (Kept.setCell _ _ _ (by have := HSZ.out; simp <;> omega)) (fun b _ (h : W1.heap.size ≤ b) => by have := HSZ.out; have := HB.out.size; omega)
/-- Elements at some places. -/
noncomputable def VV.sel (V : VV) (at_ : List Int) : VV :=
  match V with
  | .bits l => .bits (at_.map (sqI l)) | .chars l => .chars (at_.map (atI l 32)) | .boxes l => .boxes (at_.map (atI l blankA))
  | V => (VV.floats (at_.map (atI V.nums 0))).sq
theorem VV.sel_bits {V : VV} (h : V.isBit = true) (at_ : List Int) : V.sel at_ = .bits (at_.map (sqI V.packed)) := by cases V <;> simp_all [VV.isBit, VV.sel, VV.packed]
theorem VV.sel_chars {V : VV} (h : V.cls = 1) (at_ : List Int) : V.sel at_ = .chars (at_.map (atI V.text 32)) := by cases V <;> simp_all [VV.cls, VV.sel, VV.text]
theorem VV.sel_boxes {V : VV} (h : V.cls = 2) (at_ : List Int) : V.sel at_ = .boxes (at_.map (atI V.boxs blankA)) := by cases V <;> simp_all [VV.cls, VV.sel, VV.boxs]
theorem VV.sel_nums {V : VV} (h : V.cls = 0) (h2 : V.isBit = false) (at_ : List Int) : V.sel at_ = (VV.floats (at_.map (atI V.nums 0))).sq := by cases V <;> simp_all [VV.cls, VV.sel, VV.isBit]
theorem VV.text_len {V : VV} (h : V.cls = 1) : V.text.length = V.len := by cases V <;> simp_all [VV.cls, VV.text, VV.len]
theorem VV.packed_len {V : VV} (h : V.isBit = true) : V.packed.length = V.len := by cases V <;> simp_all [VV.isBit, VV.packed, VV.len]
theorem atI_num {l : List Nat} {i : Int} (h : ∀ x ∈ l, Num x) : Num (atI l 0 i) := by
  by_cases hin : 0 ≤ i ∧ i < (l.length : Int)
  · obtain ⟨k, rfl⟩ := Int.eq_ofNat_of_zero_le hin.1
    have hk : k < l.length := by omega
    rw [show atI l 0 (k : Int) = l[k] from atI_nat hk]
    exact h _ (List.getElem_mem hk)
  · rw [atI_neg hin]; exact ⟨fin_zero, fun _ => rfl⟩
theorem map_atI_num {l : List Nat} {at_ : List Int} (h : ∀ x ∈ l, Num x) : ∀ x ∈ at_.map (atI l 0), Num x := by
  intro x hx
  obtain ⟨i, _, rfl⟩ := List.mem_map.1 hx
  exact atI_num h
theorem VV.packed_ok {V : VV} (h : V.ok) : V.packed.length ≤ 1048576 := by
  cases V <;> simp_all [VV.ok, VV.packed]
end Go.Proofs.YtohkohnihaockaaGreatDoor

/- Package flat, walked: selected, Pick. -/
namespace Go.Proofs.YtohkohnihaockaaGreatDoor
set_option maxRecDepth 100000
open Go.RowKit Fl
set_option linter.unusedVariables false

theorem VV.cls_cases (V : VV) : V.cls = 0 ∨ V.cls = 1 ∨ V.cls = 2 := by cases V <;> simp [VV.cls]
theorem At1.put1 {w : World} {b : Nat} {u : Value} (h : At1 w b u) (x : Value) : At1 (w.setCell ⟨b, 0, none⟩ x) b x :=
  ⟨by simpa using h.1, World.cell?_setCell_same _ _ _ h.2.1, fun o => by simpa using h.2.2 o⟩
theorem atI_boxs {l : List (List Int × VV)} {at_ : List Int} (h : ∀ a ∈ l, a.1.length ≤ 1048576) : ∀ p ∈ at_.map (atI l blankA), p.1.length ≤ 1048576 := by
  intro p hp
  obtain ⟨i, _, rfl⟩ := List.mem_map.1 hp
  by_cases hin : 0 ≤ i ∧ i < (l.length : Int)
  · obtain ⟨k, rfl⟩ := Int.eq_ofNat_of_zero_le hin.1
    have hk : k < l.length := by omega
    rw [show atI l blankA (k : Int) = l[k] from atI_nat hk]
    exact h _ (List.getElem_mem hk)
  · rw [atI_neg hin]; simp [blankA]
set_option maxHeartbeats 4000000 in
theorem selected_calls {ok ok2 : Nat → Prop} (u : Value) (V : VV) (v : Value) (at_ : List Int) (w : World) (hu : IsV w ok u V) (hok : V.ok) (hn : V.nm) (hb : ∀ a ∈ V.boxs, a.1.length ≤ 1048576) (hv : Slc w ok2 v at_.length (ints at_)) (hm : at_.length ≤ 1048576) (hT : TabAt w) :
    Calls Tryz.prog 44 #[.agg #[u], v] w fun e w' => ∃ u', e = .returned (.agg #[u']) ∧ IsV w' (fun b => (ok b ∧ b < w.heap.size) ∨ w.heap.size ≤ b) u' (V.sel at_) ∧ Below w.heap.size w w' := by
  obtain ⟨ao, cap, rfl, _⟩ := hv.opened
  have hsu := hu.store
  obtain ⟨W1, hW1⟩ : ∃ W1, W1 = (w.alloc (.cells #[u] 31)).alloc (.cells #[.nilIface] 31) := ⟨_, rfl⟩
  have HB := Lib.hid (show Below w.heap.size w W1 by rw [hW1]; exact (below_new _ _).alloc (by simp) _)
  have HSZ := Lib.hid (show W1.heap.size = w.heap.size + 2 by rw [hW1]; simp)
  have HA := Lib.hid (show At1 W1 w.heap.size u by rw [hW1]; exact (At1.new w _ _).below (below_new _ _))
  have HR := Lib.hid (show At1 W1 (w.heap.size + 1) .nilIface by rw [hW1]; have := At1.new (w.alloc (.cells #[u] 31)) .nilIface 31; simpa using this)
  have HU := Lib.hid (show IsV W1 (fun b => ok b ∧ b < w.heap.size) u V from hu.lt.grow HB.out)
  have HV := Lib.hid (show Slc W1 (fun b => b < w.heap.size) (.slice ao at_.length cap) at_.length (ints at_) from (hv.keep (Kept.refl _ _) (fun b h _ => h)).below HB.out)
  have HT := Lib.hid (show TabAt W1 from fun j hj => keep_below HB.out _ _ (hT j hj))
  have HOK := Lib.hid hok
  have HN := Lib.hid hn
  have HBX := Lib.hid hb
  have HW1 := Lib.hid (Below.refl W1.heap.size W1)
  have hfold := hW1.symm
  clear hu hv hT hok hn hb hW1
  have cHA0 := HA.out.2.1
  have cHR0 := HR.out.2.1
  go_enter Tryz.func44, Tryz.ntmps44
  go_wp2_with fail
  clear hfold
  refine (vpacked_calls _ V _ HU.out).mono ?_
  rintro e W11 ⟨vb, rfl, hbt, hB⟩
  clear cHA0 cHR0
  replace HA := Lib.hid (HA.out.below hB)
  replace HR := Lib.hid (HR.out.below hB)
  replace HB := Lib.hid (HB.out.trans (hB.mono HB.out.size))
  replace HW1 := Lib.hid (HW1.out.trans (hB.mono HW1.out.size))
  replace HU := Lib.hid (HU.out.grow hB)
  replace HV := Lib.hid (HV.out.below hB)
  replace HT := Lib.hid (fun j hj => keep_below hB _ _ (HT.out j hj))
  have HBT := Lib.hid hbt
  obtain ⟨so, sc, rfl, _⟩ := hbt.opened
  clear hbt
  clear hB
  have HNE := Lib.hid HW1.out.size
  have hmf : ∀ (fn : Fn) (first cap : Array Value) (w : World), (Instr.makeFunc fn first cap).run Tryz.prog w = .ok (.func fn first cap) w := fun _ _ _ _ => rfl
  by_cases hbit : V.isBit = true
  · have HBI := Lib.hid hbit
    rw [hbit]
    clear hbit
    obtain ⟨W12, hWn⟩ : ∃ xw9, W11.alloc (.cells #[.int .i64 (V.packed.length : Int), .slice so ((V.packed.length + 63) / 64) sc] 63) = xw9 := ⟨_, rfl⟩
    have hB : Below W11.heap.size W11 W12 := by rw [← hWn]; exact below_new _ _
    have hNB : At2 W12 W11.heap.size (.int .i64 (V.packed.length : Int)) (.slice so ((V.packed.length + 63) / 64) sc) := by rw [← hWn]; exact At2.new _ _ _ _
    replace HA := Lib.hid (HA.out.below hB)
    replace HR := Lib.hid (HR.out.below hB)
    replace HB := Lib.hid (HB.out.trans (hB.mono HB.out.size))
    replace HW1 := Lib.hid (HW1.out.trans (hB.mono HW1.out.size))
    replace HU := Lib.hid (HU.out.grow hB)
    replace HV := Lib.hid (HV.out.below hB)
    replace HT := Lib.hid (fun j hj => keep_below hB _ _ (HT.out j hj))
    replace HBT := Lib.hid (HBT.out.keep (keep_below hB))
    have HVB := Lib.hid hNB
    clear hNB hB
    have cHA0 := HA.out.2.1
    have cHR0 := HR.out.2.1
    have cHVB0 := HVB.out.2.1
    have cHVB1 := HVB.out.2.2.1
    go_wp2_with fail
    clear hWn
    obtain ⟨L, hL⟩ : ∃ L, L = at_.map (sqI V.packed) := ⟨_, rfl⟩
    have HLE := Lib.hid hL
    have HLL := Lib.hid (show L.length = at_.length by rw [hL]; simp)
    obtain ⟨QV, hQV⟩ : ∃ QV, QV = VV.bits L := ⟨_, rfl⟩
    have HQV := Lib.hid hQV
    clear hQV hL
    obtain ⟨W13, hWD⟩ : ∃ xw9, W12.drew = xw9 := ⟨_, rfl⟩
    have hB : Below W12.heap.size W12 W13 := by rw [← hWD]; exact Below.drewN' (Below.refl _ _) 1
    clear cHA0 cHR0 cHVB0 cHVB1
    replace HA := Lib.hid (HA.out.below hB)
    replace HR := Lib.hid (HR.out.below hB)
    replace HB := Lib.hid (HB.out.trans (hB.mono HB.out.size))
    replace HW1 := Lib.hid (HW1.out.trans (hB.mono HW1.out.size))
    replace HU := Lib.hid (HU.out.grow hB)
    replace HV := Lib.hid (HV.out.below hB)
    replace HT := Lib.hid (fun j hj => keep_below hB _ _ (HT.out j hj))
    replace HBT := Lib.hid (HBT.out.keep (keep_below hB))
    replace HVB := Lib.hid (HVB.out.below hB)
    clear hB
    refine wp_region_held_drew (S := fun w' => w'.cell? ⟨W11.heap.size, 0, none⟩ = some (.int .i64 (V.packed.length : Int)) ∧ w'.cell? ⟨W11.heap.size, 1, none⟩ = some (.slice so ((V.packed.length + 63) / 64) sc)) (by kernel_rfl) (by rw [hWD]; exact ⟨HVB.out.2.1, HVB.out.2.2.1⟩) (fun hHeld => ?_)
    rw [hWD] at hHeld ⊢
    clear hWD
    refine wpAnyH_take (i := 0) (v := ?_) rfl (by kernel_rfl) (by kernel_rfl) (by kernel_rfl) (fun _ _ _ h => h) (Or.inl ⟨by rfl, ?_⟩) (by assumption) ?_
    rotate_left
    · (intro w hSw; (try dsimp only at hSw); go_simp; try with_reducible rfl)
    simp only [Act.put, List.getElem_toArray, List.getElem_cons_zero, List.setIfInBounds_toArray, List.set_cons_zero, List.set_cons_succ]
    refine wpAnyH_take (i := 2) (v := ?_) rfl (by kernel_rfl) (by kernel_rfl) (by kernel_rfl) (fun _ _ _ h => h) (Or.inl ⟨by rfl, ?_⟩) (by assumption) ?_
    rotate_left
    · (intro w hSw; (try dsimp only at hSw); go_simp; try with_reducible rfl)
    simp only [Act.put, List.getElem_toArray, List.getElem_cons_succ, List.getElem_cons_zero, List.setIfInBounds_toArray, List.set_cons_zero, List.set_cons_succ]
    refine wpAnyH_take (i := 3) (v := ?_) rfl (by kernel_rfl) (by kernel_rfl) (by kernel_rfl) (fun _ _ _ h => h) (Or.inl ⟨by rfl, ?_⟩) (by assumption) ?_
    rotate_left
    · (intro w hSw; (try dsimp only at hSw); go_simp; try with_reducible rfl)
    simp only [Act.put, List.getElem_toArray, List.getElem_cons_succ, List.getElem_cons_zero, List.setIfInBounds_toArray, List.set_cons_zero, List.set_cons_succ]
    refine wpAnyH_take (i := 4) (v := ?_) rfl (by kernel_rfl) (by kernel_rfl) (by kernel_rfl) (fun _ _ _ h => h) (Or.inl ⟨by rfl, ?_⟩) (by assumption) ?_
    rotate_left
    · (intro w hSw; (try dsimp only at hSw); go_simp; try with_reducible rfl)
    simp only [Act.put, List.getElem_toArray, List.getElem_cons_succ, List.getElem_cons_zero, List.setIfInBounds_toArray, List.set_cons_zero, List.set_cons_succ]
    refine wpAnyH_ready (rs := [1]) (by kernel_rfl) (by simp) ?_
    refine AllReadyH.cons (o := _) rfl (fun K hK => ?_) ?_
    · clear hHeld
      go_simp
      refine (len_calls _ V.packed _ HBT.out).mono ?_
      rintro e W14 ⟨rfl, hB⟩
      replace HA := Lib.hid (HA.out.below hB)
      replace HR := Lib.hid (HR.out.below hB)
      replace HB := Lib.hid (HB.out.trans (hB.mono HB.out.size))
      replace HW1 := Lib.hid (HW1.out.trans (hB.mono HW1.out.size))
      replace HU := Lib.hid (HU.out.grow hB)
      replace HV := Lib.hid (HV.out.below hB)
      replace HT := Lib.hid (fun j hj => keep_below hB _ _ (HT.out j hj))
      replace HBT := Lib.hid (HBT.out.keep (keep_below hB))
      replace HVB := Lib.hid (HVB.out.below hB)
      clear hB
      refine hK.out _ _ ?_ (fun hHeld => ?_)
      · exact ⟨HVB.out.2.1, HVB.out.2.2.1⟩
      clear hK K
      refine wpAnyH_ready (rs := [5]) (by kernel_rfl) (by simp) ?_
      refine AllReadyH.cons (o := _) rfl (fun K hK => ?_) ?_
      · clear hHeld
        go_simp
        have HO := HW1.out.size
        refine (chB_calls _ V.packed _ at_ _ HBT.out HV.out (by omega) (VV.packed_ok HOK.out)).mono ?_
        rintro e W15 ⟨vc, rfl, hvc, hB⟩
        replace HA := Lib.hid (HA.out.below hB)
        replace HR := Lib.hid (HR.out.below hB)
        replace HB := Lib.hid (HB.out.trans (hB.mono HB.out.size))
        replace HW1 := Lib.hid (HW1.out.trans (hB.mono HW1.out.size))
        replace HU := Lib.hid (HU.out.grow hB)
        replace HV := Lib.hid (HV.out.below hB)
        replace HT := Lib.hid (fun j hj => keep_below hB _ _ (HT.out j hj))
        replace HBT := Lib.hid (HBT.out.keep (keep_below hB))
        replace HVB := Lib.hid (HVB.out.below hB)
        rw [← HLE.out] at hvc
        have HVC := Lib.hid (show Slc W15 (fun b => w.heap.size + 2 ≤ b) vc L.length (bools L) by rw [HLL.out]; exact hvc.keep (Kept.refl _ _) (fun b _ (h : _ ≤ b) => Nat.le_trans (by have := HSZ.out; omega) h))
        obtain ⟨co, cc, rfl, _⟩ := HVC.out.opened
        clear hvc HO
        clear hB
        refine hK.out _ _ ?_ (fun hHeld => ?_)
        · exact ⟨HVB.out.2.1, HVB.out.2.2.1⟩
        clear hK K
        refine wpAnyH_ready (rs := [6]) (by kernel_rfl) (by simp) ?_
        refine AllReadyH.cons (o := _) rfl (fun K hK => ?_) ?_
        · clear hHeld
          go_simp
          have HO := HW1.out.size
          refine (pack_fresh _ L _ HVC.out.1.sl (by rw [HLL.out]; exact hm)).mono ?_
          rintro e W16 ⟨vp, rfl, hvp, hB⟩
          replace HA := Lib.hid (HA.out.below hB)
          replace HR := Lib.hid (HR.out.below hB)
          replace HB := Lib.hid (HB.out.trans (hB.mono HB.out.size))
          replace HW1 := Lib.hid (HW1.out.trans (hB.mono HW1.out.size))
          replace HU := Lib.hid (HU.out.grow hB)
          replace HV := Lib.hid (HV.out.below hB)
          replace HT := Lib.hid (fun j hj => keep_below hB _ _ (HT.out j hj))
          replace HBT := Lib.hid (HBT.out.keep (keep_below hB))
          replace HVB := Lib.hid (HVB.out.below hB)
          replace HVC := Lib.hid (HVC.out.below hB)
          have HVP := Lib.hid (show IsBitsX W16 (fun b => w.heap.size + 2 ≤ b) vp L from hvp.keep (Kept.refl _ _) (fun b _ (h : _ ≤ b) => Nat.le_trans (by have := HSZ.out; omega) h))
          clear hvp HO
          clear hB
          refine hK.out _ _ ?_ (fun hHeld => ?_)
          · exact ⟨HVB.out.2.1, HVB.out.2.2.1⟩
          clear hK K
          refine wpAnyH_ready (rs := [7]) (by kernel_rfl) (by simp) ?_
          refine AllReadyH.cons (o := _) rfl (fun K hK => ?_) ?_
          · clear hHeld
            go_simp
            refine (vbits_ok _ L _ HVP.out (by rw [HLL.out]; exact hm)).mono ?_
            rintro e W17 ⟨uq, rfl, huq, hB⟩
            replace HA := Lib.hid (HA.out.below hB)
            replace HR := Lib.hid (HR.out.below hB)
            replace HB := Lib.hid (HB.out.trans (hB.mono HB.out.size))
            replace HW1 := Lib.hid (HW1.out.trans (hB.mono HW1.out.size))
            replace HU := Lib.hid (HU.out.grow hB)
            replace HV := Lib.hid (HV.out.below hB)
            replace HT := Lib.hid (fun j hj => keep_below hB _ _ (HT.out j hj))
            replace HBT := Lib.hid (HBT.out.keep (keep_below hB))
            replace HVB := Lib.hid (HVB.out.below hB)
            replace HVC := Lib.hid (HVC.out.below hB)
            replace HVP := Lib.hid (HVP.out.keep (Kept.below hB) (fun _ _ h => h))
            have HQ := Lib.hid (show IsV W17 (fun b => (ok b ∧ b < w.heap.size) ∨ w.heap.size + 2 ≤ b) uq QV by rw [HQV.out]; exact huq.wide (fun b _ h => Or.inr h))
            have hsq := huq.store
            clear huq
            clear hB
            refine hK.out _ _ ?_ (fun hHeld => ?_)
            · exact ⟨HVB.out.2.1, HVB.out.2.2.1⟩
            clear hK K
            refine wpAnyH_ready (rs := [8]) (by kernel_rfl) (by simp) ?_
            refine AllReadyH.cons (o := _) rfl (fun K hK => ?_) ?_
            · clear hHeld
              have s0 := HR.out.2.1
              have t0 := HR.out.2.2 0
              go_simp
              clear s0 t0
              obtain ⟨W18, hWn⟩ : ∃ xw9, W17.setCell ⟨w.heap.size + 1, 0, none⟩ uq = xw9 := ⟨_, rfl⟩
              rw [hWn]
              replace HR := Lib.hid (show At1 W18 (w.heap.size + 1) uq by rw [← hWn]; exact At1.put1 HR.out _)
              replace HB := Lib.hid (show Below w.heap.size w W18 by rw [← hWn]; exact HB.out.setCell (Nat.le_succ _) _)
              replace HQ := Lib.hid (show IsV W18 (fun b => (ok b ∧ b < w.heap.size) ∨ w.heap.size + 2 ≤ b) uq QV by rw [← hWn]; exact HQ.out.keep (Kept.setCell _ _ _ (by simp)) (fun _ _ h => h))
              replace HVB := Lib.hid (show At2 W18 W11.heap.size _ _ by rw [← hWn]; exact HVB.out.grown (grown_setCell _ ⟨w.heap.size + 1, 0, none⟩ _) (by have := HNE.out; have := HSZ.out; simp; omega))
              clear hWn
              refine hK.out _ _ ?_ (fun hHeld => ?_)
              · exact ⟨HVB.out.2.1, HVB.out.2.2.1⟩
              clear hK K
              refine wpAnyH_done (by kernel_rfl) ?_ _
              clear hHeld
              have cHR0 := HR.out.2.1
              have cHVB0 := HVB.out.2.1
              have cHVB1 := HVB.out.2.2.1
              go_wp2_with fail
              refine bodyPost_ret (v := .agg #[uq]) (by simp [results, Tryz.results44, go_sem, cHR0]) rfl ⟨_, rfl, ?_, HB.out⟩
              rw [VV.sel_bits HBI.out, ← HLE.out, ← HQV.out]
              exact HQ.out.wide (fun b _ (h : (ok b ∧ b < w.heap.size) ∨ w.heap.size + 2 ≤ b) => h.imp id (fun h => by omega))
            exact AllReadyH.nil
          exact AllReadyH.nil
        exact AllReadyH.nil
      exact AllReadyH.nil
    exact AllReadyH.nil
  have hbit2 : V.isBit = false := by simpa using hbit
  have HBI := Lib.hid hbit2
  rw [hbit2]
  clear hbit hbit2
  obtain ⟨W12, hWn⟩ : ∃ xw9, W11.alloc (.cells #[.int .i64 (V.packed.length : Int), .slice so ((V.packed.length + 63) / 64) sc] 63) = xw9 := ⟨_, rfl⟩
  have hB : Below W11.heap.size W11 W12 := by rw [← hWn]; exact below_new _ _
  have hNB : At2 W12 W11.heap.size (.int .i64 (V.packed.length : Int)) (.slice so ((V.packed.length + 63) / 64) sc) := by rw [← hWn]; exact At2.new _ _ _ _
  replace HA := Lib.hid (HA.out.below hB)
  replace HR := Lib.hid (HR.out.below hB)
  replace HB := Lib.hid (HB.out.trans (hB.mono HB.out.size))
  replace HW1 := Lib.hid (HW1.out.trans (hB.mono HW1.out.size))
  replace HU := Lib.hid (HU.out.grow hB)
  replace HV := Lib.hid (HV.out.below hB)
  replace HT := Lib.hid (fun j hj => keep_below hB _ _ (HT.out j hj))
  replace HBT := Lib.hid (HBT.out.keep (keep_below hB))
  have HVB := Lib.hid hNB
  clear hNB hB
  have cHA0 := HA.out.2.1
  have cHR0 := HR.out.2.1
  have cHVB0 := HVB.out.2.1
  have cHVB1 := HVB.out.2.2.1
  go_wp2_with fail
  clear hWn
  refine (class_calls _ V _ HU.out).mono ?_
  rintro e W13 ⟨rfl, hB⟩
  clear cHA0 cHR0 cHVB0 cHVB1
  replace HA := Lib.hid (HA.out.below hB)
  replace HR := Lib.hid (HR.out.below hB)
  replace HB := Lib.hid (HB.out.trans (hB.mono HB.out.size))
  replace HW1 := Lib.hid (HW1.out.trans (hB.mono HW1.out.size))
  replace HU := Lib.hid (HU.out.grow hB)
  replace HV := Lib.hid (HV.out.below hB)
  replace HT := Lib.hid (fun j hj => keep_below hB _ _ (HT.out j hj))
  replace HBT := Lib.hid (HBT.out.keep (keep_below hB))
  replace HVB := Lib.hid (HVB.out.below hB)
  clear hB
  rcases VV.cls_cases V with hc | hc | hc
  · have HC := Lib.hid hc
    rw [hc]
    clear hc
    have cHA0 := HA.out.2.1
    have cHR0 := HR.out.2.1
    have cHVB0 := HVB.out.2.1
    have cHVB1 := HVB.out.2.2.1
    go_wp2_with fail
    obtain ⟨L, hL⟩ : ∃ L, L = at_.map (atI V.nums 0) := ⟨_, rfl⟩
    have HLE := Lib.hid hL
    have HLL := Lib.hid (show L.length = at_.length by rw [hL]; simp)
    obtain ⟨QV, hQV⟩ : ∃ QV, QV = (VV.floats L).sq := ⟨_, rfl⟩
    have HQV := Lib.hid hQV
    clear hQV hL
    have HNN := Lib.hid (show ∀ x ∈ L, Num x by rw [HLE.out]; exact map_atI_num (VV.nums_num HOK.out HN.out))
    obtain ⟨W14, hWD⟩ : ∃ xw9, W13.drew = xw9 := ⟨_, rfl⟩
    have hB : Below W13.heap.size W13 W14 := by rw [← hWD]; exact Below.drewN' (Below.refl _ _) 1
    clear cHA0 cHR0 cHVB0 cHVB1
    replace HA := Lib.hid (HA.out.below hB)
    replace HR := Lib.hid (HR.out.below hB)
    replace HB := Lib.hid (HB.out.trans (hB.mono HB.out.size))
    replace HW1 := Lib.hid (HW1.out.trans (hB.mono HW1.out.size))
    replace HU := Lib.hid (HU.out.grow hB)
    replace HV := Lib.hid (HV.out.below hB)
    replace HT := Lib.hid (fun j hj => keep_below hB _ _ (HT.out j hj))
    replace HBT := Lib.hid (HBT.out.keep (keep_below hB))
    replace HVB := Lib.hid (HVB.out.below hB)
    clear hB
    refine wp_region_held_drew (S := fun w' => w'.cell? ⟨w.heap.size, 0, none⟩ = some u) (by kernel_rfl) (by rw [hWD]; exact HA.out.2.1) (fun hHeld => ?_)
    rw [hWD] at hHeld ⊢
    clear hWD
    refine wpAnyH_take (i := 0) (v := ?_) rfl (by kernel_rfl) (by kernel_rfl) (by kernel_rfl) (fun _ _ _ h => h) (Or.inl ⟨by rfl, ?_⟩) (by assumption) ?_
    rotate_left
    · (intro w hSw; (try dsimp only at hSw); go_simp; try with_reducible rfl)
    simp only [Act.put, List.getElem_toArray, List.getElem_cons_zero, List.setIfInBounds_toArray, List.set_cons_zero, List.set_cons_succ]
    refine wpAnyH_take (i := 2) (v := ?_) rfl (by kernel_rfl) (by kernel_rfl) (by kernel_rfl) (fun _ _ _ h => h) (Or.inl ⟨by rfl, ?_⟩) (by assumption) ?_
    rotate_left
    · (intro w hSw; (try dsimp only at hSw); go_simp; try with_reducible rfl)
    simp only [Act.put, List.getElem_toArray, List.getElem_cons_succ, List.getElem_cons_zero, List.setIfInBounds_toArray, List.set_cons_zero, List.set_cons_succ]
    refine wpAnyH_take (i := 3) (v := ?_) rfl (by kernel_rfl) (by kernel_rfl) (by kernel_rfl) (fun _ _ _ h => h) (Or.inl ⟨by rfl, ?_⟩) (by assumption) ?_
    rotate_left
    · (intro w hSw; (try dsimp only at hSw); go_simp; try with_reducible rfl)
    simp only [Act.put, List.getElem_toArray, List.getElem_cons_succ, List.getElem_cons_zero, List.setIfInBounds_toArray, List.set_cons_zero, List.set_cons_succ]
    refine wpAnyH_take (i := 4) (v := ?_) rfl (by kernel_rfl) (by kernel_rfl) (by kernel_rfl) (fun _ _ _ h => h) (Or.inl ⟨by rfl, ?_⟩) (by assumption) ?_
    rotate_left
    · (intro w hSw; (try dsimp only at hSw); go_simp; try with_reducible rfl)
    simp only [Act.put, List.getElem_toArray, List.getElem_cons_succ, List.getElem_cons_zero, List.setIfInBounds_toArray, List.set_cons_zero, List.set_cons_succ]
    refine wpAnyH_ready (rs := [1]) (by kernel_rfl) (by simp) ?_
    refine AllReadyH.cons (o := _) rfl (fun K hK => ?_) ?_
    · clear hHeld
      go_simp
      refine (vlen_calls _ V _ HU.out).mono ?_
      rintro e W15 ⟨rfl, hB⟩
      replace HA := Lib.hid (HA.out.below hB)
      replace HR := Lib.hid (HR.out.below hB)
      replace HB := Lib.hid (HB.out.trans (hB.mono HB.out.size))
      replace HW1 := Lib.hid (HW1.out.trans (hB.mono HW1.out.size))
      replace HU := Lib.hid (HU.out.grow hB)
      replace HV := Lib.hid (HV.out.below hB)
      replace HT := Lib.hid (fun j hj => keep_below hB _ _ (HT.out j hj))
      replace HBT := Lib.hid (HBT.out.keep (keep_below hB))
      replace HVB := Lib.hid (HVB.out.below hB)
      clear hB
      refine hK.out _ _ ?_ (fun hHeld => ?_)
      · exact HA.out.2.1
      clear hK K
      refine wpAnyH_ready (rs := [5]) (by kernel_rfl) (by simp) ?_
      refine AllReadyH.cons (o := _) rfl (fun K hK => ?_) ?_
      · clear hHeld
        go_simp
        have HO := HW1.out.size
        refine (chF_calls _ V _ at_ _ HU.out HV.out (by omega)).mono ?_
        rintro e W16 ⟨vc, rfl, hvc, hB⟩
        replace HA := Lib.hid (HA.out.below hB)
        replace HR := Lib.hid (HR.out.below hB)
        replace HB := Lib.hid (HB.out.trans (hB.mono HB.out.size))
        replace HW1 := Lib.hid (HW1.out.trans (hB.mono HW1.out.size))
        replace HU := Lib.hid (HU.out.grow hB)
        replace HV := Lib.hid (HV.out.below hB)
        replace HT := Lib.hid (fun j hj => keep_below hB _ _ (HT.out j hj))
        replace HBT := Lib.hid (HBT.out.keep (keep_below hB))
        replace HVB := Lib.hid (HVB.out.below hB)
        rw [← HLE.out] at hvc
        have HVC := Lib.hid (show Slc W16 (fun b => w.heap.size + 2 ≤ b) vc L.length (f64s L) by rw [HLL.out]; exact hvc.keep (Kept.refl _ _) (fun b _ (h : _ ≤ b) => Nat.le_trans (by have := HSZ.out; omega) h))
        obtain ⟨co, cc, rfl, _⟩ := HVC.out.opened
        clear hvc HO
        clear hB
        refine hK.out _ _ ?_ (fun hHeld => ?_)
        · exact HA.out.2.1
        clear hK K
        refine wpAnyH_ready (rs := [6]) (by kernel_rfl) (by simp) ?_
        refine AllReadyH.cons (o := _) rfl (fun K hK => ?_) ?_
        · clear hHeld
          go_simp
          have HO := HW1.out.size
          refine (fnumbers_calls _ L _ HVC.out (by rw [HLL.out]; exact hm) (fun x hx => (HNN.out x hx).1) HT.out).mono ?_
          rintro e W17 ⟨uq, rfl, huq, hB⟩
          replace HA := Lib.hid (HA.out.below hB)
          replace HR := Lib.hid (HR.out.below hB)
          replace HB := Lib.hid (HB.out.trans (hB.mono HB.out.size))
          replace HW1 := Lib.hid (HW1.out.trans (hB.mono HW1.out.size))
          replace HU := Lib.hid (HU.out.grow hB)
          replace HV := Lib.hid (HV.out.below hB)
          replace HT := Lib.hid (fun j hj => keep_below hB _ _ (HT.out j hj))
          replace HBT := Lib.hid (HBT.out.keep (keep_below hB))
          replace HVB := Lib.hid (HVB.out.below hB)
          replace HVC := Lib.hid (HVC.out.below hB)
          rw [map_ze HNN.out] at huq
          have HQ := Lib.hid (show IsV W17 (fun b => (ok b ∧ b < w.heap.size) ∨ w.heap.size + 2 ≤ b) uq QV by rw [HQV.out]; exact huq.wide (fun b _ (h : _ ≤ b) => Or.inr (Nat.le_trans (by have := HSZ.out; omega) h)))
          have hsq := huq.store
          clear huq HO
          clear hB
          refine hK.out _ _ ?_ (fun hHeld => ?_)
          · exact HA.out.2.1
          clear hK K
          refine wpAnyH_ready (rs := [7]) (by kernel_rfl) (by simp) ?_
          refine AllReadyH.cons (o := _) rfl (fun K hK => ?_) ?_
          · clear hHeld
            have s0 := HR.out.2.1
            have t0 := HR.out.2.2 0
            go_simp
            clear s0 t0
            obtain ⟨W18, hWn⟩ : ∃ xw9, W17.setCell ⟨w.heap.size + 1, 0, none⟩ uq = xw9 := ⟨_, rfl⟩
            rw [hWn]
            replace HR := Lib.hid (show At1 W18 (w.heap.size + 1) uq by rw [← hWn]; exact At1.put1 HR.out _)
            replace HB := Lib.hid (show Below w.heap.size w W18 by rw [← hWn]; exact HB.out.setCell (Nat.le_succ _) _)
            replace HQ := Lib.hid (show IsV W18 (fun b => (ok b ∧ b < w.heap.size) ∨ w.heap.size + 2 ≤ b) uq QV by rw [← hWn]; exact HQ.out.keep (Kept.setCell _ _ _ (by simp)) (fun _ _ h => h))
            replace HA := Lib.hid (show At1 W18 w.heap.size u by rw [← hWn]; exact HA.out.grown (grown_setCell _ ⟨w.heap.size + 1, 0, none⟩ _) (by simp))
            clear hWn
            refine hK.out _ _ ?_ (fun hHeld => ?_)
            · exact HA.out.2.1
            clear hK K
            refine wpAnyH_done (by kernel_rfl) ?_ _
            clear hHeld
            have cHA0 := HA.out.2.1
            have cHR0 := HR.out.2.1
            go_wp2_with fail
            refine bodyPost_ret (v := .agg #[uq]) (by simp [results, Tryz.results44, go_sem, cHR0]) rfl ⟨_, rfl, ?_, HB.out⟩
            rw [VV.sel_nums HC.out HBI.out, ← HLE.out, ← HQV.out]
            exact HQ.out.wide (fun b _ (h : (ok b ∧ b < w.heap.size) ∨ w.heap.size + 2 ≤ b) => h.imp id (fun h => by omega))
          exact AllReadyH.nil
        exact AllReadyH.nil
      exact AllReadyH.nil
    exact AllReadyH.nil
  · have HC := Lib.hid hc
    rw [hc]
    clear hc
    have cHA0 := HA.out.2.1
    have cHR0 := HR.out.2.1
    have cHVB0 := HVB.out.2.1
    have cHVB1 := HVB.out.2.2.1
    go_wp2_with fail
    obtain ⟨L, hL⟩ : ∃ L, L = at_.map (atI V.text 32) := ⟨_, rfl⟩
    have HLE := Lib.hid hL
    have HLL := Lib.hid (show L.length = at_.length by rw [hL]; simp)
    obtain ⟨QV, hQV⟩ : ∃ QV, QV = VV.chars L := ⟨_, rfl⟩
    have HQV := Lib.hid hQV
    clear hQV hL
    obtain ⟨W14, hWD⟩ : ∃ xw9, W13.drew = xw9 := ⟨_, rfl⟩
    have hB : Below W13.heap.size W13 W14 := by rw [← hWD]; exact Below.drewN' (Below.refl _ _) 1
    clear cHA0 cHR0 cHVB0 cHVB1
    replace HA := Lib.hid (HA.out.below hB)
    replace HR := Lib.hid (HR.out.below hB)
    replace HB := Lib.hid (HB.out.trans (hB.mono HB.out.size))
    replace HW1 := Lib.hid (HW1.out.trans (hB.mono HW1.out.size))
    replace HU := Lib.hid (HU.out.grow hB)
    replace HV := Lib.hid (HV.out.below hB)
    replace HT := Lib.hid (fun j hj => keep_below hB _ _ (HT.out j hj))
    replace HBT := Lib.hid (HBT.out.keep (keep_below hB))
    replace HVB := Lib.hid (HVB.out.below hB)
    clear hB
    refine wp_region_held_drew (S := fun w' => w'.cell? ⟨w.heap.size, 0, none⟩ = some u) (by kernel_rfl) (by rw [hWD]; exact HA.out.2.1) (fun hHeld => ?_)
    rw [hWD] at hHeld ⊢
    clear hWD
    refine wpAnyH_take (i := 0) (v := ?_) rfl (by kernel_rfl) (by kernel_rfl) (by kernel_rfl) (fun _ _ _ h => h) (Or.inl ⟨by rfl, ?_⟩) (by assumption) ?_
    rotate_left
    · (intro w hSw; (try dsimp only at hSw); go_simp; try with_reducible rfl)
    simp only [Act.put, List.getElem_toArray, List.getElem_cons_zero, List.setIfInBounds_toArray, List.set_cons_zero, List.set_cons_succ]
    refine wpAnyH_take (i := 2) (v := ?_) rfl (by kernel_rfl) (by kernel_rfl) (by kernel_rfl) (fun _ _ _ h => h) (Or.inl ⟨by rfl, ?_⟩) (by assumption) ?_
    rotate_left
    · (intro w hSw; (try dsimp only at hSw); go_simp; try with_reducible rfl)
    simp only [Act.put, List.getElem_toArray, List.getElem_cons_succ, List.getElem_cons_zero, List.setIfInBounds_toArray, List.set_cons_zero, List.set_cons_succ]
    refine wpAnyH_take (i := 3) (v := ?_) rfl (by kernel_rfl) (by kernel_rfl) (by kernel_rfl) (fun _ _ _ h => h) (Or.inl ⟨by rfl, ?_⟩) (by assumption) ?_
    rotate_left
    · (intro w hSw; (try dsimp only at hSw); go_simp; try with_reducible rfl)
    simp only [Act.put, List.getElem_toArray, List.getElem_cons_succ, List.getElem_cons_zero, List.setIfInBounds_toArray, List.set_cons_zero, List.set_cons_succ]
    refine wpAnyH_take (i := 4) (v := ?_) rfl (by kernel_rfl) (by kernel_rfl) (by kernel_rfl) (fun _ _ _ h => h) (Or.inl ⟨by rfl, ?_⟩) (by assumption) ?_
    rotate_left
    · (intro w hSw; (try dsimp only at hSw); go_simp; try with_reducible rfl)
    simp only [Act.put, List.getElem_toArray, List.getElem_cons_succ, List.getElem_cons_zero, List.setIfInBounds_toArray, List.set_cons_zero, List.set_cons_succ]
    refine wpAnyH_ready (rs := [1]) (by kernel_rfl) (by simp) ?_
    refine AllReadyH.cons (o := _) rfl (fun K hK => ?_) ?_
    · clear hHeld
      go_simp
      refine (vlen_calls _ V _ HU.out).mono ?_
      rintro e W15 ⟨rfl, hB⟩
      replace HA := Lib.hid (HA.out.below hB)
      replace HR := Lib.hid (HR.out.below hB)
      replace HB := Lib.hid (HB.out.trans (hB.mono HB.out.size))
      replace HW1 := Lib.hid (HW1.out.trans (hB.mono HW1.out.size))
      replace HU := Lib.hid (HU.out.grow hB)
      replace HV := Lib.hid (HV.out.below hB)
      replace HT := Lib.hid (fun j hj => keep_below hB _ _ (HT.out j hj))
      replace HBT := Lib.hid (HBT.out.keep (keep_below hB))
      replace HVB := Lib.hid (HVB.out.below hB)
      clear hB
      refine hK.out _ _ ?_ (fun hHeld => ?_)
      · exact HA.out.2.1
      clear hK K
      refine wpAnyH_ready (rs := [5]) (by kernel_rfl) (by simp) ?_
      refine AllReadyH.cons (o := _) rfl (fun K hK => ?_) ?_
      · clear hHeld
        go_simp
        have HO := HW1.out.size
        refine (chC_calls _ V _ at_ _ HU.out HV.out (by omega) (VV.text_len HC.out)).mono ?_
        rintro e W16 ⟨vc, rfl, hvc, hB⟩
        replace HA := Lib.hid (HA.out.below hB)
        replace HR := Lib.hid (HR.out.below hB)
        replace HB := Lib.hid (HB.out.trans (hB.mono HB.out.size))
        replace HW1 := Lib.hid (HW1.out.trans (hB.mono HW1.out.size))
        replace HU := Lib.hid (HU.out.grow hB)
        replace HV := Lib.hid (HV.out.below hB)
        replace HT := Lib.hid (fun j hj => keep_below hB _ _ (HT.out j hj))
        replace HBT := Lib.hid (HBT.out.keep (keep_below hB))
        replace HVB := Lib.hid (HVB.out.below hB)
        rw [← HLE.out] at hvc
        have HVC := Lib.hid (show Slc W16 (fun b => w.heap.size + 2 ≤ b) vc L.length (i32s L) by rw [HLL.out]; exact hvc.keep (Kept.refl _ _) (fun b _ (h : _ ≤ b) => Nat.le_trans (by have := HSZ.out; omega) h))
        obtain ⟨co, cc, rfl, _⟩ := HVC.out.opened
        clear hvc HO
        clear hB
        refine hK.out _ _ ?_ (fun hHeld => ?_)
        · exact HA.out.2.1
        clear hK K
        refine wpAnyH_ready (rs := [6]) (by kernel_rfl) (by simp) ?_
        refine AllReadyH.cons (o := _) rfl (fun K hK => ?_) ?_
        · clear hHeld
          go_simp
          have HO := HW1.out.size
          refine (vchars_calls _ L _ HVC.out (by rw [HLL.out]; omega)).mono ?_
          rintro e W17 ⟨uq, rfl, huq, hB⟩
          replace HA := Lib.hid (HA.out.below hB)
          replace HR := Lib.hid (HR.out.below hB)
          replace HB := Lib.hid (HB.out.trans (hB.mono HB.out.size))
          replace HW1 := Lib.hid (HW1.out.trans (hB.mono HW1.out.size))
          replace HU := Lib.hid (HU.out.grow hB)
          replace HV := Lib.hid (HV.out.below hB)
          replace HT := Lib.hid (fun j hj => keep_below hB _ _ (HT.out j hj))
          replace HBT := Lib.hid (HBT.out.keep (keep_below hB))
          replace HVB := Lib.hid (HVB.out.below hB)
          replace HVC := Lib.hid (HVC.out.below hB)
          have HQ := Lib.hid (show IsV W17 (fun b => (ok b ∧ b < w.heap.size) ∨ w.heap.size + 2 ≤ b) uq QV by rw [HQV.out]; exact huq.wide (fun b _ (h : _ ≤ b) => Or.inr (Nat.le_trans (by have := HSZ.out; omega) h)))
          have hsq := huq.store
          clear huq HO
          clear hB
          refine hK.out _ _ ?_ (fun hHeld => ?_)
          · exact HA.out.2.1
          clear hK K
          refine wpAnyH_ready (rs := [7]) (by kernel_rfl) (by simp) ?_
          refine AllReadyH.cons (o := _) rfl (fun K hK => ?_) ?_
          · clear hHeld
            have s0 := HR.out.2.1
            have t0 := HR.out.2.2 0
            go_simp
            clear s0 t0
            obtain ⟨W18, hWn⟩ : ∃ xw9, W17.setCell ⟨w.heap.size + 1, 0, none⟩ uq = xw9 := ⟨_, rfl⟩
            rw [hWn]
            replace HR := Lib.hid (show At1 W18 (w.heap.size + 1) uq by rw [← hWn]; exact At1.put1 HR.out _)
            replace HB := Lib.hid (show Below w.heap.size w W18 by rw [← hWn]; exact HB.out.setCell (Nat.le_succ _) _)
            replace HQ := Lib.hid (show IsV W18 (fun b => (ok b ∧ b < w.heap.size) ∨ w.heap.size + 2 ≤ b) uq QV by rw [← hWn]; exact HQ.out.keep (Kept.setCell _ _ _ (by simp)) (fun _ _ h => h))
            replace HA := Lib.hid (show At1 W18 w.heap.size u by rw [← hWn]; exact HA.out.grown (grown_setCell _ ⟨w.heap.size + 1, 0, none⟩ _) (by simp))
            clear hWn
            refine hK.out _ _ ?_ (fun hHeld => ?_)
            · exact HA.out.2.1
            clear hK K
            refine wpAnyH_done (by kernel_rfl) ?_ _
            clear hHeld
            have cHA0 := HA.out.2.1
            have cHR0 := HR.out.2.1
            go_wp2_with fail
            refine bodyPost_ret (v := .agg #[uq]) (by simp [results, Tryz.results44, go_sem, cHR0]) rfl ⟨_, rfl, ?_, HB.out⟩
            rw [VV.sel_chars HC.out, ← HLE.out, ← HQV.out]
            exact HQ.out.wide (fun b _ (h : (ok b ∧ b < w.heap.size) ∨ w.heap.size + 2 ≤ b) => h.imp id (fun h => by omega))
          exact AllReadyH.nil
        exact AllReadyH.nil
      exact AllReadyH.nil
    exact AllReadyH.nil
  · have HC := Lib.hid hc
    rw [hc]
    clear hc
    have cHA0 := HA.out.2.1
    have cHR0 := HR.out.2.1
    have cHVB0 := HVB.out.2.1
    have cHVB1 := HVB.out.2.2.1
    go_wp2_with fail
    obtain ⟨L, hL⟩ : ∃ L, L = at_.map (atI V.boxs blankA) := ⟨_, rfl⟩
    have HLE := Lib.hid hL
    have HLL := Lib.hid (show L.length = at_.length by rw [hL]; simp)
    obtain ⟨QV, hQV⟩ : ∃ QV, QV = VV.boxes L := ⟨_, rfl⟩
    have HQV := Lib.hid hQV
    clear hQV hL
    obtain ⟨W14, hWD⟩ : ∃ xw9, W13.drew = xw9 := ⟨_, rfl⟩
    have hB : Below W13.heap.size W13 W14 := by rw [← hWD]; exact Below.drewN' (Below.refl _ _) 1
    clear cHA0 cHR0 cHVB0 cHVB1
    replace HA := Lib.hid (HA.out.below hB)
    replace HR := Lib.hid (HR.out.below hB)
    replace HB := Lib.hid (HB.out.trans (hB.mono HB.out.size))
    replace HW1 := Lib.hid (HW1.out.trans (hB.mono HW1.out.size))
    replace HU := Lib.hid (HU.out.grow hB)
    replace HV := Lib.hid (HV.out.below hB)
    replace HT := Lib.hid (fun j hj => keep_below hB _ _ (HT.out j hj))
    replace HBT := Lib.hid (HBT.out.keep (keep_below hB))
    replace HVB := Lib.hid (HVB.out.below hB)
    clear hB
    refine wp_region_held_drew (S := fun w' => w'.cell? ⟨w.heap.size, 0, none⟩ = some u) (by kernel_rfl) (by rw [hWD]; exact HA.out.2.1) (fun hHeld => ?_)
    rw [hWD] at hHeld ⊢
    clear hWD
    refine wpAnyH_take (i := 0) (v := ?_) rfl (by kernel_rfl) (by kernel_rfl) (by kernel_rfl) (fun _ _ _ h => h) (Or.inl ⟨by rfl, ?_⟩) (by assumption) ?_
    rotate_left
    · (intro w hSw; (try dsimp only at hSw); go_simp; try with_reducible rfl)
    simp only [Act.put, List.getElem_toArray, List.getElem_cons_zero, List.setIfInBounds_toArray, List.set_cons_zero, List.set_cons_succ]
    refine wpAnyH_take (i := 2) (v := ?_) rfl (by kernel_rfl) (by kernel_rfl) (by kernel_rfl) (fun _ _ _ h => h) (Or.inl ⟨by rfl, ?_⟩) (by assumption) ?_
    rotate_left
    · (intro w hSw; (try dsimp only at hSw); go_simp; try with_reducible rfl)
    simp only [Act.put, List.getElem_toArray, List.getElem_cons_succ, List.getElem_cons_zero, List.setIfInBounds_toArray, List.set_cons_zero, List.set_cons_succ]
    refine wpAnyH_take (i := 3) (v := ?_) rfl (by kernel_rfl) (by kernel_rfl) (by kernel_rfl) (fun _ _ _ h => h) (Or.inl ⟨by rfl, ?_⟩) (by assumption) ?_
    rotate_left
    · (intro w hSw; (try dsimp only at hSw); go_simp; try with_reducible rfl)
    simp only [Act.put, List.getElem_toArray, List.getElem_cons_succ, List.getElem_cons_zero, List.setIfInBounds_toArray, List.set_cons_zero, List.set_cons_succ]
    refine wpAnyH_take (i := 4) (v := ?_) rfl (by kernel_rfl) (by kernel_rfl) (by kernel_rfl) (fun _ _ _ h => h) (Or.inl ⟨by rfl, ?_⟩) (by assumption) ?_
    rotate_left
    · (intro w hSw; (try dsimp only at hSw); go_simp; try with_reducible rfl)
    simp only [Act.put, List.getElem_toArray, List.getElem_cons_succ, List.getElem_cons_zero, List.setIfInBounds_toArray, List.set_cons_zero, List.set_cons_succ]
    refine wpAnyH_ready (rs := [1]) (by kernel_rfl) (by simp) ?_
    refine AllReadyH.cons (o := _) rfl (fun K hK => ?_) ?_
    · clear hHeld
      go_simp
      refine (vlen_calls _ V _ HU.out).mono ?_
      rintro e W15 ⟨rfl, hB⟩
      replace HA := Lib.hid (HA.out.below hB)
      replace HR := Lib.hid (HR.out.below hB)
      replace HB := Lib.hid (HB.out.trans (hB.mono HB.out.size))
      replace HW1 := Lib.hid (HW1.out.trans (hB.mono HW1.out.size))
      replace HU := Lib.hid (HU.out.grow hB)
      replace HV := Lib.hid (HV.out.below hB)
      replace HT := Lib.hid (fun j hj => keep_below hB _ _ (HT.out j hj))
      replace HBT := Lib.hid (HBT.out.keep (keep_below hB))
      replace HVB := Lib.hid (HVB.out.below hB)
      clear hB
      refine hK.out _ _ ?_ (fun hHeld => ?_)
      · exact HA.out.2.1
      clear hK K
      refine wpAnyH_ready (rs := [5]) (by kernel_rfl) (by simp) ?_
      refine AllReadyH.cons (o := _) rfl (fun K hK => ?_) ?_
      · clear hHeld
        go_simp
        have HO := HW1.out.size
        refine (fblank_calls _).mono ?_
        rintro e W16 ⟨bo, bc, ub, rfl, hbl, hB⟩
        replace HA := Lib.hid (HA.out.below hB)
        replace HR := Lib.hid (HR.out.below hB)
        replace HB := Lib.hid (HB.out.trans (hB.mono HB.out.size))
        replace HW1 := Lib.hid (HW1.out.trans (hB.mono HW1.out.size))
        replace HU := Lib.hid (HU.out.grow hB)
        replace HV := Lib.hid (HV.out.below hB)
        replace HT := Lib.hid (fun j hj => keep_below hB _ _ (HT.out j hj))
        replace HBT := Lib.hid (HBT.out.keep (keep_below hB))
        replace HVB := Lib.hid (HVB.out.below hB)
        have HBL := Lib.hid (show IsArr W16 (fun b => (ok b ∧ b < w.heap.size) ∨ w.heap.size + 2 ≤ b) (.slice bo blankA.1.length bc) ub blankA from hbl.keep (Kept.refl _ _) (fun b _ (h : _ ≤ b) => Or.inr (Nat.le_trans (by have := HSZ.out; omega) h)))
        have hsb := hbl.2.store
        clear hbl HO
        clear hB
        refine hK.out _ _ ?_ (fun hHeld => ?_)
        · exact HA.out.2.1
        clear hK K
        refine wpAnyH_ready (rs := [6]) (by kernel_rfl) (by simp) ?_
        refine AllReadyH.cons (o := _) rfl (fun K hK => ?_) ?_
        · clear hHeld
          go_simp
          have HO := HW1.out.size
          refine (chA_calls _ V _ _ _ blankA at_ _ (HU.out.wide (fun b _ h => Or.inl h)) HOK.out (VV.boxs_len HC.out) HBL.out HV.out (by omega)).mono ?_
          rintro e W17 ⟨vc, rfl, hvc, hB⟩
          replace HA := Lib.hid (HA.out.below hB)
          replace HR := Lib.hid (HR.out.below hB)
          replace HB := Lib.hid (HB.out.trans (hB.mono HB.out.size))
          replace HW1 := Lib.hid (HW1.out.trans (hB.mono HW1.out.size))
          replace HU := Lib.hid (HU.out.grow hB)
          replace HV := Lib.hid (HV.out.below hB)
          replace HT := Lib.hid (fun j hj => keep_below hB _ _ (HT.out j hj))
          replace HBT := Lib.hid (HBT.out.keep (keep_below hB))
          replace HVB := Lib.hid (HVB.out.below hB)
          replace HBL := Lib.hid (HBL.out.grow hB)
          rw [← HLE.out] at hvc
          have HVC := Lib.hid (show Arrs W17 (fun b => (ok b ∧ b < w.heap.size) ∨ w.heap.size + 2 ≤ b) vc L from hvc.keep (Kept.refl _ _) (fun b _ h => by rcases h with h | h; exact h; exact Or.inr (Nat.le_trans (by have := HSZ.out; omega) h)))
          obtain ⟨co, cc, rfl, _⟩ := HVC.out.len
          clear hvc HO
          clear hB
          refine hK.out _ _ ?_ (fun hHeld => ?_)
          · exact HA.out.2.1
          clear hK K
          refine wpAnyH_ready (rs := [7]) (by kernel_rfl) (by simp) ?_
          refine AllReadyH.cons (o := _) rfl (fun K hK => ?_) ?_
          · clear hHeld
            go_simp
            have HO := HW1.out.size
            refine (vboxes_calls _ L _ HVC.out (by rw [HLL.out]; exact hm) (by rw [HLE.out]; exact atI_boxs HBX.out)).mono ?_
            rintro e W18 ⟨uq, rfl, huq, hB⟩
            replace HA := Lib.hid (HA.out.below hB)
            replace HR := Lib.hid (HR.out.below hB)
            replace HB := Lib.hid (HB.out.trans (hB.mono HB.out.size))
            replace HW1 := Lib.hid (HW1.out.trans (hB.mono HW1.out.size))
            replace HU := Lib.hid (HU.out.grow hB)
            replace HV := Lib.hid (HV.out.below hB)
            replace HT := Lib.hid (fun j hj => keep_below hB _ _ (HT.out j hj))
            replace HBT := Lib.hid (HBT.out.keep (keep_below hB))
            replace HVB := Lib.hid (HVB.out.below hB)
            replace HBL := Lib.hid (HBL.out.grow hB)
            replace HVC := Lib.hid (HVC.out.grow hB)
            have HQ := Lib.hid (show IsV W18 (fun b => (ok b ∧ b < w.heap.size) ∨ w.heap.size + 2 ≤ b) uq QV by rw [HQV.out]; exact huq.wide (fun b _ h => by rcases h with h | h; exact h.1; exact Or.inr (Nat.le_trans (by have := HSZ.out; omega) h)))
            have hsq := huq.store
            clear huq HO
            clear hB
            refine hK.out _ _ ?_ (fun hHeld => ?_)
            · exact HA.out.2.1
            clear hK K
            refine wpAnyH_ready (rs := [8]) (by kernel_rfl) (by simp) ?_
            refine AllReadyH.cons (o := _) rfl (fun K hK => ?_) ?_
            · clear hHeld
              have s0 := HR.out.2.1
              have t0 := HR.out.2.2 0
              go_simp
              clear s0 t0
              obtain ⟨W19, hWn⟩ : ∃ xw9, W18.setCell ⟨w.heap.size + 1, 0, none⟩ uq = xw9 := ⟨_, rfl⟩
              rw [hWn]
              replace HR := Lib.hid (show At1 W19 (w.heap.size + 1) uq by rw [← hWn]; exact At1.put1 HR.out _)
              replace HB := Lib.hid (show Below w.heap.size w W19 by rw [← hWn]; exact HB.out.setCell (Nat.le_succ _) _)
              replace HQ := Lib.hid (show IsV W19 (fun b => (ok b ∧ b < w.heap.size) ∨ w.heap.size + 2 ≤ b) uq QV by rw [← hWn]; exact HQ.out.keep (Kept.setCell _ _ _ (by simp)) (fun _ _ h => h))
              replace HA := Lib.hid (show At1 W19 w.heap.size u by rw [← hWn]; exact HA.out.grown (grown_setCell _ ⟨w.heap.size + 1, 0, none⟩ _) (by simp))
              clear hWn
              refine hK.out _ _ ?_ (fun hHeld => ?_)
              · exact HA.out.2.1
              clear hK K
              refine wpAnyH_done (by kernel_rfl) ?_ _
              clear hHeld
              have cHA0 := HA.out.2.1
              have cHR0 := HR.out.2.1
              go_wp2_with fail
              refine bodyPost_ret (v := .agg #[uq]) (by simp [results, Tryz.results44, go_sem, cHR0]) rfl ⟨_, rfl, ?_, HB.out⟩
              rw [VV.sel_boxes HC.out, ← HLE.out, ← HQV.out]
              exact HQ.out.wide (fun b _ (h : (ok b ∧ b < w.heap.size) ∨ w.heap.size + 2 ≤ b) => h.imp id (fun h => by omega))
            exact AllReadyH.nil
          exact AllReadyH.nil
        exact AllReadyH.nil
      exact AllReadyH.nil
    exact AllReadyH.nil
end Go.Proofs.YtohkohnihaockaaGreatDoor

/- Package flat, walked: Pick; the rules of places. -/
namespace Go.Proofs.YtohkohnihaockaaGreatDoor
set_option maxRecDepth 100000
open Go.RowKit Fl
set_option linter.unusedVariables false

set_option maxHeartbeats 4000000 in
theorem pick_calls {ok ok2 : Nat → Prop} (u : Value) (V : VV) (v : Value) (at_ : List Int) (w : World) (hu : IsV w ok u V) (hok : V.ok) (hn : V.nm) (hb : ∀ a ∈ V.boxs, a.1.length ≤ 1048576) (hv : Slc w ok2 v at_.length (ints at_)) (hm : at_.length ≤ 1048576) (hT : TabAt w) :
    Calls Tryz.prog 13 #[.agg #[u], v] w fun e w' => ∃ u', e = .returned (.agg #[u']) ∧ IsV w' (fun b => (ok b ∧ b < w.heap.size) ∨ w.heap.size ≤ b) u' (V.sel at_) ∧ Below w.heap.size w w' := by
  obtain ⟨ao, cap, rfl, hc1, hc2, _⟩ := hv.opened
  have hsu := hu.store
  obtain ⟨W1, hW1⟩ : ∃ W1, W1 = (w.alloc (.cells #[u] 31)).alloc (.cells #[.nilIface] 31) := ⟨_, rfl⟩
  have HB := Lib.hid (show Below w.heap.size w W1 by rw [hW1]; exact (below_new _ _).alloc (by simp) _)
  have HSZ := Lib.hid (show W1.heap.size = w.heap.size + 2 by rw [hW1]; simp)
  have HA := Lib.hid (show At1 W1 w.heap.size u by rw [hW1]; exact (At1.new w _ _).below (below_new _ _))
  have HR := Lib.hid (show At1 W1 (w.heap.size + 1) .nilIface by rw [hW1]; have := At1.new (w.alloc (.cells #[u] 31)) .nilIface 31; simpa using this)
  have HU := Lib.hid (show IsV W1 (fun b => ok b ∧ b < w.heap.size) u V from hu.lt.grow HB.out)
  have HV := Lib.hid (show Slc W1 (fun b => b < w.heap.size) (.slice ao at_.length cap) at_.length (ints at_) from (hv.keep (Kept.refl _ _) (fun b h _ => h)).below HB.out)
  have HT := Lib.hid (show TabAt W1 from fun j hj => keep_below HB.out _ _ (hT j hj))
  have HOK := Lib.hid hok
  have HN := Lib.hid hn
  have HBX := Lib.hid hb
  have HW1 := Lib.hid (Below.refl W1.heap.size W1)
  have hfold := hW1.symm
  have hmin : ¬ ((1048576 : Int) < (at_.length : Int)) := by omega
  obtain ⟨QV, hQV⟩ : ∃ QV, QV = V.sel at_ := ⟨_, rfl⟩
  have HQV := Lib.hid hQV
  clear hu hv hT hok hn hb hW1 hQV
  have cHA0 := HA.out.2.1
  have cHR0 := HR.out.2.1
  go_enter Tryz.func13, Tryz.ntmps13
  go_wp2_with fail
  clear hfold
  obtain ⟨W11, hWD⟩ : ∃ xw9, W1.drew = xw9 := ⟨_, rfl⟩
  have hB : Below W1.heap.size W1 W11 := by rw [← hWD]; exact Below.drewN' (Below.refl _ _) 1
  clear cHA0 cHR0
  replace HA := Lib.hid (HA.out.below hB)
  replace HR := Lib.hid (HR.out.below hB)
  replace HB := Lib.hid (HB.out.trans (hB.mono HB.out.size))
  replace HW1 := Lib.hid (HW1.out.trans (hB.mono HW1.out.size))
  replace HU := Lib.hid (HU.out.grow hB)
  replace HV := Lib.hid (HV.out.below hB)
  replace HT := Lib.hid (fun j hj => keep_below hB _ _ (HT.out j hj))
  clear hB
  refine wp_region_held_drew (S := fun w' => w'.cell? ⟨w.heap.size, 0, none⟩ = some u) (by kernel_rfl) (by rw [hWD]; exact HA.out.2.1) (fun hHeld => ?_)
  rw [hWD] at hHeld ⊢
  clear hWD
  refine wpAnyH_take (i := 0) (v := ?_) rfl (by kernel_rfl) (by kernel_rfl) (by kernel_rfl) (fun _ _ _ h => h) (Or.inl ⟨by rfl, ?_⟩) (by assumption) ?_
  rotate_left
  · (intro w hSw; (try dsimp only at hSw); go_simp; try with_reducible rfl)
  simp only [Act.put, List.getElem_toArray, List.getElem_cons_zero, List.setIfInBounds_toArray, List.set_cons_zero, List.set_cons_succ]
  refine wpAnyH_take (i := 1) (v := ?_) rfl (by kernel_rfl) (by kernel_rfl) (by kernel_rfl) (fun _ _ _ h => h) (Or.inl ⟨by rfl, ?_⟩) (by assumption) ?_
  rotate_left
  · (intro w hSw; (try dsimp only at hSw); go_simp; try with_reducible rfl)
  simp only [Act.put, List.getElem_toArray, List.getElem_cons_succ, List.getElem_cons_zero, List.setIfInBounds_toArray, List.set_cons_zero, List.set_cons_succ]
  refine wpAnyH_take (i := 2) (v := ?_) rfl (by kernel_rfl) (by kernel_rfl) (by kernel_rfl) (fun _ _ _ h => h) (Or.inl ⟨by rfl, ?_⟩) (by assumption) ?_
  rotate_left
  · (intro w hSw; (try dsimp only at hSw); go_simp; try with_reducible rfl)
  simp only [Act.put, List.getElem_toArray, List.getElem_cons_succ, List.getElem_cons_zero, List.setIfInBounds_toArray, List.set_cons_zero, List.set_cons_succ]
  refine wpAnyH_take (i := 3) (v := ?_) rfl (by kernel_rfl) (by kernel_rfl) (by kernel_rfl) (fun _ _ _ h => h) (Or.inl ⟨by rfl, ?_⟩) (by assumption) ?_
  rotate_left
  · (intro w hSw; (try dsimp only at hSw); go_simp; try with_reducible rfl)
  simp only [Act.put, List.getElem_toArray, List.getElem_cons_succ, List.getElem_cons_zero, List.setIfInBounds_toArray, List.set_cons_zero, List.set_cons_succ]
  refine wpAnyH_take (i := 4) (v := (.int .i64 (at_.length : Int))) rfl (by kernel_rfl) (by kernel_rfl) (by kernel_rfl) (fun _ _ _ h => h) (Or.inl ⟨by rfl, ?_⟩) (by assumption) ?_
  · (intro w hSw; (try dsimp only at hSw); go_simp; intro h; omega)
  simp only [Act.put, List.getElem_toArray, List.getElem_cons_succ, List.getElem_cons_zero, List.setIfInBounds_toArray, List.set_cons_zero, List.set_cons_succ]
  refine wpAnyH_take (i := 5) (v := (.slice ao at_.length cap)) rfl (by kernel_rfl) (by kernel_rfl) (by kernel_rfl) (fun _ _ _ h => h) (Or.inl ⟨by rfl, ?_⟩) (by assumption) ?_
  · (intro w hSw; (try dsimp only at hSw); go_simp; skip)
  simp only [Act.put, List.getElem_toArray, List.getElem_cons_succ, List.getElem_cons_zero, List.setIfInBounds_toArray, List.set_cons_zero, List.set_cons_succ]
  refine wpAnyH_ready (rs := [6]) (by kernel_rfl) (by simp) ?_
  refine AllReadyH.cons (o := _) rfl (fun K hK => ?_) ?_
  · clear hHeld
    go_simp
    have HO := HW1.out.size
    refine (selected_calls _ V _ at_ _ HU.out HOK.out HN.out HBX.out HV.out hm HT.out).mono ?_
    rintro e W12 ⟨uq, rfl, huq, hB⟩
    replace HA := Lib.hid (HA.out.below hB)
    replace HR := Lib.hid (HR.out.below hB)
    replace HB := Lib.hid (HB.out.trans (hB.mono HB.out.size))
    replace HW1 := Lib.hid (HW1.out.trans (hB.mono HW1.out.size))
    replace HU := Lib.hid (HU.out.grow hB)
    replace HV := Lib.hid (HV.out.below hB)
    replace HT := Lib.hid (fun j hj => keep_below hB _ _ (HT.out j hj))
    have HQ := Lib.hid (show IsV W12 (fun b => (ok b ∧ b < w.heap.size) ∨ w.heap.size + 2 ≤ b) uq QV by rw [HQV.out]; exact huq.wide (fun b _ h => by rcases h with h | h; exact Or.inl h.1; exact Or.inr (Nat.le_trans (by have := HSZ.out; omega) h)))
    have hsq := huq.store
    clear huq HO
    clear hB
    refine hK.out _ _ ?_ (fun hHeld => ?_)
    · exact HA.out.2.1
    clear hK K
    refine wpAnyH_ready (rs := [7]) (by kernel_rfl) (by simp) ?_
    refine AllReadyH.cons (o := _) rfl (fun K hK => ?_) ?_
    · clear hHeld
      have s0 := HR.out.2.1
      have t0 := HR.out.2.2 0
      go_simp
      clear s0 t0
      obtain ⟨W13, hWn⟩ : ∃ xw9, W12.setCell ⟨w.heap.size + 1, 0, none⟩ uq = xw9 := ⟨_, rfl⟩
      rw [hWn]
      replace HR := Lib.hid (show At1 W13 (w.heap.size + 1) uq by rw [← hWn]; exact At1.put1 HR.out _)
      replace HB := Lib.hid (show Below w.heap.size w W13 by rw [← hWn]; exact HB.out.setCell (Nat.le_succ _) _)
      replace HQ := Lib.hid (show IsV W13 (fun b => (ok b ∧ b < w.heap.size) ∨ w.heap.size + 2 ≤ b) uq QV by rw [← hWn]; exact HQ.out.keep (Kept.setCell _ _ _ (by simp)) (fun _ _ h => h))
      replace HA := Lib.hid (show At1 W13 w.heap.size u by rw [← hWn]; exact HA.out.grown (grown_setCell _ ⟨w.heap.size + 1, 0, none⟩ _) (by simp))
      clear hWn
      refine hK.out _ _ ?_ (fun hHeld => ?_)
      · exact HA.out.2.1
      clear hK K
      refine wpAnyH_done (by kernel_rfl) ?_ _
      clear hHeld
      have cHA0 := HA.out.2.1
      have cHR0 := HR.out.2.1
      go_wp2_with fail
      refine bodyPost_ret (v := .agg #[uq]) (by simp [results, Tryz.results13, go_sem, cHR0]) rfl ⟨_, rfl, ?_, HB.out⟩
      rw [← HQV.out]
      exact HQ.out.wide (fun b _ (h : (ok b ∧ b < w.heap.size) ∨ w.heap.size + 2 ≤ b) => h.imp id (fun h => by omega))
    exact AllReadyH.nil
  exact AllReadyH.nil
end Go.Proofs.YtohkohnihaockaaGreatDoor

/- Elements at some places, as items: plain. -/
namespace Go.Proofs.YtohkohnihaockaaGreatDoor
set_option maxRecDepth 100000
open Go.RowKit Fl
set_option linter.unusedVariables false

def gV (d : Nat) (V : VV) : Prop := V.ok ∧ V.nm ∧ V.kind = V.least ∧ ∀ a ∈ V.boxs, gA d a
/-- The items of a vector. -/
def itsA (d : Nat) (V : VV) : List PI := (List.range V.len).map (itA (plA d) V)
def blankP : PA := .mk [0] [] 0
/-- What stands for none, of a class. -/
def blankI (c : Int) : PI := if c = 1 then (1, 0, 32, []) else if c = 2 then (2, 0, 0, [blankP]) else (0, 0, 0, [])
theorem itsA_len (d : Nat) (V : VV) : (itsA d V).length = V.len := by simp [itsA]
theorem VV.kind_cases (V : VV) : V.kind = 0 → V = .none := by cases V <;> simp [VV.kind]
theorem gV_kind {d : Nat} {V : VV} (h : gV d V) : V.kind ≠ 0 := by
  intro e
  have hn := VV.kind_cases V e
  subst hn
  have := h.2.2.1
  simp [VV.kind, VV.least, leastW, VV.nums] at this
theorem gA_gV {d : Nat} {A : List Int × VV} (h : gA (d + 1) A) : gV d A.2 := ⟨h.2.1, h.2.2.1, h.2.2.2.1, h.2.2.2.2⟩
theorem gV_gA {d : Nat} {V : VV} (h : gV d V) : gA (d + 1) ([(V.len : Int)], V) := by
  refine ⟨?_, h.1, h.2.1, h.2.2.1, h.2.2.2⟩
  have := nums_prod (List.replicate V.len 0) (by simpa using VV.ok_len h.1)
  simpa using this
theorem gA_blank (d : Nat) : gA (d + 1) blankA := by
  refine ⟨by decide, by simp [blankA, VV.ok], by simp [blankA, VV.nm], rfl, ?_⟩
  intro a ha
  simp [blankA, VV.boxs] at ha
theorem plA_blank (d : Nat) : plA (d + 1) blankA = blankP := by simp [plA, blankA, blankP, VV.len, VV.cls]
theorem plA_list {d : Nat} {V : VV} : plA (d + 1) ([(V.len : Int)], V) = .mk [((itsA d V).length : Int)] (itsA d V) V.cls := by rw [itsA_len]; rfl
theorem gV_box {d : Nat} {V : VV} (h : gV d V) : ∀ a ∈ V.boxs, a.1.length ≤ 1048576 := by
  intro a ha
  cases V <;> simp [VV.boxs] at ha
  exact h.1.2 _ ha
theorem VV.nums_length {V : VV} (h : V.cls = 0) : V.nums.length = V.len := by cases V <;> simp_all [VV.cls, VV.nums, VV.len]
theorem text_chars (l : List Int) : (VV.chars l).text = l := rfl
theorem boxs_boxes (l : List (List Int × VV)) : (VV.boxes l).boxs = l := rfl
theorem atI_or {α : Type} (l : List α) (d : α) (i : Int) : (∃ k : Nat, i = (k : Int) ∧ ∃ h : k < l.length, atI l d i = l[k]) ∨ (¬ (0 ≤ i ∧ i < (l.length : Int)) ∧ atI l d i = d) := by
  by_cases h : 0 ≤ i ∧ i < (l.length : Int)
  · obtain ⟨k, rfl⟩ := Int.eq_ofNat_of_zero_le h.1
    exact Or.inl ⟨k, rfl, by omega, atI_nat (by omega)⟩
  · exact Or.inr ⟨h, atI_neg h⟩
theorem sqI_nat {l : List Bool} {k : Nat} (h : k < l.length) : sqI l (k : Int) = l[k] := sqI_some (by simp [h])
theorem flagW_sqI {l : List Bool} {i : Int} : flagW (sqI l i) = atI (l.map flagW) 0 i := by
  by_cases h : 0 ≤ i ∧ i < (l.length : Int)
  · obtain ⟨k, rfl⟩ := Int.eq_ofNat_of_zero_le h.1
    have hk : k < l.length := by omega
    rw [sqI_nat hk, atI_nat (by simpa using hk)]
    simp
  · rw [sqI_out h, atI_neg (by simpa using h)]; rfl
theorem VV.sel_len (V : VV) (at_ : List Int) (hn : ∀ x ∈ V.nums, Num x) (hm : at_.length ≤ 1048576) : (V.sel at_).len = at_.length := by
  have hf : (VV.floats (at_.map (atI V.nums 0))).sq.len = at_.length := by
    have := (VV.sq_spec (V := VV.floats (at_.map (atI V.nums 0))) (by simpa [VV.ok] using hm) (map_atI_num hn)).2.2.2.2.2
    rw [this]; simp [VV.len]
  cases V <;> first | exact hf | simp [VV.sel, VV.len]
theorem VV.sel_cls (V : VV) (at_ : List Int) (hn : ∀ x ∈ V.nums, Num x) (hm : at_.length ≤ 1048576) : (V.sel at_).cls = V.cls := by
  have hf : (VV.floats (at_.map (atI V.nums 0))).sq.cls = 0 := (VV.sq_spec (V := VV.floats (at_.map (atI V.nums 0))) (by simpa [VV.ok] using hm) (map_atI_num hn)).2.2.1
  cases V <;> first | exact hf | rfl
theorem VV.sel_numbers {V : VV} (at_ : List Int) (hn : ∀ x ∈ V.nums, Num x) (hm : at_.length ≤ 1048576) (hc : V.cls = 0) : (V.sel at_).nums = at_.map (atI V.nums 0) := by
  by_cases hb : V.isBit = true
  · rw [VV.sel_bits hb]
    cases V <;> simp [VV.isBit] at hb
    simp only [VV.nums, VV.packed, List.map_map]
    apply List.map_congr_left
    intro i _
    exact flagW_sqI
  · rw [VV.sel_nums hc (by simpa using hb)]
    exact (VV.sq_spec (V := VV.floats (at_.map (atI V.nums 0))) (by simpa [VV.ok] using hm) (map_atI_num hn)).2.1
theorem gV_sel {d : Nat} {V : VV} {at_ : List Int} (h : gV (d + 1) V) (hm : at_.length ≤ 1048576) : gV (d + 1) (V.sel at_) := by
  have hn := VV.nums_num h.1 h.2.1
  by_cases hb : V.isBit = true
  · rw [VV.sel_bits hb]
    exact ⟨by simpa [VV.ok] using hm, trivial, rfl, fun a ha => by simp [VV.boxs] at ha⟩
  · rcases VV.cls_cases V with hc | hc | hc
    · rw [VV.sel_nums hc (by simpa using hb)]
      have hok : (VV.floats (at_.map (atI V.nums 0))).ok := by simpa [VV.ok] using hm
      have hnm : (VV.floats (at_.map (atI V.nums 0))).nm := map_atI_num hn
      obtain ⟨h1, h2, h3, h4, h5, h6⟩ := VV.sq_spec hok hnm
      refine ⟨h4, h5, ?_, fun a ha => by rw [boxs_of_cls (by rw [h3]; simp [VV.cls])] at ha; simp at ha⟩
      rw [h1, VV.least_eq hok hnm rfl, VV.least_eq h4 h5 h3, h2]
    · rw [VV.sel_chars hc]
      exact ⟨by simpa [VV.ok] using hm, trivial, rfl, fun a ha => by simp [VV.boxs] at ha⟩
    · rw [VV.sel_boxes hc]
      refine ⟨⟨by simpa using hm, atI_boxs (gV_box h)⟩, trivial, rfl, fun a ha => ?_⟩
      have ha : a ∈ at_.map (atI V.boxs blankA) := ha
      obtain ⟨i, _, rfl⟩ := List.mem_map.1 ha
      rcases atI_or V.boxs blankA i with ⟨k, rfl, hk, e⟩ | ⟨_, e⟩
      · rw [e]; exact h.2.2.2 _ (List.getElem_mem hk)
      · rw [e]; exact gA_blank d
/-- The items at some places. -/
theorem its_sel {d : Nat} {V : VV} {at_ : List Int} (h : gV (d + 1) V) (hm : at_.length ≤ 1048576) : itsA (d + 1) (V.sel at_) = at_.map (atI (itsA (d + 1) V) (blankI V.cls)) := by
  have hn := VV.nums_num h.1 h.2.1
  have hl := VV.sel_len V at_ hn hm
  have hc := VV.sel_cls V at_ hn hm
  unfold itsA
  rw [hl]
  apply List.ext_getElem (by simp)
  intro k h1 h2
  have hk : k < at_.length := by simpa using h1
  simp only [List.getElem_map, List.getElem_range]
  obtain ⟨i, hi⟩ : ∃ i, i = at_[k] := ⟨_, rfl⟩
  rw [← hi]
  have hat : at_[k]? = some i := by rw [hi]; exact List.getElem?_eq_getElem hk
  have hr : atI ((List.range V.len).map (itA (plA (d + 1)) V)) (blankI V.cls) i = if 0 ≤ i ∧ i < (V.len : Int) then itA (plA (d + 1)) V i.toNat else blankI V.cls := by
    by_cases hin : 0 ≤ i ∧ i < (V.len : Int)
    · obtain ⟨j, rfl⟩ := Int.eq_ofNat_of_zero_le hin.1
      rw [if_pos hin, atI_nat (by simp; omega)]
      simp
    · rw [if_neg hin, atI_neg (by simpa using hin)]
  rw [hr]
  unfold itA
  rw [hc]
  rcases VV.cls_cases V with c | c | c
  · rw [if_neg (by omega), if_neg (by omega), VV.sel_numbers at_ hn hm c, atI_some (x := atI V.nums 0 i) (by rw [List.getElem?_map, hat]; rfl)]
    by_cases hin : 0 ≤ i ∧ i < (V.len : Int)
    · rw [if_pos hin, if_neg (by omega), if_neg (by omega), show ((i.toNat : Nat) : Int) = i by omega]
    · rw [if_neg hin, atI_neg (by rw [VV.nums_length c]; exact hin)]
      simp [blankI, c]
  · rw [if_pos c, VV.sel_chars c]
    rw [text_chars, atI_some (x := atI V.text 32 i) (by rw [List.getElem?_map, hat]; rfl)]
    by_cases hin : 0 ≤ i ∧ i < (V.len : Int)
    · rw [if_pos hin, if_pos c, show ((i.toNat : Nat) : Int) = i by omega, atI_in (d := 32) (e := 0) (by rw [VV.text_len c]; exact hin)]
    · rw [if_neg hin, atI_neg (by rw [VV.text_len c]; exact hin)]
      simp [blankI, c]
  · rw [if_neg (by omega), if_pos c, VV.sel_boxes c]
    rw [boxs_boxes, atI_some (x := atI V.boxs blankA i) (by rw [List.getElem?_map, hat]; rfl)]
    by_cases hin : 0 ≤ i ∧ i < (V.len : Int)
    · rw [if_pos hin, if_neg (by omega), if_pos c, show ((i.toNat : Nat) : Int) = i by omega, atI_in (d := blankA) (e := ([], VV.none)) (by rw [VV.boxs_len c]; exact hin)]
    · rw [if_neg hin, atI_neg (by rw [VV.boxs_len c]; exact hin), plA_blank]
      simp [blankI, c]
theorem nice_plA (d : Nat) : ∀ A, gA d A → nice d (plA d A) := by
  induction d with
  | zero => intro A h; exact h.elim
  | succ d ih =>
    intro A h x hx
    have hx : x ∈ (List.range A.2.len).map (itA (plA d) A.2) := hx
    obtain ⟨k, hk, rfl⟩ := List.mem_map.1 hx
    have hk : k < A.2.len := by simpa using hk
    unfold itA
    rcases VV.cls_cases A.2 with c | c | c
    · rw [if_neg (by omega), if_neg (by omega)]
      exact ⟨(by show Num (atI A.2.nums 0 (k : Int)); exact atI_num (VV.nums_num h.2.1 h.2.2.1)), fun q hq => by simp at hq⟩
    · rw [if_pos c]
      exact ⟨⟨fin_zero, fun _ => rfl⟩, fun q hq => by simp at hq⟩
    · rw [if_neg (by omega), if_pos c]
      refine ⟨⟨fin_zero, fun _ => rfl⟩, fun q hq => ?_⟩
      simp only [List.mem_singleton] at hq
      subst hq
      have hkb : k < A.2.boxs.length := by rw [VV.boxs_len c]; exact hk
      rw [atI_nat hkb]
      exact ih _ (h.2.2.2.2 _ (List.getElem_mem hkb))
/-- Of a good plain array. -/
theorem its_arrP {d : Nat} {p : PA} (h : chk (d + 1) p = 0) : itsA d (arrP (d + 1) p).2 = (tidyP (d + 1) p).l := by
  have e := plA_arrP (d + 1) p h
  have : (plA (d + 1) (arrP (d + 1) p)).l = (tidyP (d + 1) p).l := by rw [e]
  exact this
end Go.Proofs.YtohkohnihaockaaGreatDoor

/- The reference of layer 8: Blank, Pick. -/
namespace Go.Proofs.YtohkohnihaockaaGreatDoor
set_option maxRecDepth 100000
open Go.RowKit Fl
set_option linter.unusedVariables false

/-- A row of items in the making. -/
def OutRel (w0 : World) (ok : Nat → Prop) (k : Nat) (v : Value) (L : List QI) (l : List PI) (wr : World) : Prop :=
  wr.ownsRow w0.heap.size 48 4 v k (flatI L) ∧ Quad wr (fun b => ok b ∧ v.ownBlock ≠ some b) L l ∧ Below w0.heap.size w0 wr
theorem OutRel.start (w0 : World) (ok : Nat → Prop) : OutRel w0 ok 0 (.slice none 0 0) [] [] w0 := ⟨World.ownsRow_nil _ _ _ _, Quad.nil _ _, Below.refl _ _⟩
theorem OutRel.step {w0 wr W4 w5 : World} {ok : Nat → Prop} {k : Nat} {v v' bx : Value} {L : List QI} {l : List PI} {x : PI} (h : OutRel w0 ok k v L l wr) (hr4 : Below wr.heap.size wr W4)
    (hx : IsB W4 (fun b => ok b ∧ v.ownBlock ≠ some b) bx x.2.2.2)
    (hown : w5.ownsRow w0.heap.size 48 4 v' (k + 1) (flatI L ++ quadV (x.1, x.2.1, x.2.2.1, bx))) (hg : W4.grownBy w5 v.ownBlock)
    (hk : ∀ j, v'.ownBlock = some j → v.ownBlock = some j ∨ W4.heap.size ≤ j) : OutRel w0 ok (k + 1) v' (L ++ [(x.1, x.2.1, x.2.2.1, bx)]) (l ++ [x]) w5 := by
  obtain ⟨h1, h2, h7⟩ := h
  have hq : Quad W4 (fun b => ok b ∧ v.ownBlock ≠ some b) (L ++ [(x.1, x.2.1, x.2.2.1, bx)]) (l ++ [x]) := (h2.keep (Kept.below hr4) (fun _ _ h => h)).snoc hx
  refine ⟨by rw [flatI_snoc]; exact hown, ?_, ?_⟩
  · refine Quad.keep (w := W4) (ok := fun b => ok b ∧ v.ownBlock ≠ some b) (Kept.grown hg (fun b hb e => hb.2 e.symm)) (fun b hb ho => ⟨ho.1, fun e => ?_⟩) hq
    rcases hk b e with e2 | e2
    · exact ho.2 e2
    · omega
  · exact (h7.trans (hr4.mono h7.size)).grown hg (by have := hr4.size; have := h7.size; omega) (fun j hj => (h1.lt j hj).1)
theorem OutRel.its {w0 wr : World} {ok : Nat → Prop} {k : Nat} {v : Value} {L : List QI} {l : List PI} (h : OutRel w0 ok k v L l wr) : Its wr (fun b => ok b ∨ w0.heap.size ≤ b) v l :=
  Its.of_own (ok := ok) h.1 (h.2.1.keep (Kept.refl _ _) (fun b _ h => h.1))

theorem own_ne {w w' : World} {v : Value} {n : Nat} {xs : List Value} (h : w'.ownsRow w.heap.size 48 4 v n xs) {b : Nat} (hb : b < w.heap.size) : v.ownBlock ≠ some b := fun e => by
  have := (h.lt b e).1; omega

end Go.Proofs.YtohkohnihaockaaGreatDoor

/- append of a slice that may be nil to a row of the call's own, of elements of any number of cells. -/
namespace Go.Proofs.YtohkohnihaockaaGreatDoor
set_option maxRecDepth 100000
open Go.RowKit
set_option linter.unusedVariables false

theorem wpList_append_opt {P : Program} (w : World) {ops : Array Oper} {rest : List Oper} {o : Oper} {a : Act} {Q : Exit → Act → World → Prop} (hgd : o.guard = none) (s x : Operand) (t : TypeId) (ho : o.op = .call { callee := .builtin .append, args := #[s, x], argTypes := #[t, t] })
    (base : Nat) (e : TypeId) (i : TypeInfo) (z : Value) (size bytes : Nat) (ht : P.underlying t = some (.slice e)) (hi : P.info? e = some i) (hz : i.zero = some z) (hsize : i.size = size) (hby : i.bytes = bytes) (hzs : z.cells.size = size) (hsz : 0 < size)
    (v : Value) (n : Nat) (xs : List Value) (hs : a.eval s = v) (hown : w.ownsRow base e size v n xs) (ao : Option Addr) (m c : Nat) (news : List Value) (hx : a.eval x = .slice ao m c) (hl : news.length = m * size)
    (hnews : ∀ j u, news[j]? = some u → ∃ ad, ao = some ad ∧ w.cell? (ad.add j) = some u) (h1 : ∀ u ∈ news, u.oneCell' = true) (h63 : n + m ≤ maxLen) (hbytes : (n + m) * bytes ≤ 140737488355328) (hbase : base ≤ w.heap.size)
    (h : ∀ v' w', w'.ownsRow base e size v' (n + m) (xs ++ news) → w.grownBy w' v.ownBlock → (∀ k, v'.ownBlock = some k → v.ownBlock = some k ∨ w.heap.size ≤ k) → wpList P ops Q rest (a.put o.dst v') w') : wpList P ops Q (o :: rest) a w := by
  cases ao with
  | some ad =>
    refine wpList_append_blk w hgd s x t ho base e i z size bytes ht hi hz hsize hby hzs hsz v n xs hs hown ad m c news hx hl (fun j u hu => ?_) h1 h63 hbytes hbase h
    obtain ⟨ad', e, hc⟩ := hnews j u hu
    cases e
    exact hc
  | none =>
    have hm : news = [] := by
      cases news with
      | nil => rfl
      | cons x xs => obtain ⟨ad, e2, _⟩ := hnews 0 x rfl; cases e2
    subst hm
    have hm0 : m = 0 := by
      rcases Nat.eq_zero_or_pos m with h0 | h0
      · exact h0
      · have := Nat.mul_pos h0 hsz
        simp at hl
        omega
    subst hm0
    refine wpList_plain hgd fun _ hK => ?_
    have hv : ∃ vo vc, v = .slice vo n vc ∧ n ≤ vc := by
      rcases hown.2 with ⟨rfl, rfl⟩ | ⟨g, cap, cur, rfl, _, _, h, _⟩
      · exact ⟨_, _, rfl, Nat.le_refl _⟩
      · exact ⟨_, _, rfl, h⟩
    obtain ⟨vo, vc, rfl, hle⟩ := hv
    have hr : (Builtin.append_ #[t, t] o.type #[.slice vo n vc, .slice none 0 c]).run P w = .ok (.slice vo n vc) w := by
      simp [Builtin.append_, run_underlying ht, sizeOf, typeInfo, hi, Builtin.lenOf, Builtin.firstCells, storeCells, hle]
      cases vo <;> rfl
    have hk := hK _ _ (h (.slice vo n vc) w (by simpa using hown) ⟨rfl, rfl, rfl, Nat.le_refl _, fun _ _ _ => rfl⟩ (fun k hk => Or.inl hk))
    suffices hg : Oper.upon P o a _ _ (Result.ok (Next.value (.slice vo n vc)) w) by simpa [Oper.wp, execOp, ho, resolve, invoke, builtin, hs, hx, hr] using hg
    exact hk
end Go.Proofs.YtohkohnihaockaaGreatDoor

/- Rows of items in the making: many items at once. -/
namespace Go.Proofs.YtohkohnihaockaaGreatDoor
set_option maxRecDepth 100000
open Go.RowKit Fl
set_option linter.unusedVariables false

theorem flatI_app (P Q : List QI) : flatI (P ++ Q) = flatI P ++ flatI Q := by simp [flatI]
theorem flatI_get {L : List QI} {j : Nat} {u : Value} (h : (flatI L)[j]? = some u) : ∃ t, L[j / 4]? = some t ∧ (quadV t)[j % 4]? = some u := by
  have hj := (List.getElem?_eq_some_iff.1 h).1
  rw [flatI_len] at hj
  have hi : j / 4 < L.length := by omega
  obtain ⟨a0, a1, a2, a3⟩ := flatI_at (List.getElem?_eq_getElem hi)
  refine ⟨L[j / 4], List.getElem?_eq_getElem hi, ?_⟩
  have hr : j % 4 = 0 ∨ j % 4 = 1 ∨ j % 4 = 2 ∨ j % 4 = 3 := by omega
  rcases hr with e | e | e | e
  · rw [show j / 4 * 4 = j by omega, h] at a0
    rw [e, a0]; rfl
  · rw [show j / 4 * 4 + 1 = j by omega, h] at a1
    rw [e, a1]; rfl
  · rw [show j / 4 * 4 + 2 = j by omega, h] at a2
    rw [e, a2]; rfl
  · rw [show j / 4 * 4 + 3 = j by omega, h] at a3
    rw [e, a3]; rfl
theorem Quad.app {w : World} {ok : Nat → Prop} {L M : List QI} {l m : List PI} (h : Quad w ok L l) (k : Quad w ok M m) : Quad w ok (L ++ M) (l ++ m) := by
  refine ⟨by simp [h.1, k.1], fun i x hx => ?_⟩
  by_cases hi : i < l.length
  · rw [List.getElem?_append_left hi] at hx
    rw [List.getElem?_append_left (by rw [h.1]; exact hi)]
    exact h.2 i x hx
  · rw [List.getElem?_append_right (by omega)] at hx
    rw [List.getElem?_append_right (by rw [h.1]; omega), h.1]
    exact k.2 _ x hx
/-- A list of items, read. -/
theorem Its.quads {w : World} {ok : Nat → Prop} {ao : Option Addr} {n cap : Nat} {l : List PI} (h : Its w ok (.slice ao n cap) l) :
    ∃ L, Quad w ok L l ∧ n = l.length ∧ (∀ j u, (flatI L)[j]? = some u → ∃ ad, ao = some ad ∧ w.cell? (ad.add j) = some u) ∧ ∀ u ∈ flatI L, u.oneCell' = true := by
  obtain ⟨ao', cap', B, e, h1, h2, hc, hp⟩ := h
  cases e
  have hat : ∀ (i : Nat) (x : PI), l[i]? = some x → (l.mapIdx fun i (x : PI) => ((x.1, x.2.1, x.2.2.1, B i) : QI))[i]? = some (x.1, x.2.1, x.2.2.1, B i) := by
    intro i x hx
    rw [List.getElem?_mapIdx, hx]; rfl
  have hback : ∀ (i : Nat) (t : QI), (l.mapIdx fun i (x : PI) => ((x.1, x.2.1, x.2.2.1, B i) : QI))[i]? = some t → ∃ x, l[i]? = some x ∧ t = (x.1, x.2.1, x.2.2.1, B i) := by
    intro i t ht
    rw [List.getElem?_mapIdx] at ht
    obtain ⟨x, hx, e⟩ := Option.map_eq_some_iff.1 ht
    exact ⟨x, hx, e.symm⟩
  refine ⟨_, ⟨by simp, fun i x hx => ⟨B i, hat i x hx, hp i x hx⟩⟩, rfl, fun j u hu => ?_, fun u hu => ?_⟩
  · obtain ⟨t, ht, hq⟩ := flatI_get hu
    obtain ⟨x, hx, rfl⟩ := hback _ _ ht
    obtain ⟨b, off, rfl, _, c0, c1, c2, c3⟩ := hc _ x hx
    refine ⟨_, rfl, ?_⟩
    rw [Go.WideShapes.add_plain]
    have hr : j % 4 = 0 ∨ j % 4 = 1 ∨ j % 4 = 2 ∨ j % 4 = 3 := by omega
    rcases hr with e | e | e | e
    · rw [e] at hq; cases hq
      rw [show off + j = off + j / 4 * 4 by omega]; exact c0
    · rw [e] at hq; cases hq
      rw [show off + j = off + j / 4 * 4 + 1 by omega]; exact c1
    · rw [e] at hq; cases hq
      rw [show off + j = off + j / 4 * 4 + 2 by omega]; exact c2
    · rw [e] at hq; cases hq
      rw [show off + j = off + j / 4 * 4 + 3 by omega]; exact c3
  · obtain ⟨j, hj⟩ := List.mem_iff_getElem?.1 hu
    obtain ⟨t, ht, hq⟩ := flatI_get hj
    obtain ⟨x, hx, rfl⟩ := hback _ _ ht
    obtain ⟨_, _, eb, _⟩ := (hp _ x hx).len
    have hr : j % 4 = 0 ∨ j % 4 = 1 ∨ j % 4 = 2 ∨ j % 4 = 3 := by omega
    rcases hr with e | e | e | e <;> rw [e] at hq <;> cases hq <;> first | rfl | (show (B (j / 4)).oneCell' = true; rw [eb]; rfl)
theorem OutRel.many {w0 wr w5 : World} {ok : Nat → Prop} {k : Nat} {v v' : Value} {L M : List QI} {l m : List PI} (h : OutRel w0 ok k v L l wr) (hx : Quad wr (fun b => ok b ∧ v.ownBlock ≠ some b) M m)
    (hown : w5.ownsRow w0.heap.size 48 4 v' (k + m.length) (flatI L ++ flatI M)) (hg : wr.grownBy w5 v.ownBlock)
    (hk : ∀ j, v'.ownBlock = some j → v.ownBlock = some j ∨ wr.heap.size ≤ j) : OutRel w0 ok (k + m.length) v' (L ++ M) (l ++ m) w5 := by
  obtain ⟨h1, h2, h7⟩ := h
  have hq : Quad wr (fun b => ok b ∧ v.ownBlock ≠ some b) (L ++ M) (l ++ m) := h2.app hx
  refine ⟨by rw [flatI_app]; exact hown, ?_, ?_⟩
  · refine Quad.keep (w := wr) (ok := fun b => ok b ∧ v.ownBlock ≠ some b) (Kept.grown hg (fun b hb e => hb.2 e.symm)) (fun b hb ho => ⟨ho.1, fun e => ?_⟩) hq
    rcases hk b e with e2 | e2
    · exact ho.2 e2
    · omega
  · exact h7.grown hg h7.size (fun j hj => (h1.lt j hj).1)
end Go.Proofs.YtohkohnihaockaaGreatDoor

/- Package flat, walked: places. -/
namespace Go.Proofs.YtohkohnihaockaaGreatDoor
set_option maxRecDepth 100000
open Go.RowKit Fl
set_option linter.unusedVariables false

end Go.Proofs.YtohkohnihaockaaGreatDoor

/- Package flat, walked: Turn, Again, Cut. -/
namespace Go.Proofs.YtohkohnihaockaaGreatDoor
set_option maxRecDepth 100000
open Go.RowKit Fl
set_option linter.unusedVariables false

def cutL (x n : Nat) : List Int := (List.range n).map fun (i : Nat) => (x : Int) + (i : Int)
/-- A number brought between 0 and another one. -/
def cl8 (a : Int) (n : Nat) : Nat := (min (max a 0) (n : Int)).toNat
noncomputable def VV.cut (V : VV) (a b : Int) : VV := if V.isBit = true then .bits ((V.packed.take (cl8 b V.len)).drop (cl8 a V.len)) else V.sel (cutL (cl8 a V.len) (cl8 b V.len - cl8 a V.len))

end Go.Proofs.YtohkohnihaockaaGreatDoor

/- slices.Grow, slices.Concat of lists of numbers, of characters and of booleans. -/
namespace Go.Proofs.YtohkohnihaockaaGreatDoor
set_option maxRecDepth 100000
open Go.RowKit
set_option linter.unusedVariables false

/-- v is a slice of slices, those of L. -/
def RowsG {α : Type} (f : α → Value) (w : World) (ok : Nat → Prop) (v : Value) (L : List (List α)) : Prop :=
  ∃ ao cap, v = .slice ao L.length cap ∧ ∀ i (h : i < L.length), ∃ b off u, ao = some ⟨b, off, none⟩ ∧ w.cell? ⟨b, off + i, none⟩ = some u ∧ Slc w ok u L[i].length (L[i].map f)
theorem RowsG.below {α : Type} {f : α → Value} {w w' : World} {ok : Nat → Prop} {v : Value} {L : List (List α)} (h : RowsG f w ok v L) (hb : Below w.heap.size w w') : RowsG f w' ok v L := by
  obtain ⟨ao, cap, rfl, hc⟩ := h
  refine ⟨ao, cap, rfl, fun i hi => ?_⟩
  obtain ⟨b, off, u, e, h1, h2⟩ := hc i hi
  exact ⟨b, off, u, e, keep_below hb _ _ h1, h2.below hb⟩
theorem map_one {α : Type} (f : α → Value) (h : ∀ x, (f x).oneCell' = true) (l : List α) : ∀ u ∈ l.map f, u.oneCell' = true := by
  intro u hu; obtain ⟨z, _, rfl⟩ := List.mem_map.1 hu; exact h z
theorem flatG_take {α : Type} {L : List (List α)} {k : Nat} {l : List α} (h : L[k]? = some l) : (L.take (k + 1)).flatten = (L.take k).flatten ++ l := by
  obtain ⟨hk, e⟩ := List.getElem?_eq_some_iff.1 h
  rw [List.take_succ_eq_append_getElem hk, List.flatten_append, e]; simp
theorem flatG_len {α : Type} {L : List (List α)} {k : Nat} {l : List α} (h : L[k]? = some l) : (L.take (k + 1)).flatten.length = (L.take k).flatten.length + l.length := by rw [flatG_take h, List.length_append]
theorem flatG_le {α : Type} (L : List (List α)) : ∀ d k, k + d = L.length → (L.take k).flatten.length ≤ L.flatten.length := by
  intro d
  induction d with
  | zero => intro k h; rw [List.take_of_length_le (by omega)]; exact Nat.le_refl _
  | succ d ih =>
    intro k h
    have := ih (k + 1) (by omega)
    rw [flatG_len (List.getElem?_eq_getElem (show k < L.length by omega))] at this
    omega

set_option maxHeartbeats 2000000 in
/-- Room for so many, from nothing. -/
theorem growF_calls (n : Nat) (hn : n ≤ 2000000) (w : World) :
    Calls Tryz.prog 88 #[.slice none 0 0, .int .i64 (n : Int)] w fun e w' => ∃ v, e = .returned v ∧ w'.ownsRow w.heap.size 44 1 v 0 [] ∧ Below w.heap.size w w' := by
  obtain ⟨i0, hi, hz0, hz1, hz2⟩ := info_parts info_f64
  by_cases h0 : n = 0
  · subst h0
    go_enter Tryz.func88, Tryz.ntmps88
    go_wp2
    go_ret
    exact ⟨_, rfl, World.ownsRow_nil _ _ _ _, Below.refl _ _⟩
  · have hpos : 0 < n := by omega
    have hold : (Builtin.firstCells i0.size 0 (.slice none 0 0)).run Tryz.prog w.drew = .ok (#[] : Array Value) w.drew := by simp [Builtin.firstCells]
    have hrz := Lib.run_append_grow_zeros w 45 3 45 44 i0 (.float .f64 0) .i64 .i64 Tryz.underlying45 Tryz.underlying3 hi hz0 none 0 0 [] hold n hpos (by omega) (by omega) (by omega) (by rw [hz2]; omega)
      (by rw [Nat.zero_add]; exact growslice_fits hpos (by rw [hz2]; omega))
    rw [Nat.zero_add] at hrz
    have hge := grownCap_ge w n 0 44
    have hcm := grownCap_le_maxLen w n 0 44 (by unfold maxLen; omega)
    obtain ⟨G, hG⟩ : ∃ G, G = grownCap w n 0 44 := ⟨_, rfl⟩
    rw [← hG] at hrz hge hcm
    clear hold hG
    go_enter Tryz.func88, Tryz.ntmps88
    go_wp2_with (at_builtin; refine Lib.wpList_append_run _ rfl _ _ _ _ rfl _ _ rfl rfl _ _ hrz ?_)
    go_ret
    refine ⟨.slice (some ⟨w.heap.size, 0, none⟩) 0 G, rfl, ?_, ?_⟩
    · have h := World.ownsRow_made (base := w.heap.size) (e := 44) (size := 1) w (Builtin.zeroCells #[Value.float FloatKind.f64 0] n ++ Builtin.zeroCells #[Value.float FloatKind.f64 0] (G - n)) G (Nat.le_refl _) hcm (by
        rw [Array.size_append, size_zeroCells, size_zeroCells]; simp; omega)
      exact h
    · exact Below.drewN' ((Below.refl w.heap.size w).alloc (Nat.le_refl _) _) 1

set_option maxHeartbeats 4000000 in
/-- Lists one behind the other. -/
theorem catF_calls {ok : Nat → Prop} (v : Value) (L : List (List Nat)) (w : World) (hv : RowsG (Value.float .f64) w ok v L) (hl : L.length ≤ 2000000) (hm : L.flatten.length ≤ 2000000) :
    Calls Tryz.prog 57 #[v] w fun e w' => ∃ z, e = .returned z ∧ Slc w' (fun b => w.heap.size ≤ b) z L.flatten.length ((L.flatten).map (Value.float .f64)) ∧ Below w.heap.size w w' := by
  obtain ⟨i0, hi, hz0, hz1, hz2⟩ := info_parts info_f64
  have HV := Lib.hid hv
  obtain ⟨ao, cap, rfl, _⟩ := hv
  have HM := Lib.hid (show ∀ k, k ≤ L.length → (L.take k).flatten.length ≤ 2000000 from fun k hk => Nat.le_trans (flatG_le L (L.length - k) k (by omega)) hm)
  have HF := Lib.hid hm
  clear hm
  go_enter Tryz.func57, Tryz.ntmps57
  go_wp2
  go_loopw [3, 11] (fun a i wr => ∃ k : Nat, k ≤ L.length ∧ i = .int .i64 (k : Int) ∧ a = .int .i64 (((L.take k).flatten.length : Nat) : Int) ∧ wr = w) (fun _ i _ => L.length - (intOf i).toNat)
  case atStart => exact ⟨0, by omega, rfl, rfl, rfl⟩
  case round =>
    obtain ⟨k, hk, rfl, rfl, hwr⟩ := hrel
    have hwr := hwr.symm
    subst hwr
    obtain ⟨n, hn⟩ : ∃ n, n = (L.take k).flatten.length := ⟨_, rfl⟩
    have HN := Lib.hid hn
    have hn2 : n ≤ 2000000 := by rw [hn]; exact HM.out k hk
    rw [← hn]
    clear hn
    by_cases hlt : k < L.length
    · obtain ⟨ao', cap', e1, hc⟩ := HV.out
      obtain ⟨b, off, u, e2, hcx, hs⟩ := hc k hlt
      obtain ⟨rfl, e1b⟩ : ao = some ⟨b, off, none⟩ ∧ cap = cap' := by cases e1; exact ⟨e2, rfl⟩
      obtain ⟨ao3, cap3, hu, _⟩ := hs.opened
      obtain ⟨l, hl2⟩ : ∃ l, L[k] = l := ⟨_, rfl⟩
      rw [hl2] at hu
      subst hu
      have HL := Lib.hid (flatG_len (show L[k]? = some l by rw [List.getElem?_eq_getElem hlt, hl2]))
      rw [← HN.out] at HL
      have hm2 := HM.out (k + 1) (by omega)
      rw [HL.out] at hm2
      clear hc hs e1 e2 e1b hl2
      go_wp2
      go_roundw
      case rel => exact ⟨k + 1, by omega, by go_num, by rw [HL.out]; go_num, by trivial⟩
      case measure => simp [intOf]; omega
    · have hkl : k = L.length := by omega
      have HNF := Lib.hid (show L.flatten.length = n by have := HN.out; rw [hkl, List.take_length] at this; exact this.symm)
      clear hkl
      go_wp2_with fail
      refine (growF_calls n hn2 _).mono ?_
      rintro e W1 ⟨vg, rfl, hown, hB⟩
      have HO := Lib.hid hown
      have HV1 := Lib.hid (HV.out.below hB)
      have HB := Lib.hid hB
      clear hown hB
      go_wp2
      go_loopw [6, 27] (fun a i wq => ∃ j : Nat, j ≤ L.length ∧ i = .int .i64 (j : Int) ∧ wq.ownsRow w.heap.size 44 1 a (L.take j).flatten.length (((L.take j).flatten).map (Value.float .f64)) ∧ Below w.heap.size w wq) (fun _ i _ => L.length - (intOf i).toNat)
      case atStart => exact ⟨0, by omega, rfl, HO.out, HB.out⟩
      case round =>
        obtain ⟨j, hj, rfl, hown, hB⟩ := hrel
        obtain ⟨m, hm⟩ : ∃ m, m = (L.take j).flatten.length := ⟨_, rfl⟩
        have HMJ := Lib.hid hm
        rw [← hm] at hown
        have HOW := Lib.hid hown
        have HBW := Lib.hid hB
        have hsz := hB.size
        clear hm hown
        by_cases hlt2 : j < L.length
        · obtain ⟨ao', cap', e1, hc⟩ := HV.out.below hB
          obtain ⟨b, off, u, e2, hcx, hs⟩ := hc j hlt2
          obtain ⟨rfl, e1b⟩ : ao = some ⟨b, off, none⟩ ∧ cap = cap' := by cases e1; exact ⟨e2, rfl⟩
          have hs2 := hs
          obtain ⟨ao3, cap3, hu, _⟩ := hs.opened
          obtain ⟨l, hl2⟩ : ∃ l, L[j] = l := ⟨_, rfl⟩
          rw [hl2] at hu hs2
          subst hu
          have HS := Lib.hid hs2
          have hlj : L[j]? = some l := by rw [List.getElem?_eq_getElem hlt2, hl2]
          have HL := Lib.hid (flatG_len hlj)
          have HFT := Lib.hid (flatG_take hlj)
          rw [← HMJ.out] at HL
          have hm2 := HM.out (j + 1) (by omega)
          rw [HL.out] at hm2
          clear hc hs hs2 e1 e2 e1b hl2 hB hlj
          go_wp2_with (at_builtin; refine wpList_append_any _ rfl _ _ 45 rfl w.heap.size 44 i0 (.float .f64 0) 8 Tryz.underlying45 hi hz0 hz1 hz2 rfl _ m (((L.take j).flatten).map (Value.float .f64)) rfl HOW.out ao3 l.length cap3 ((l).map (Value.float .f64)) rfl HS.out.1 (map_one (Value.float .f64) (fun _ => rfl) l) ?c3 ?c4 ?c5 ?_)
          case c3 => unfold maxLen; omega
          case c4 => omega
          case c5 => exact hsz
          intro v' w3 hown' hgrow
          have HO3 := Lib.hid hown'
          have HB3 := Lib.hid (grown_below HBW.out HOW.out (Nat.le_refl _) hsz hgrow)
          clear hown' hgrow
          go_wp2
          go_roundw
          case rel =>
            refine ⟨j + 1, by omega, by go_num, ?_, HB3.out⟩
            have := HO3.out
            rw [HL.out, HFT.out]
            simpa using this
          case measure => simp [intOf]; omega
        · have hkl : j = L.length := by omega
          have HK := Lib.hid hkl
          clear hkl hB
          go_wp2
          go_ret
          refine ⟨_, rfl, ?_, HBW.out⟩
          have := Slc.owned HOW.out
          rwa [HMJ.out, HK.out, List.take_length] at this

set_option maxHeartbeats 2000000 in
/-- Room for so many, from nothing. -/
theorem growC_calls (n : Nat) (hn : n ≤ 2000000) (w : World) :
    Calls Tryz.prog 85 #[.slice none 0 0, .int .i64 (n : Int)] w fun e w' => ∃ v, e = .returned v ∧ w'.ownsRow w.heap.size 21 1 v 0 [] ∧ Below w.heap.size w w' := by
  obtain ⟨i0, hi, hz0, hz1, hz2⟩ := info_parts info_i32
  by_cases h0 : n = 0
  · subst h0
    go_enter Tryz.func85, Tryz.ntmps85
    go_wp2
    go_ret
    exact ⟨_, rfl, World.ownsRow_nil _ _ _ _, Below.refl _ _⟩
  · have hpos : 0 < n := by omega
    have hold : (Builtin.firstCells i0.size 0 (.slice none 0 0)).run Tryz.prog w.drew = .ok (#[] : Array Value) w.drew := by simp [Builtin.firstCells]
    have hrz := Lib.run_append_grow_zeros w 69 3 69 21 i0 (.int .i32 0) .i64 .i64 Tryz.underlying69 Tryz.underlying3 hi hz0 none 0 0 [] hold n hpos (by omega) (by omega) (by omega) (by rw [hz2]; omega)
      (by rw [Nat.zero_add]; exact growslice_fits hpos (by rw [hz2]; omega))
    rw [Nat.zero_add] at hrz
    have hge := grownCap_ge w n 0 21
    have hcm := grownCap_le_maxLen w n 0 21 (by unfold maxLen; omega)
    obtain ⟨G, hG⟩ : ∃ G, G = grownCap w n 0 21 := ⟨_, rfl⟩
    rw [← hG] at hrz hge hcm
    clear hold hG
    go_enter Tryz.func85, Tryz.ntmps85
    go_wp2_with (at_builtin; refine Lib.wpList_append_run _ rfl _ _ _ _ rfl _ _ rfl rfl _ _ hrz ?_)
    go_ret
    refine ⟨.slice (some ⟨w.heap.size, 0, none⟩) 0 G, rfl, ?_, ?_⟩
    · have h := World.ownsRow_made (base := w.heap.size) (e := 21) (size := 1) w (Builtin.zeroCells #[Value.int IntKind.i32 0] n ++ Builtin.zeroCells #[Value.int IntKind.i32 0] (G - n)) G (Nat.le_refl _) hcm (by
        rw [Array.size_append, size_zeroCells, size_zeroCells]; simp; omega)
      exact h
    · exact Below.drewN' ((Below.refl w.heap.size w).alloc (Nat.le_refl _) _) 1

set_option maxHeartbeats 4000000 in
/-- Lists one behind the other. -/
theorem catC_calls {ok : Nat → Prop} (v : Value) (L : List (List Int)) (w : World) (hv : RowsG (Value.int .i32) w ok v L) (hl : L.length ≤ 2000000) (hm : L.flatten.length ≤ 2000000) :
    Calls Tryz.prog 54 #[v] w fun e w' => ∃ z, e = .returned z ∧ Slc w' (fun b => w.heap.size ≤ b) z L.flatten.length ((L.flatten).map (Value.int .i32)) ∧ Below w.heap.size w w' := by
  obtain ⟨i0, hi, hz0, hz1, hz2⟩ := info_parts info_i32
  have HV := Lib.hid hv
  obtain ⟨ao, cap, rfl, _⟩ := hv
  have HM := Lib.hid (show ∀ k, k ≤ L.length → (L.take k).flatten.length ≤ 2000000 from fun k hk => Nat.le_trans (flatG_le L (L.length - k) k (by omega)) hm)
  have HF := Lib.hid hm
  clear hm
  go_enter Tryz.func54, Tryz.ntmps54
  go_wp2
  go_loopw [3, 11] (fun a i wr => ∃ k : Nat, k ≤ L.length ∧ i = .int .i64 (k : Int) ∧ a = .int .i64 (((L.take k).flatten.length : Nat) : Int) ∧ wr = w) (fun _ i _ => L.length - (intOf i).toNat)
  case atStart => exact ⟨0, by omega, rfl, rfl, rfl⟩
  case round =>
    obtain ⟨k, hk, rfl, rfl, hwr⟩ := hrel
    have hwr := hwr.symm
    subst hwr
    obtain ⟨n, hn⟩ : ∃ n, n = (L.take k).flatten.length := ⟨_, rfl⟩
    have HN := Lib.hid hn
    have hn2 : n ≤ 2000000 := by rw [hn]; exact HM.out k hk
    rw [← hn]
    clear hn
    by_cases hlt : k < L.length
    · obtain ⟨ao', cap', e1, hc⟩ := HV.out
      obtain ⟨b, off, u, e2, hcx, hs⟩ := hc k hlt
      obtain ⟨rfl, e1b⟩ : ao = some ⟨b, off, none⟩ ∧ cap = cap' := by cases e1; exact ⟨e2, rfl⟩
      obtain ⟨ao3, cap3, hu, _⟩ := hs.opened
      obtain ⟨l, hl2⟩ : ∃ l, L[k] = l := ⟨_, rfl⟩
      rw [hl2] at hu
      subst hu
      have HL := Lib.hid (flatG_len (show L[k]? = some l by rw [List.getElem?_eq_getElem hlt, hl2]))
      rw [← HN.out] at HL
      have hm2 := HM.out (k + 1) (by omega)
      rw [HL.out] at hm2
      clear hc hs e1 e2 e1b hl2
      go_wp2
      go_roundw
      case rel => exact ⟨k + 1, by omega, by go_num, by rw [HL.out]; go_num, by trivial⟩
      case measure => simp [intOf]; omega
    · have hkl : k = L.length := by omega
      have HNF := Lib.hid (show L.flatten.length = n by have := HN.out; rw [hkl, List.take_length] at this; exact this.symm)
      clear hkl
      go_wp2_with fail
      refine (growC_calls n hn2 _).mono ?_
      rintro e W1 ⟨vg, rfl, hown, hB⟩
      have HO := Lib.hid hown
      have HV1 := Lib.hid (HV.out.below hB)
      have HB := Lib.hid hB
      clear hown hB
      go_wp2
      go_loopw [6, 27] (fun a i wq => ∃ j : Nat, j ≤ L.length ∧ i = .int .i64 (j : Int) ∧ wq.ownsRow w.heap.size 21 1 a (L.take j).flatten.length (((L.take j).flatten).map (Value.int .i32)) ∧ Below w.heap.size w wq) (fun _ i _ => L.length - (intOf i).toNat)
      case atStart => exact ⟨0, by omega, rfl, HO.out, HB.out⟩
      case round =>
        obtain ⟨j, hj, rfl, hown, hB⟩ := hrel
        obtain ⟨m, hm⟩ : ∃ m, m = (L.take j).flatten.length := ⟨_, rfl⟩
        have HMJ := Lib.hid hm
        rw [← hm] at hown
        have HOW := Lib.hid hown
        have HBW := Lib.hid hB
        have hsz := hB.size
        clear hm hown
        by_cases hlt2 : j < L.length
        · obtain ⟨ao', cap', e1, hc⟩ := HV.out.below hB
          obtain ⟨b, off, u, e2, hcx, hs⟩ := hc j hlt2
          obtain ⟨rfl, e1b⟩ : ao = some ⟨b, off, none⟩ ∧ cap = cap' := by cases e1; exact ⟨e2, rfl⟩
          have hs2 := hs
          obtain ⟨ao3, cap3, hu, _⟩ := hs.opened
          obtain ⟨l, hl2⟩ : ∃ l, L[j] = l := ⟨_, rfl⟩
          rw [hl2] at hu hs2
          subst hu
          have HS := Lib.hid hs2
          have hlj : L[j]? = some l := by rw [List.getElem?_eq_getElem hlt2, hl2]
          have HL := Lib.hid (flatG_len hlj)
          have HFT := Lib.hid (flatG_take hlj)
          rw [← HMJ.out] at HL
          have hm2 := HM.out (j + 1) (by omega)
          rw [HL.out] at hm2
          clear hc hs hs2 e1 e2 e1b hl2 hB hlj
          go_wp2_with (at_builtin; refine wpList_append_any _ rfl _ _ 69 rfl w.heap.size 21 i0 (.int .i32 0) 4 Tryz.underlying69 hi hz0 hz1 hz2 rfl _ m (((L.take j).flatten).map (Value.int .i32)) rfl HOW.out ao3 l.length cap3 ((l).map (Value.int .i32)) rfl HS.out.1 (map_one (Value.int .i32) (fun _ => rfl) l) ?c3 ?c4 ?c5 ?_)
          case c3 => unfold maxLen; omega
          case c4 => omega
          case c5 => exact hsz
          intro v' w3 hown' hgrow
          have HO3 := Lib.hid hown'
          have HB3 := Lib.hid (grown_below HBW.out HOW.out (Nat.le_refl _) hsz hgrow)
          clear hown' hgrow
          go_wp2
          go_roundw
          case rel =>
            refine ⟨j + 1, by omega, by go_num, ?_, HB3.out⟩
            have := HO3.out
            rw [HL.out, HFT.out]
            simpa using this
          case measure => simp [intOf]; omega
        · have hkl : j = L.length := by omega
          have HK := Lib.hid hkl
          clear hkl hB
          go_wp2
          go_ret
          refine ⟨_, rfl, ?_, HBW.out⟩
          have := Slc.owned HOW.out
          rwa [HMJ.out, HK.out, List.take_length] at this

set_option maxHeartbeats 2000000 in
/-- Room for so many, from nothing. -/
theorem growB_calls (n : Nat) (hn : n ≤ 2000000) (w : World) :
    Calls Tryz.prog 84 #[.slice none 0 0, .int .i64 (n : Int)] w fun e w' => ∃ v, e = .returned v ∧ w'.ownsRow w.heap.size 4 1 v 0 [] ∧ Below w.heap.size w w' := by
  obtain ⟨i0, hi, hz0, hz1, hz2⟩ := info_parts info_bool1
  by_cases h0 : n = 0
  · subst h0
    go_enter Tryz.func84, Tryz.ntmps84
    go_wp2
    go_ret
    exact ⟨_, rfl, World.ownsRow_nil _ _ _ _, Below.refl _ _⟩
  · have hpos : 0 < n := by omega
    have hold : (Builtin.firstCells i0.size 0 (.slice none 0 0)).run Tryz.prog w.drew = .ok (#[] : Array Value) w.drew := by simp [Builtin.firstCells]
    have hrz := Lib.run_append_grow_zeros w 65 3 65 4 i0 (.bool false) .i64 .i64 Tryz.underlying65 Tryz.underlying3 hi hz0 none 0 0 [] hold n hpos (by omega) (by omega) (by omega) (by rw [hz2]; omega)
      (by rw [Nat.zero_add]; exact growslice_fits hpos (by rw [hz2]; omega))
    rw [Nat.zero_add] at hrz
    have hge := grownCap_ge w n 0 4
    have hcm := grownCap_le_maxLen w n 0 4 (by unfold maxLen; omega)
    obtain ⟨G, hG⟩ : ∃ G, G = grownCap w n 0 4 := ⟨_, rfl⟩
    rw [← hG] at hrz hge hcm
    clear hold hG
    go_enter Tryz.func84, Tryz.ntmps84
    go_wp2_with (at_builtin; refine Lib.wpList_append_run _ rfl _ _ _ _ rfl _ _ rfl rfl _ _ hrz ?_)
    go_ret
    refine ⟨.slice (some ⟨w.heap.size, 0, none⟩) 0 G, rfl, ?_, ?_⟩
    · have h := World.ownsRow_made (base := w.heap.size) (e := 4) (size := 1) w (Builtin.zeroCells #[Value.bool false] n ++ Builtin.zeroCells #[Value.bool false] (G - n)) G (Nat.le_refl _) hcm (by
        rw [Array.size_append, size_zeroCells, size_zeroCells]; simp; omega)
      exact h
    · exact Below.drewN' ((Below.refl w.heap.size w).alloc (Nat.le_refl _) _) 1

set_option maxHeartbeats 4000000 in
/-- Lists one behind the other. -/
theorem catB_calls {ok : Nat → Prop} (v : Value) (L : List (List Bool)) (w : World) (hv : RowsG (Value.bool) w ok v L) (hl : L.length ≤ 2000000) (hm : L.flatten.length ≤ 2000000) :
    Calls Tryz.prog 50 #[v] w fun e w' => ∃ z, e = .returned z ∧ Slc w' (fun b => w.heap.size ≤ b) z L.flatten.length ((L.flatten).map (Value.bool)) ∧ Below w.heap.size w w' := by
  obtain ⟨i0, hi, hz0, hz1, hz2⟩ := info_parts info_bool1
  have HV := Lib.hid hv
  obtain ⟨ao, cap, rfl, _⟩ := hv
  have HM := Lib.hid (show ∀ k, k ≤ L.length → (L.take k).flatten.length ≤ 2000000 from fun k hk => Nat.le_trans (flatG_le L (L.length - k) k (by omega)) hm)
  have HF := Lib.hid hm
  clear hm
  go_enter Tryz.func50, Tryz.ntmps50
  go_wp2
  go_loopw [3, 11] (fun a i wr => ∃ k : Nat, k ≤ L.length ∧ i = .int .i64 (k : Int) ∧ a = .int .i64 (((L.take k).flatten.length : Nat) : Int) ∧ wr = w) (fun _ i _ => L.length - (intOf i).toNat)
  case atStart => exact ⟨0, by omega, rfl, rfl, rfl⟩
  case round =>
    obtain ⟨k, hk, rfl, rfl, hwr⟩ := hrel
    have hwr := hwr.symm
    subst hwr
    obtain ⟨n, hn⟩ : ∃ n, n = (L.take k).flatten.length := ⟨_, rfl⟩
    have HN := Lib.hid hn
    have hn2 : n ≤ 2000000 := by rw [hn]; exact HM.out k hk
    rw [← hn]
    clear hn
    by_cases hlt : k < L.length
    · obtain ⟨ao', cap', e1, hc⟩ := HV.out
      obtain ⟨b, off, u, e2, hcx, hs⟩ := hc k hlt
      obtain ⟨rfl, e1b⟩ : ao = some ⟨b, off, none⟩ ∧ cap = cap' := by cases e1; exact ⟨e2, rfl⟩
      obtain ⟨ao3, cap3, hu, _⟩ := hs.opened
      obtain ⟨l, hl2⟩ : ∃ l, L[k] = l := ⟨_, rfl⟩
      rw [hl2] at hu
      subst hu
      have HL := Lib.hid (flatG_len (show L[k]? = some l by rw [List.getElem?_eq_getElem hlt, hl2]))
      rw [← HN.out] at HL
      have hm2 := HM.out (k + 1) (by omega)
      rw [HL.out] at hm2
      clear hc hs e1 e2 e1b hl2
      go_wp2
      go_roundw
      case rel => exact ⟨k + 1, by omega, by go_num, by rw [HL.out]; go_num, by trivial⟩
      case measure => simp [intOf]; omega
    · have hkl : k = L.length := by omega
      have HNF := Lib.hid (show L.flatten.length = n by have := HN.out; rw [hkl, List.take_length] at this; exact this.symm)
      clear hkl
      go_wp2_with fail
      refine (growB_calls n hn2 _).mono ?_
      rintro e W1 ⟨vg, rfl, hown, hB⟩
      have HO := Lib.hid hown
      have HV1 := Lib.hid (HV.out.below hB)
      have HB := Lib.hid hB
      clear hown hB
      go_wp2
      go_loopw [6, 27] (fun a i wq => ∃ j : Nat, j ≤ L.length ∧ i = .int .i64 (j : Int) ∧ wq.ownsRow w.heap.size 4 1 a (L.take j).flatten.length (((L.take j).flatten).map (Value.bool)) ∧ Below w.heap.size w wq) (fun _ i _ => L.length - (intOf i).toNat)
      case atStart => exact ⟨0, by omega, rfl, HO.out, HB.out⟩
      case round =>
        obtain ⟨j, hj, rfl, hown, hB⟩ := hrel
        obtain ⟨m, hm⟩ : ∃ m, m = (L.take j).flatten.length := ⟨_, rfl⟩
        have HMJ := Lib.hid hm
        rw [← hm] at hown
        have HOW := Lib.hid hown
        have HBW := Lib.hid hB
        have hsz := hB.size
        clear hm hown
        by_cases hlt2 : j < L.length
        · obtain ⟨ao', cap', e1, hc⟩ := HV.out.below hB
          obtain ⟨b, off, u, e2, hcx, hs⟩ := hc j hlt2
          obtain ⟨rfl, e1b⟩ : ao = some ⟨b, off, none⟩ ∧ cap = cap' := by cases e1; exact ⟨e2, rfl⟩
          have hs2 := hs
          obtain ⟨ao3, cap3, hu, _⟩ := hs.opened
          obtain ⟨l, hl2⟩ : ∃ l, L[j] = l := ⟨_, rfl⟩
          rw [hl2] at hu hs2
          subst hu
          have HS := Lib.hid hs2
          have hlj : L[j]? = some l := by rw [List.getElem?_eq_getElem hlt2, hl2]
          have HL := Lib.hid (flatG_len hlj)
          have HFT := Lib.hid (flatG_take hlj)
          rw [← HMJ.out] at HL
          have hm2 := HM.out (j + 1) (by omega)
          rw [HL.out] at hm2
          clear hc hs hs2 e1 e2 e1b hl2 hB hlj
          go_wp2_with (at_builtin; refine wpList_append_any _ rfl _ _ 65 rfl w.heap.size 4 i0 (.bool false) 1 Tryz.underlying65 hi hz0 hz1 hz2 rfl _ m (((L.take j).flatten).map (Value.bool)) rfl HOW.out ao3 l.length cap3 ((l).map (Value.bool)) rfl HS.out.1 (map_one (Value.bool) (fun _ => rfl) l) ?c3 ?c4 ?c5 ?_)
          case c3 => unfold maxLen; omega
          case c4 => omega
          case c5 => exact hsz
          intro v' w3 hown' hgrow
          have HO3 := Lib.hid hown'
          have HB3 := Lib.hid (grown_below HBW.out HOW.out (Nat.le_refl _) hsz hgrow)
          clear hown' hgrow
          go_wp2
          go_roundw
          case rel =>
            refine ⟨j + 1, by omega, by go_num, ?_, HB3.out⟩
            have := HO3.out
            rw [HL.out, HFT.out]
            simpa using this
          case measure => simp [intOf]; omega
        · have hkl : j = L.length := by omega
          have HK := Lib.hid hkl
          clear hkl hB
          go_wp2
          go_ret
          refine ⟨_, rfl, ?_, HBW.out⟩
          have := Slc.owned HOW.out
          rwa [HMJ.out, HK.out, List.take_length] at this
end Go.Proofs.YtohkohnihaockaaGreatDoor

/- Package flat, walked: Join's parts: withElements, firstClass, commonKind, fit. -/
namespace Go.Proofs.YtohkohnihaockaaGreatDoor
set_option maxRecDepth 100000
open Go.RowKit Fl
set_option linter.unusedVariables false

/-- v is a slice of vectors: their values and what they hold. -/
def VecsZ (w : World) (ok : Nat → Prop) (v : Value) (Z : List (Value × VV)) : Prop := Slc w ok v Z.length (Z.map Prod.fst) ∧ ∀ p ∈ Z, IsV w ok p.1 p.2
theorem VecsZ.keep {w w' : World} {ok ok' : Nat → Prop} {v : Value} {Z : List (Value × VV)} (hk : Kept ok w w') (hm : ∀ b, b < w.heap.size → ok b → ok' b) (h : VecsZ w ok v Z) : VecsZ w' ok' v Z := ⟨h.1.keep hk hm, fun p hp => (h.2 p hp).keep hk hm⟩
theorem IsV.one {w : World} {ok : Nat → Prop} {u : Value} {V : VV} (h : IsV w ok u V) : u.oneCell' = true := by
  rcases h.shape with rfl | ⟨t, x, rfl⟩ <;> rfl
theorem VecsZ.at {w : World} {ok : Nat → Prop} {ao : Option Addr} {n cap : Nat} {Z : List (Value × VV)} (h : VecsZ w ok (.slice ao n cap) Z) {k : Nat} (hk : k < Z.length) :
    ∃ b off p, ao = some ⟨b, off, none⟩ ∧ Z[k]? = some p ∧ w.cell? ⟨b, off + k, none⟩ = some p.1 ∧ IsV w ok p.1 p.2 := by
  obtain ⟨ao', cap', e, _, _, _, hc⟩ := h.1.opened
  cases e
  obtain ⟨b, off, e, _, hcell⟩ := hc k (by simpa using hk)
  refine ⟨b, off, Z[k], e, List.getElem?_eq_getElem hk, by simpa using hcell, h.2 _ (List.getElem_mem hk)⟩
def fullZ (Z : List (Value × VV)) : List (Value × VV) := Z.filter fun p => decide (0 < p.2.len)
theorem info_vec1 : (Tryz.prog.info? 31).map (fun i => (i.zero, i.size, i.bytes)) = some (some (.agg #[.nilIface]), 1, 16) := by kernel_rfl

set_option maxHeartbeats 4000000 in
theorem withElements_calls {ok : Nat → Prop} (v : Value) (Z : List (Value × VV)) (w : World) (hz : VecsZ w ok v Z) (hm : Z.length ≤ 2000000) :
    Calls Tryz.prog 18 #[v] w fun e w' => ∃ v', e = .returned v' ∧ Slc w' (fun b => w.heap.size ≤ b) v' (fullZ Z).length ((fullZ Z).map Prod.fst) ∧ Below w.heap.size w w' := by
  have HZ := Lib.hid (hz.keep (Kept.refl _ _) (ok' := fun b => b < w.heap.size) (fun b h _ => h))
  obtain ⟨ao, cap, rfl, _⟩ := hz.1.opened
  obtain ⟨i0, hi, hz0, hz1, hz2⟩ := info_parts info_vec1
  have HI0 := Lib.hid (And.intro hi (And.intro hz0 (And.intro hz1 hz2)))
  clear hz hi hz0 hz1 hz2
  go_enter Tryz.func18, Tryz.ntmps18
  go_wp2_with fail
  go_loopw [3, 8] (fun f i wr => ∃ k : Nat, k ≤ Z.length ∧ i = .int .i64 k ∧ wr.ownsRow w.heap.size 31 1 f (fullZ (Z.take k)).length ((fullZ (Z.take k)).map Prod.fst) ∧ Below w.heap.size w wr) (fun _ i _ => Z.length - (intOf i).toNat)
  case atStart => exact ⟨0, by omega, rfl, by simpa [fullZ] using World.ownsRow_nil _ _ _ _, Below.refl _ _⟩
  case round =>
    obtain ⟨k, hk, rfl, hown, hB⟩ := hrel
    obtain ⟨fo, fc, hf⟩ := owns_form hown
    subst hf
    have HO := Lib.hid hown
    have HB := Lib.hid hB
    have HSZ := Lib.hid hB.size
    obtain ⟨m, hm1⟩ : ∃ m, m = (fullZ (Z.take k)).length := ⟨_, rfl⟩
    have HM := Lib.hid hm1
    rw [← hm1] at HO ⊢
    have HMK := Lib.hid (show m ≤ k by rw [hm1]; exact Nat.le_trans (List.length_filter_le _ _) (by simp; omega))
    clear hown hB hm1
    by_cases hlt : k < Z.length
    · obtain ⟨b, off, p, rfl, hp, c0, hv⟩ := HZ.out.at hlt
      have c0 := keep_below HB.out _ _ c0
      have hsv := hv.store
      obtain ⟨pu, pV⟩ := p
      have HV := Lib.hid (show IsV (wr.alloc (.cells #[pu] 31)) (fun b => b < w.heap.size) pu pV from (hv.grow HB.out).grow (below_new _ _))
      have HTK := Lib.hid (ptake hp)
      have HA := Lib.hid (At1.new wr pu 31)
      have a0 := HA.out.2.1
      have HON := Lib.hid (show ∀ u ∈ [pu], u.oneCell' = true by intro u hu; simp at hu; subst hu; exact hv.one)
      simp only at c0
      clear hp hv
      go_wp2_with fail
      refine (vlen_calls _ pV _ HV.out).mono ?_
      rintro e W3 ⟨rfl, hB3⟩
      have HBr3 := Lib.hid (show Below wr.heap.size wr W3 from (below_new _ _).trans (hB3.mono (by simp)))
      have HA3 := Lib.hid (HA.out.below hB3)
      have a0 := HA3.out.2.1
      clear hB3
      by_cases hl : 0 < pV.len
      · have hl1 : ((pV.len : Int) > 0) = True := eq_true (by omega)
        have hl2 : 0 < pV.len := hl
        have HFK := Lib.hid (show fullZ (Z.take (k + 1)) = fullZ (Z.take k) ++ [(pu, pV)] by rw [HTK.out]; simp [fullZ, hl])
        obtain ⟨W4, hW4⟩ : ∃ W4, W4 = W3.alloc (.cells #[pu] 31) := ⟨_, rfl⟩
        have HB4 := Lib.hid (show Below wr.heap.size wr W4 by rw [hW4]; exact HBr3.out.alloc HBr3.out.size _)
        have HO4 := Lib.hid (owns_below2 HO.out HB4.out)
        have HN4 := Lib.hid (show ∀ j u, [pu][j]? = some u → W4.cell? ((⟨W3.heap.size, 0, none⟩ : Addr).add j) = some u by
          rw [hW4]; intro j u h
          rw [Go.WideShapes.add_plain]
          match j with
          | 0 => simp at h; subst h; simp
          | j + 1 => simp at h)
        have HS4 := Lib.hid (Nat.le_trans HSZ.out HB4.out.size)
        have HM1 : Hid (m + 1 ≤ maxLen) := Lib.hid (by have := HMK.out; unfold maxLen; omega)
        have HM2 : Hid ((m + 1) * 16 ≤ 140737488355328) := Lib.hid (by have := HMK.out; omega)
        have hfold4 := hW4.symm
        have hst := hsv
        clear hW4 hl
        go_wp2_with (at_builtin; refine wpList_append_blk _ rfl _ _ 24 rfl w.heap.size 31 i0 _ 1 16 Tryz.underlying24 HI0.out.1 HI0.out.2.1 HI0.out.2.2.1 HI0.out.2.2.2 rfl (by decide) _ m _ rfl HO4.out ⟨W3.heap.size, 0, none⟩ 1 1 [pu] rfl rfl HN4.out HON.out HM1.out HM2.out HS4.out ?_)
        intro v' w5 hown hgrow hblk
        obtain ⟨o5, q5, rfl⟩ := owns_form hown
        have HO5 := Lib.hid hown
        have HB5 := Lib.hid (show Below w.heap.size w w5 from (HB.out.trans (HB4.out.mono HSZ.out)).grown hgrow HS4.out (fun j hj => (HO.out.lt j hj).1))
        clear hown hgrow hblk hfold4 a0
        go_wp2_with fail
        go_roundw
        case rel =>
          refine ⟨k + 1, by omega, by go_num, ?_, HB5.out⟩
          rw [HFK.out, List.length_append, List.map_append, ← HM.out]
          exact HO5.out
        case measure => simp [intOf]; omega
      · have hl1 : ¬ ((pV.len : Int) > 0) := by omega
        have HFK := Lib.hid (show fullZ (Z.take (k + 1)) = fullZ (Z.take k) by rw [HTK.out]; simp [fullZ, hl])
        have hl2 : ¬ 0 < pV.len := hl
        clear hl
        go_wp2_with fail
        go_roundw
        case rel =>
          refine ⟨k + 1, by omega, by go_num, ?_, HB.out.trans (HBr3.out.mono HSZ.out)⟩
          rw [HFK.out, ← HM.out]
          exact owns_below2 HO.out HBr3.out
        case measure => simp [intOf]; omega
    · have hkl : k = Z.length := by omega
      have HFIN := Lib.hid (show Slc wr (fun b => w.heap.size ≤ b) (.slice fo m fc) (fullZ Z).length ((fullZ Z).map Prod.fst) by
        have h := Slc.owned HO.out
        have e := HM.out
        rw [hkl, List.take_length] at h e
        rw [e] at h ⊢; exact h)
      clear hkl
      go_wp2_with fail
      go_ret
      exact ⟨_, rfl, HFIN.out, HB.out⟩
end Go.Proofs.YtohkohnihaockaaGreatDoor

/- Two rows in the making: vectors, and plain arrays. -/
namespace Go.Proofs.YtohkohnihaockaaGreatDoor
set_option maxRecDepth 100000
open Go.RowKit Fl
set_option linter.unusedVariables false

abbrev TV := Value × Value × Value
def triV (t : TV) : List Value := [t.1, t.2.1, t.2.2]
def flat3 (L : List TV) : List Value := L.flatMap triV
theorem flat3_len (L : List TV) : (flat3 L).length = L.length * 3 := by
  induction L with
  | nil => rfl
  | cons t L ih => simp only [flat3, List.flatMap_cons, List.length_append] at ih ⊢; rw [ih]; simp [triV]; omega
theorem flat3_snoc (L : List TV) (t : TV) : flat3 (L ++ [t]) = flat3 L ++ triV t := by simp [flat3]
theorem flat3_at {L : List TV} {i : Nat} {t : TV} (h : L[i]? = some t) : (flat3 L)[i * 3]? = some t.1 ∧ (flat3 L)[i * 3 + 1]? = some t.2.1 ∧ (flat3 L)[i * 3 + 2]? = some t.2.2 := by
  obtain ⟨hk, e⟩ := List.getElem?_eq_some_iff.1 h
  have hl : L = L.take i ++ ([t] ++ L.drop (i + 1)) := by rw [← e]; simp
  have hlen : (flat3 (L.take i)).length = i * 3 := by rw [flat3_len, List.length_take]; omega
  have hf : flat3 L = flat3 (L.take i) ++ (triV t ++ flat3 (L.drop (i + 1))) := by
    conv => lhs; rw [hl]
    simp [flat3]
  rw [hf]
  refine ⟨?_, ?_, ?_⟩
  · rw [List.getElem?_append_right (by omega), hlen]; simp [triV]
  · rw [List.getElem?_append_right (by omega), hlen, Nat.add_sub_cancel_left]; rfl
  · rw [List.getElem?_append_right (by omega), hlen, Nat.add_sub_cancel_left]; rfl
/-- L are the cells of the plain arrays T. -/
def Tri (w : World) (ok : Nat → Prop) (L : List TV) (T : List PA) : Prop :=
  L.length = T.length ∧ ∀ (i : Nat) (p : PA), T[i]? = some p → ∃ t, L[i]? = some t ∧ IsP w ok (.agg #[t.1, t.2.1, t.2.2]) p
theorem Tri.nil (w : World) (ok : Nat → Prop) : Tri w ok [] [] := ⟨rfl, fun i x h => by simp at h⟩
theorem Tri.keep {w w' : World} {ok ok' : Nat → Prop} {L : List TV} {T : List PA} (hk : Kept ok w w') (hm : ∀ b, b < w.heap.size → ok b → ok' b) (h : Tri w ok L T) : Tri w' ok' L T :=
  ⟨h.1, fun i x hx => by obtain ⟨v, h1, h2⟩ := h.2 i x hx; exact ⟨v, h1, h2.keep hk hm⟩⟩
theorem Tri.snoc {w : World} {ok : Nat → Prop} {L : List TV} {T : List PA} (h : Tri w ok L T) {p : PA} {t : TV} (hv : IsP w ok (.agg #[t.1, t.2.1, t.2.2]) p) : Tri w ok (L ++ [t]) (T ++ [p]) := by
  refine ⟨by simp [h.1], fun i y hy => ?_⟩
  by_cases hi : i < T.length
  · rw [List.getElem?_append_left hi] at hy
    obtain ⟨u, h1, h2⟩ := h.2 i y hy
    exact ⟨u, by rw [List.getElem?_append_left (by rw [h.1]; exact hi)]; exact h1, h2⟩
  · obtain ⟨h1, _⟩ := List.getElem?_eq_some_iff.1 hy
    have : i = T.length := by simp at h1; omega
    subst this
    rw [List.getElem?_append_right (Nat.le_refl _), Nat.sub_self] at hy
    cases Option.some.inj hy
    exact ⟨t, by rw [List.getElem?_append_right (by rw [h.1]; exact Nat.le_refl _), h.1, Nat.sub_self]; rfl, hv⟩
theorem IsB.of_own {w : World} {base n : Nat} {ok : Nat → Prop} {v : Value} {L : List TV} {T : List PA} (h : w.ownsRow base 29 3 v n (flat3 L)) (hq : Tri w ok L T) : IsB w (fun b => ok b ∨ base ≤ b) v T := by
  have hn : n = T.length := by have := h.1; rw [flat3_len, hq.1] at this; omega
  subst hn
  rcases h.2 with ⟨rfl, hl0⟩ | ⟨g, cap, cur, rfl, hb, hg, hnc, hcm, hcs, htake⟩
  · have : T = [] := List.eq_nil_of_length_eq_zero hl0
    subst this
    exact IsB.nil _ _
  · refine ⟨_, cap, fun i => (L[i]?.map (fun t => t.1)).getD undef, fun i => (L[i]?.map (fun t => t.2.1)).getD undef, fun i => (L[i]?.map (fun t => t.2.2)).getD undef, rfl, hnc, hcm, fun i hi => ?_, fun i p hp => ?_⟩
    · obtain ⟨t, h1, _⟩ := hq.2 i _ (List.getElem?_eq_getElem hi)
      obtain ⟨c0, c1, c2⟩ := flat3_at h1
      refine ⟨g, 0, rfl, .inr hb, ?_, ?_, ?_⟩
      · rw [Nat.zero_add, h.cellAt (i * 3) (by omega), c0]; simp only [h1, Option.map_some, Option.getD_some]
      · rw [Nat.zero_add, h.cellAt (i * 3 + 1) (by omega), c1]; simp only [h1, Option.map_some, Option.getD_some]
      · rw [Nat.zero_add, h.cellAt (i * 3 + 2) (by omega), c2]; simp only [h1, Option.map_some, Option.getD_some]
    · obtain ⟨t, h1, h2⟩ := hq.2 i p hp
      simp only [h1, Option.map_some, Option.getD_some]
      exact h2.wide (fun _ _ h => .inl h)

def JR (w0 : World) (k j : Nat) (vo vt : Value) (Z : List (Value × VV)) (L : List TV) (T : List PA) (wr : World) : Prop :=
  wr.ownsRow w0.heap.size 31 1 vo k (Z.map Prod.fst) ∧ wr.ownsRow w0.heap.size 29 3 vt j (flat3 L) ∧ (∀ b, vo.ownBlock = some b → vt.ownBlock ≠ some b) ∧
  (∀ p ∈ Z, IsV wr (fun b => vo.ownBlock ≠ some b ∧ vt.ownBlock ≠ some b) p.1 p.2) ∧ Tri wr (fun b => vo.ownBlock ≠ some b ∧ vt.ownBlock ≠ some b) L T ∧ Below w0.heap.size w0 wr
theorem JR.start (w0 : World) : JR w0 0 0 (.slice none 0 0) (.slice none 0 0) [] [] [] w0 :=
  ⟨World.ownsRow_nil _ _ _ _, World.ownsRow_nil _ _ _ _, (fun b h => by cases h), (fun p hp => by cases hp), Tri.nil _ _, Below.refl _ _⟩
theorem JR.free {w0 wr : World} {k j : Nat} {vo vt : Value} {Z : List (Value × VV)} {L : List TV} {T : List PA} (h : JR w0 k j vo vt Z L T wr) {b : Nat} (hb : wr.heap.size ≤ b) : vo.ownBlock ≠ some b ∧ vt.ownBlock ≠ some b :=
  ⟨fun e => by have := (h.1.lt b e).2; omega, fun e => by have := (h.2.1.lt b e).2; omega⟩
theorem JR.old {w0 wr : World} {k j : Nat} {vo vt : Value} {Z : List (Value × VV)} {L : List TV} {T : List PA} (h : JR w0 k j vo vt Z L T wr) {b : Nat} (hb : b < w0.heap.size) : vo.ownBlock ≠ some b ∧ vt.ownBlock ≠ some b :=
  ⟨fun e => by have := (h.1.lt b e).1; omega, fun e => by have := (h.2.1.lt b e).1; omega⟩
theorem JR.own {w0 wr W4 w5 : World} {k j : Nat} {vo vt v' u : Value} {V : VV} {Z : List (Value × VV)} {L : List TV} {T : List PA} (h : JR w0 k j vo vt Z L T wr) (hr4 : Below wr.heap.size wr W4)
    (hu : IsV W4 (fun b => vo.ownBlock ≠ some b ∧ vt.ownBlock ≠ some b) u V)
    (hown : w5.ownsRow w0.heap.size 31 1 v' (k + 1) (Z.map Prod.fst ++ [u])) (hg : W4.grownBy w5 vo.ownBlock)
    (hk : ∀ j, v'.ownBlock = some j → vo.ownBlock = some j ∨ W4.heap.size ≤ j) : JR w0 (k + 1) j v' vt (Z ++ [(u, V)]) L T w5 := by
  obtain ⟨h1, h2, h3, h4, h5, h7⟩ := h
  have hs := hr4.size
  have hko : Kept (fun b => vo.ownBlock ≠ some b ∧ vt.ownBlock ≠ some b) W4 w5 := Kept.grown hg (fun b hb e => hb.1 e.symm)
  have hmo : ∀ b, b < W4.heap.size → (vo.ownBlock ≠ some b ∧ vt.ownBlock ≠ some b) → (v'.ownBlock ≠ some b ∧ vt.ownBlock ≠ some b) := fun b hb ho => ⟨fun e => by
    rcases hk b e with e2 | e2
    · exact ho.1 e2
    · omega, ho.2⟩
  refine ⟨by simpa using hown, World.ownsRow.kept (owns_below2 h2 hr4) hg ?_, fun b hb hb2 => ?_, fun p hp => ?_, ?_, ?_⟩
  · cases hb : vt.ownBlock with
    | none => exact Or.inl rfl
    | some b => exact Or.inr (fun e => h3 b e.symm hb)
  · rcases hk b hb with e | e
    · exact h3 b e hb2
    · have := (h2.lt b hb2).2; omega
  · rcases List.mem_append.1 hp with hp | hp
    · exact ((h4 p hp).grow hr4).keep hko hmo
    · rw [List.mem_singleton.1 hp]; exact hu.keep hko hmo
  · exact (h5.keep (Kept.below hr4) (fun _ _ h => h)).keep hko hmo
  · exact (h7.trans (hr4.mono h7.size)).grown hg (by have := h7.size; omega) (fun j hj => (h1.lt j hj).1)
theorem JR.tidy {w0 wr W4 w5 : World} {k j : Nat} {vo vt v' : Value} {t : TV} {p : PA} {Z : List (Value × VV)} {L : List TV} {T : List PA} (h : JR w0 k j vo vt Z L T wr) (hr4 : Below wr.heap.size wr W4)
    (hp : IsP W4 (fun b => vo.ownBlock ≠ some b ∧ vt.ownBlock ≠ some b) (.agg #[t.1, t.2.1, t.2.2]) p)
    (hown : w5.ownsRow w0.heap.size 29 3 v' (j + 1) (flat3 L ++ triV t)) (hg : W4.grownBy w5 vt.ownBlock)
    (hk : ∀ j, v'.ownBlock = some j → vt.ownBlock = some j ∨ W4.heap.size ≤ j) : JR w0 k (j + 1) vo v' Z (L ++ [t]) (T ++ [p]) w5 := by
  obtain ⟨h1, h2, h3, h4, h5, h7⟩ := h
  have hs := hr4.size
  have hko : Kept (fun b => vo.ownBlock ≠ some b ∧ vt.ownBlock ≠ some b) W4 w5 := Kept.grown hg (fun b hb e => hb.2 e.symm)
  have hmo : ∀ b, b < W4.heap.size → (vo.ownBlock ≠ some b ∧ vt.ownBlock ≠ some b) → (vo.ownBlock ≠ some b ∧ v'.ownBlock ≠ some b) := fun b hb ho => ⟨ho.1, fun e => by
    rcases hk b e with e2 | e2
    · exact ho.2 e2
    · omega⟩
  refine ⟨World.ownsRow.kept (owns_below2 h1 hr4) hg ?_, by rw [flat3_snoc]; exact hown, fun b hb hb2 => ?_, fun q hq => ?_, ?_, ?_⟩
  · cases hb : vo.ownBlock with
    | none => exact Or.inl rfl
    | some b => exact Or.inr (fun e => h3 b hb e.symm)
  · rcases hk b hb2 with e | e
    · exact h3 b hb e
    · have := (h1.lt b hb).2; omega
  · exact ((h4 q hq).grow hr4).keep hko hmo
  · exact ((h5.keep (Kept.below hr4) (fun _ _ h => h)).snoc hp).keep hko hmo
  · exact (h7.trans (hr4.mono h7.size)).grown hg (by have := h7.size; omega) (fun j hj => (h2.lt j hj).1)
theorem JR.ends {w0 wr : World} {k j : Nat} {vo vt : Value} {Z : List (Value × VV)} {L : List TV} {T : List PA} (h : JR w0 k j vo vt Z L T wr) :
    VecsZ wr (fun _ => True) vo Z ∧ IsB wr (fun _ => True) vt T ∧ Z.length = k ∧ T.length = j := by
  obtain ⟨h1, h2, h3, h4, h5, h7⟩ := h
  have e1 : Z.length = k := by have := h1.1; simpa using this
  have e2 : T.length = j := by have := h2.1; rw [flat3_len, h5.1] at this; omega
  refine ⟨⟨?_, fun p hp => (h4 p hp).any⟩, (IsB.of_own h2 h5).keep (Kept.refl _ _) (fun _ _ _ => trivial), e1, e2⟩
  rw [e1]; exact (Slc.owned h1).any
theorem info_plain3 : (Tryz.prog.info? 29).map (fun i => (i.zero, i.size, i.bytes)) = some (some (.agg #[.slice none 0 0, .slice none 0 0, .int .i64 0]), 3, 56) := by kernel_rfl
theorem cell_three_new (w : World) (a b c : Value) (t : TypeId) : ∀ j u, [a, b, c][j]? = some u → (w.alloc (.cells #[a, b, c] t)).cell? ((⟨w.heap.size, 0, none⟩ : Addr).add j) = some u := by
  intro j u h
  rw [Go.WideShapes.add_plain]
  match j with
  | 0 => simp at h; subst h; simp
  | 1 => simp at h; subst h; simp
  | 2 => simp at h; subst h; simp
  | j + 3 => simp at h
theorem cell_one_newv (w : World) (x : Value) (t : TypeId) : ∀ j u, [x][j]? = some u → (w.alloc (.cells #[x] t)).cell? ((⟨w.heap.size, 0, none⟩ : Addr).add j) = some u := by
  intro j u h
  rw [Go.WideShapes.add_plain]
  match j with
  | 0 => simp at h; subst h; simp
  | j + 1 => simp at h
end Go.Proofs.YtohkohnihaockaaGreatDoor

/- Package flat, walked: Join's parts: firstClass, commonKind, fit. -/
namespace Go.Proofs.YtohkohnihaockaaGreatDoor
set_option maxRecDepth 100000
open Go.RowKit Fl
set_option linter.unusedVariables false

def clsZ : List (Value × VV) → Int
  | [] => 0 | p :: _ => p.2.cls
def comZ (k0 : Int) (Z : List (Value × VV)) : Int := (Z.map fun p => p.2.kind).foldl commonK k0
def lensZ (Z : List (Value × VV)) : Nat := (Z.map fun p => p.2.len).sum

set_option maxHeartbeats 4000000 in
theorem firstClass_calls {ok : Nat → Prop} (v : Value) (Z : List (Value × VV)) (w : World) (hz : VecsZ w ok v Z) :
    Calls Tryz.prog 20 #[v] w fun e w' => e = .returned (.int .i64 (clsZ Z)) ∧ Below w.heap.size w w' := by
  have HZ := Lib.hid hz
  obtain ⟨ao, cap, rfl, _⟩ := hz.1.opened
  clear hz
  cases Z with
  | nil =>
    have hl : ((([] : List (Value × VV)).length : Int) == 0) = true := rfl
    go_enter Tryz.func20, Tryz.ntmps20
    go_wp2_with fail
    go_ret
    exact ⟨rfl, Below.refl _ _⟩
  | cons p Z =>
    obtain ⟨b, off, q, rfl, hq, c0, hv⟩ := HZ.out.at (k := 0) (by simp)
    obtain rfl : p = q := by simpa using hq
    have HV := Lib.hid hv
    have c1 : w.cell? ⟨b, off, none⟩ = some p.1 := c0
    have hl : (((p :: Z).length : Int) == 0) = false := by rw [beq_eq_false_iff_ne]; simp; omega
    have hl2 : 0 < (p :: Z).length := by simp
    clear hq hv
    obtain ⟨N, hN⟩ : ∃ N, N = (p :: Z).length := ⟨_, rfl⟩
    rw [← hN] at hl hl2 ⊢
    clear hN
    go_enter Tryz.func20, Tryz.ntmps20
    go_wp2_with fail
    refine (class_calls _ p.2 _ HV.out).mono ?_
    rintro e W ⟨rfl, hB⟩
    go_wp2_with fail
    go_ret
    exact ⟨rfl, hB⟩

set_option maxHeartbeats 4000000 in
theorem fit_calls {ok : Nat → Prop} (v : Value) (Z : List (Value × VV)) (w : World) (hz : VecsZ w ok v Z) (hlen : ∀ p ∈ Z, p.2.len ≤ 1048576) (hm : Z.length ≤ 2000000) :
    Calls Tryz.prog 22 #[v] w fun e w' => e = .returned (.bool (decide (lensZ Z ≤ 1048576))) ∧ Below w.heap.size w w' := by
  have HZ := Lib.hid hz
  have HLN := Lib.hid hlen
  obtain ⟨ao, cap, rfl, _⟩ := hz.1.opened
  clear hz hlen
  have HLE := Lib.hid (show ∀ k, lensZ (Z.take k) ≤ lensZ Z from fun k => by
    have : lensZ Z = lensZ (Z.take k) + lensZ (Z.drop k) := by unfold lensZ; rw [← List.sum_append, ← List.map_append, List.take_append_drop]
    omega)
  go_enter Tryz.func22, Tryz.ntmps22
  go_wp2_with fail
  go_loopw [3, 8] (fun r i wr => ∃ k : Nat, k ≤ Z.length ∧ i = .int .i64 k ∧ r = .int .i64 (1048576 - (lensZ (Z.take k) : Int)) ∧ lensZ (Z.take k) ≤ 1048576 ∧ Below w.heap.size w wr) (fun _ i _ => Z.length - (intOf i).toNat)
  case atStart => exact ⟨0, by omega, rfl, by simp [lensZ], by simp [lensZ], Below.refl _ _⟩
  case round =>
    obtain ⟨k, hk, rfl, rfl, hr, hB⟩ := hrel
    have HB := Lib.hid hB
    clear hB
    obtain ⟨s, hs⟩ : ∃ s, s = lensZ (Z.take k) := ⟨_, rfl⟩
    have HS := Lib.hid hs
    rw [← hs] at hr ⊢
    clear hs
    by_cases hlt : k < Z.length
    · obtain ⟨b, off, p, rfl, hp, c0, hv⟩ := HZ.out.at hlt
      have c0 := keep_below HB.out _ _ c0
      have hsv := hv.store
      obtain ⟨pu, pV⟩ := p
      have hpl := HLN.out _ (List.mem_of_getElem? hp)
      have HV := Lib.hid (show IsV (wr.alloc (.cells #[pu] 31)) ok pu pV from (hv.grow HB.out).grow (below_new _ _))
      have HTK := Lib.hid (show lensZ (Z.take (k + 1)) = s + pV.len by rw [HS.out, ptake hp]; simp [lensZ])
      have a0 := (At1.new wr pu 31).2.1
      simp only at c0 hpl
      obtain ⟨n, hn⟩ : ∃ n, n = pV.len := ⟨_, rfl⟩
      have HN := Lib.hid hn
      rw [← hn] at hpl HTK
      clear hp hv hn
      go_wp2_with fail
      refine (vlen_calls _ pV _ HV.out).mono ?_
      rintro e W3 ⟨rfl, hB3⟩
      rw [← HN.out]
      have HBr3 := Lib.hid (show Below wr.heap.size wr W3 from (below_new _ _).trans (hB3.mono (by simp)))
      have HBW := Lib.hid (HB.out.trans (HBr3.out.mono HB.out.size))
      clear hB3 a0
      have hwr : IntKind.i64.wrap ((1048576 - (s : Int)) - (n : Int)) = (1048576 - (s : Int)) - (n : Int) := IntWalk.i64_in _ (by omega)
      by_cases hf : (1048576 - (s : Int)) - (n : Int) < 0
      · have HF := Lib.hid (show decide (lensZ Z ≤ 1048576) = false from decide_eq_false (by have := HLE.out (k + 1); rw [HTK.out] at this; omega))
        go_wp2_with fail
        go_ret
        rw [HF.out]
        exact ⟨rfl, HBW.out⟩
      · have HLT := Lib.hid hlt
        have HFX := Lib.hid hf
        go_wp2_with fail
        go_roundw
        case rel => exact ⟨k + 1, HLT.out, by go_num, by rw [HTK.out]; congr 1; push_cast; omega, by rw [HTK.out]; have := HFX.out; omega, HBW.out⟩
        case measure => have := HLT.out; simp [intOf]; omega
    · have hkl : k = Z.length := by omega
      have HF := Lib.hid (show decide (lensZ Z ≤ 1048576) = true from decide_eq_true (by have := HS.out; rw [hkl, List.take_length] at this; omega))
      clear hkl
      go_wp2_with fail
      go_ret
      rw [HF.out]
      exact ⟨rfl, HB.out⟩

set_option maxHeartbeats 4000000 in
theorem commonKind_calls {ok : Nat → Prop} (v : Value) (p0 : Value × VV) (Z : List (Value × VV)) (w : World) (hz : VecsZ w ok v (p0 :: Z)) (hm : (p0 :: Z).length ≤ 2000000) :
    Calls Tryz.prog 21 #[v] w fun e w' => e = .returned (.int .i64 (comZ p0.2.kind (p0 :: Z))) ∧ Below w.heap.size w w' := by
  have HZ := Lib.hid hz
  obtain ⟨ao, cap, rfl, _⟩ := hz.1.opened
  obtain ⟨b, off, q, rfl, hq, c0, hv⟩ := HZ.out.at (k := 0) (by simp)
  obtain rfl : p0 = q := by simpa using hq
  have HV0 := Lib.hid hv
  have c1 : w.cell? ⟨b, off, none⟩ = some p0.1 := c0
  clear hz hq hv
  obtain ⟨Y, hY⟩ : ∃ Y, Y = p0 :: Z := ⟨_, rfl⟩
  rw [← hY] at HZ hm ⊢
  have hl2 : 0 < Y.length := by rw [hY]; simp
  clear hY c0
  go_enter Tryz.func21, Tryz.ntmps21
  go_wp2_with fail
  refine (kind_calls _ p0.2 _ HV0.out).mono ?_
  rintro e W1 ⟨rfl, hB1⟩
  have HB1 := Lib.hid hB1
  clear hB1 c1
  go_wp2_with fail
  go_loopw [3, 12] (fun r i wr => ∃ k : Nat, k ≤ Y.length ∧ i = .int .i64 k ∧ r = .int .i64 (comZ p0.2.kind (Y.take k)) ∧ Below w.heap.size w wr) (fun _ i _ => Y.length - (intOf i).toNat)
  case atStart => exact ⟨0, by omega, rfl, rfl, HB1.out⟩
  case round =>
    obtain ⟨k, hk, rfl, rfl, hB⟩ := hrel
    have HB := Lib.hid hB
    clear hB
    obtain ⟨s, hs⟩ : ∃ s, s = comZ p0.2.kind (Y.take k) := ⟨_, rfl⟩
    have HS := Lib.hid hs
    rw [← hs]
    clear hs
    by_cases hlt : k < Y.length
    · obtain ⟨b2, off2, p, e2, hp, c0, hv⟩ := HZ.out.at hlt
      cases e2
      have c0 := keep_below HB.out _ _ c0
      have hsv := hv.store
      obtain ⟨pu, pV⟩ := p
      have HV := Lib.hid (show IsV (wr.alloc (.cells #[pu] 31)) ok pu pV from (hv.grow HB.out).grow (below_new _ _))
      have HTK := Lib.hid (show comZ p0.2.kind (Y.take (k + 1)) = commonK s pV.kind by rw [HS.out, ptake hp]; simp [comZ])
      have a0 := (At1.new wr pu 31).2.1
      simp only at c0
      clear hp hv
      go_wp2_with fail
      refine (kind_calls _ pV _ HV.out).mono ?_
      rintro e W3 ⟨rfl, hB3⟩
      have HBr3 := Lib.hid (show Below wr.heap.size wr W3 from (below_new _ _).trans (hB3.mono (by simp)))
      have HBW := Lib.hid (HB.out.trans (HBr3.out.mono HB.out.size))
      clear hB3 a0
      go_wp2_with fail
      refine (common_calls s pV.kind _).mono ?_
      rintro e W4 ⟨rfl, rfl⟩
      go_wp2_with fail
      go_roundw
      case rel => exact ⟨k + 1, by omega, by go_num, by rw [HTK.out], HBW.out⟩
      case measure => simp [intOf]; omega
    · have hkl : k = Y.length := by omega
      have HF := Lib.hid (show comZ p0.2.kind Y = s by rw [HS.out, hkl, List.take_length])
      clear hkl
      go_wp2_with fail
      go_ret
      rw [HF.out]
      exact ⟨rfl, HB.out⟩
end Go.Proofs.YtohkohnihaockaaGreatDoor

/- Package flat, walked: flags, joined. -/
namespace Go.Proofs.YtohkohnihaockaaGreatDoor
set_option maxRecDepth 100000
open Go.RowKit Fl
set_option linter.unusedVariables false

theorem row_set {xs : List Value} {z x : Value} {k n : Nat} (hx : xs.length = k) (hk : k < n) : (xs ++ List.replicate (n - k) z).set k x = (xs ++ [x]) ++ List.replicate (n - (k + 1)) z := by
  have e : n - k = (n - (k + 1)) + 1 := by omega
  rw [List.set_append_right _ _ (by omega), hx, Nat.sub_self, e, List.replicate_succ, List.set_cons_zero, List.append_assoc]
  rfl

set_option maxHeartbeats 4000000 in
theorem flags8_calls {ok : Nat → Prop} (u : Value) (V : VV) (w : World) (h : IsV w ok u V) (hok : V.ok) :
    Calls Tryz.prog 26 #[.agg #[u]] w fun e w' => ∃ v, e = .returned v ∧ Slc w' (fun b => w.heap.size ≤ b) v V.packed.length (bools V.packed) ∧ Below w.heap.size w w' := by
  have HU := Lib.hid (h.grow (below_new w (.cells #[u] 31)))
  have hsu := h.store
  have HA := Lib.hid (At1.new w u 31)
  have a0 := HA.out.2.1
  have HOK := Lib.hid hok
  clear h hok
  go_enter Tryz.func26, Tryz.ntmps26
  go_wp2_with fail
  refine (vpacked_calls _ V _ HU.out).mono ?_
  rintro e W1 ⟨vb, rfl, hbt, hB⟩
  have HBT := Lib.hid hbt
  obtain ⟨so, sc, rfl, _⟩ := hbt.opened
  have HB := Lib.hid (show Below w.heap.size w W1 from (below_new _ _).trans (hB.mono (by simp)))
  clear hbt hB a0
  obtain ⟨W2, hW2⟩ : ∃ W2, W1.alloc (.cells #[.int .i64 (V.packed.length : Int), .slice so ((V.packed.length + 63) / 64) sc] 63) = W2 := ⟨_, rfl⟩
  have HB2 := Lib.hid (show Below W1.heap.size W1 W2 by rw [← hW2]; exact below_new _ _)
  have HA2 := Lib.hid (show At2 W2 W1.heap.size (.int .i64 (V.packed.length : Int)) (.slice so ((V.packed.length + 63) / 64) sc) by rw [← hW2]; exact At2.new _ _ _ _)
  have HBT2 := Lib.hid (HBT.out.keep (keep_below HB2.out))
  have HBW := Lib.hid (HB.out.trans (HB2.out.mono HB.out.size))
  have b0 := HA2.out.2.1
  have b1 := HA2.out.2.2.1
  go_wp2_with fail
  clear hW2
  refine (unpack_slc _ V.packed _ HBT2.out (VV.packed_ok HOK.out)).mono ?_
  rintro e W3 ⟨v, rfl, hv, hB3⟩
  have HV := Lib.hid (show Slc W3 (fun b => w.heap.size ≤ b) v V.packed.length (bools V.packed) from hv.keep (Kept.refl _ _) (fun b _ (h : _ ≤ b) => Nat.le_trans HBW.out.size h))
  obtain ⟨vo, vc, rfl, _⟩ := hv.opened
  have HB3 := Lib.hid (HBW.out.trans (hB3.mono HBW.out.size))
  clear hv hB3 b0 b1
  go_wp2_with fail
  go_ret
  exact ⟨_, rfl, HV.out, HB3.out⟩

theorem info_slF : (Tryz.prog.info? 45).map (fun i => (i.zero, i.size, i.bytes)) = some (some (.slice none 0 0), 1, 24) := by kernel_rfl
theorem run_mkSF (n : Nat) (hn : n ≤ 2000000) (w : World) : (Instr.makeSlice 107 (.int .i64 (n : Int)) (.int .i64 (n : Int))).run Tryz.prog w = .ok (.slice (some ⟨w.heap.size, 0, none⟩) n n) (w.alloc (.cells (zerosV (.slice none 0 0) n) 45)) := by
  obtain ⟨i0, hi, hz0, hz1, hz2⟩ := info_parts info_slF
  have hr := run_make (P := Tryz.prog) w 107 45 i0 _ Tryz.underlying107 hi hz0 .i64 .i64 n n (by omega) (Int.le_refl _) (by rw [hz2]; omega) (by omega)
  simp only [Int.toNat_natCast, hz1] at hr
  exact hr

set_option maxHeartbeats 4000000 in
theorem joinF_calls {ok : Nat → Prop} (v : Value) (Z : List (Value × VV)) (w : World) (hz : VecsZ w ok v Z) (hm : Z.length ≤ 1000000) (hok : ∀ p ∈ Z, p.2.ok) (hsm : (Z.flatMap fun p => p.2.nums).length ≤ 2000000) (hT : TabAt w) :
    Calls Tryz.prog 34 #[v, .func (.func 35) #[] #[]] w fun e w' => ∃ z, e = .returned z ∧ Slc w' (fun b => w.heap.size ≤ b) z (Z.flatMap fun p => p.2.nums).length (f64s (Z.flatMap fun p => p.2.nums)) ∧ Below w.heap.size w w' := by
  have HZ := Lib.hid (hz.keep (Kept.refl _ _) (ok' := fun b => b < w.heap.size) (fun b h _ => h))
  have HOK := Lib.hid hok
  have HT := Lib.hid hT
  have HSM := Lib.hid hsm
  obtain ⟨ao, cap, rfl, _⟩ := hz.1.opened
  have hmk := run_mkSF Z.length (by omega) w
  obtain ⟨W0, hW0⟩ : ∃ W0, W0 = w.alloc (.cells (zerosV (.slice none 0 0) Z.length) 45) := ⟨_, rfl⟩
  have HO0 := Lib.hid (show W0.ownsRow w.heap.size 45 1 (.slice (some ⟨w.heap.size, 0, none⟩) Z.length Z.length) Z.length (List.replicate Z.length (.slice none 0 0)) by rw [hW0]; exact own_make1 _ _ _ (by omega) _ _ (Nat.le_refl _))
  have HW := Lib.hid (show Below w.heap.size w W0 by rw [hW0]; exact below_new _ _)
  clear hz hok hT
  go_enter Tryz.func34, Tryz.ntmps34
  go_wp2_with fail
  rw [← hW0]
  clear hW0 hmk
  go_loopw [13] (fun i wr => ∃ (k : Nat) (xs : List Value), k ≤ Z.length ∧ i = .int .i64 k ∧ xs.length = k ∧ wr.ownsRow w.heap.size 45 1 (.slice (some ⟨w.heap.size, 0, none⟩) Z.length Z.length) Z.length (xs ++ List.replicate (Z.length - k) (.slice none 0 0)) ∧ (∀ (i : Nat) (p : Value × VV) (x : Value), Z[i]? = some p → xs[i]? = some x → Slc wr (fun b => b < w.heap.size ∨ w.heap.size < b) x p.2.nums.length (f64s p.2.nums)) ∧ W0.grownBy wr (some w.heap.size)) (fun i _ => Z.length - (intOf i).toNat)
  case atStart => exact ⟨0, [], by omega, rfl, rfl, HO0.out, fun i p x _ h => by simp at h, grown_refl _ _⟩
  case round =>
    obtain ⟨k, xs, hk, rfl, hxl, hown, hX, hgr⟩ := hrel
    have HO := Lib.hid hown
    have HG := Lib.hid hgr
    have HX := Lib.hid hX
    have HXL := Lib.hid hxl
    have HB := Lib.hid (HW.out.grown hgr HW.out.size (fun j hj => by cases hj; omega))
    have HGS := Lib.hid (hown.lt w.heap.size rfl).2
    clear hown hgr hX hxl
    by_cases hlt : k < Z.length
    · obtain ⟨b, off, p, rfl, hp, c0, hv⟩ := HZ.out.at hlt
      have c0 := keep_below HB.out _ _ c0
      have hsv := hv.store
      obtain ⟨pu, pV⟩ := p
      have HP := Lib.hid hp
      have HPK := Lib.hid (HOK.out _ (List.mem_of_getElem? hp))
      have HV := Lib.hid (show IsV (wr.alloc (.cells #[pu] 31)) (fun b => b < w.heap.size) pu pV from (hv.grow HB.out).grow (below_new _ _))
      have a0 := (At1.new wr pu 31).2.1
      have HT1 := Lib.hid (show TabAt (wr.alloc (.cells #[pu] 31)) from fun j hj => keep_below (HB.out.alloc HB.out.size _) _ _ (HT.out j hj))
      simp only at c0
      clear hp hv
      go_wp2_with fail
      refine (vnums_calls _ pV _ HV.out HPK.out HT1.out).mono ?_
      rintro e W3 ⟨v3, rfl, hv3, hB3⟩
      have HBr3 := Lib.hid (show Below wr.heap.size wr W3 from (below_new _ _).trans (hB3.mono (by simp)))
      have HV3 := Lib.hid (show Slc W3 (fun b => b < w.heap.size ∨ w.heap.size < b) v3 pV.nums.length (f64s pV.nums) from hv3.keep (Kept.refl _ _) (fun b _ (h : _ ≤ b) => Or.inr (by have := HGS.out; simp at h; omega)))
      obtain ⟨vo, vc, rfl, _⟩ := hv3.opened
      clear hv3 hB3 a0
      have HO3 := Lib.hid (owns_below2 HO.out HBr3.out)
      have HX3 := Lib.hid (show ∀ (i : Nat) (p : Value × VV) (x : Value), Z[i]? = some p → xs[i]? = some x → Slc W3 (fun b => b < w.heap.size ∨ w.heap.size < b) x p.2.nums.length (f64s p.2.nums) from fun i p x h1 h2 => (HX.out i p x h1 h2).keep (Kept.below HBr3.out) (fun _ _ h => h))
      have HG3 := Lib.hid (grown_trans HG.out (grown_any (below_grown HBr3.out) _))
      have hcw := owns_cell2 HO3.out k (by simp; have := HXL.out; omega)
      have hfr := World.ownsRow.frozenAt HO3.out k
      go_wp2_with fail
      go_roundw
      case rel =>
        refine ⟨k + 1, xs ++ [.slice vo pV.nums.length vc], by omega, by go_num, by simp [HXL.out], ?_, ?_, grown_trans HG3.out (grown_setCell _ ⟨w.heap.size, k, none⟩ _)⟩
        · have := (World.ownsRow.stored HO3.out k (.slice vo pV.nums.length vc)).1
          rwa [row_set HXL.out hlt] at this
        · intro i p x hp hx
          have hkk : Kept (fun b => (b < w.heap.size) ∨ w.heap.size < b) W3 (W3.setCell ⟨w.heap.size, k, none⟩ (.slice vo pV.nums.length vc)) := Kept.setCell _ _ _ (by simp)
          by_cases e : i < k
          · rw [List.getElem?_append_left (by rw [HXL.out]; exact e)] at hx
            exact (HX3.out i p x hp hx).keep hkk (fun _ _ h => h)
          · have e2 : i = k := by have := (List.getElem?_eq_some_iff.1 hx).1; simp [HXL.out] at this; omega
            subst e2
            rw [List.getElem?_append_right (by rw [HXL.out]; exact Nat.le_refl _), HXL.out, Nat.sub_self] at hx
            obtain rfl := Option.some.inj hx
            obtain rfl := Option.some.inj (HP.out.symm.trans hp)
            exact HV3.out.keep hkk (fun _ _ h => h)
      case measure => simp [intOf]; omega
    · have hkl : k = Z.length := by omega
      subst hkl
      clear hlt
      have HROW := Lib.hid (show RowsG (Value.float .f64) wr (fun b => b < w.heap.size ∨ w.heap.size < b) (.slice (some ⟨w.heap.size, 0, none⟩) Z.length Z.length) (Z.map fun p => p.2.nums) by
        refine ⟨some ⟨w.heap.size, 0, none⟩, Z.length, by simp, fun i hi => ?_⟩
        have hi : i < Z.length := by simpa using hi
        have hix : i < xs.length := by rw [HXL.out]; exact hi
        refine ⟨w.heap.size, 0, xs[i], rfl, ?_, ?_⟩
        · have := owns_cell2 HO.out i (by simp; omega)
          rw [Nat.zero_add, this, List.getElem_append_left hix]
        · have := HX.out i Z[i] xs[i] (List.getElem?_eq_getElem hi) (List.getElem?_eq_getElem hix)
          simpa [f64s] using this)
      have HFL := Lib.hid (show (Z.map fun p => p.2.nums).flatten = Z.flatMap fun p => p.2.nums from (List.flatMap_def).symm)
      go_wp2_with fail
      refine (catF_calls _ _ _ HROW.out (by simp; omega) (by rw [HFL.out]; exact HSM.out)).mono ?_
      rintro e W ⟨z, rfl, hz, hB2⟩
      rw [HFL.out] at hz
      have HB2 := Lib.hid (HB.out.trans (hB2.mono HB.out.size))
      have HZ2 := Lib.hid (hz.keep (Kept.refl _ _) (ok' := fun b => w.heap.size ≤ b) (fun b _ (h : _ ≤ b) => Nat.le_trans HB.out.size h))
      obtain ⟨zo, zc, rfl, _⟩ := hz.opened
      clear hz hB2
      obtain ⟨ZL, hZL⟩ : ∃ ZL, ZL = (Z.flatMap fun p => p.2.nums) := ⟨_, rfl⟩
      have HZL := Lib.hid hZL
      rw [← hZL] at HZ2 ⊢
      clear hZL
      go_wp2_with fail
      go_ret
      exact ⟨_, rfl, by rw [← HZL.out]; exact HZ2.out, HB2.out⟩

theorem info_slC : (Tryz.prog.info? 69).map (fun i => (i.zero, i.size, i.bytes)) = some (some (.slice none 0 0), 1, 24) := by kernel_rfl
theorem run_mkSC (n : Nat) (hn : n ≤ 2000000) (w : World) : (Instr.makeSlice 100 (.int .i64 (n : Int)) (.int .i64 (n : Int))).run Tryz.prog w = .ok (.slice (some ⟨w.heap.size, 0, none⟩) n n) (w.alloc (.cells (zerosV (.slice none 0 0) n) 69)) := by
  obtain ⟨i0, hi, hz0, hz1, hz2⟩ := info_parts info_slC
  have hr := run_make (P := Tryz.prog) w 100 69 i0 _ Tryz.underlying100 hi hz0 .i64 .i64 n n (by omega) (Int.le_refl _) (by rw [hz2]; omega) (by omega)
  simp only [Int.toNat_natCast, hz1] at hr
  exact hr

set_option maxHeartbeats 4000000 in
theorem joinC_calls {ok : Nat → Prop} (v : Value) (Z : List (Value × VV)) (w : World) (hz : VecsZ w ok v Z) (hm : Z.length ≤ 1000000) (hok : ∀ p ∈ Z, p.2.ok) (hsm : (Z.flatMap fun p => p.2.text).length ≤ 2000000) (hT : TabAt w) :
    Calls Tryz.prog 28 #[v, .func (.func 29) #[] #[]] w fun e w' => ∃ z, e = .returned z ∧ Slc w' (fun b => w.heap.size ≤ b) z (Z.flatMap fun p => p.2.text).length (i32s (Z.flatMap fun p => p.2.text)) ∧ Below w.heap.size w w' := by
  have HZ := Lib.hid (hz.keep (Kept.refl _ _) (ok' := fun b => b < w.heap.size) (fun b h _ => h))
  have HOK := Lib.hid hok
  have HT := Lib.hid hT
  have HSM := Lib.hid hsm
  obtain ⟨ao, cap, rfl, _⟩ := hz.1.opened
  have hmk := run_mkSC Z.length (by omega) w
  obtain ⟨W0, hW0⟩ : ∃ W0, W0 = w.alloc (.cells (zerosV (.slice none 0 0) Z.length) 69) := ⟨_, rfl⟩
  have HO0 := Lib.hid (show W0.ownsRow w.heap.size 69 1 (.slice (some ⟨w.heap.size, 0, none⟩) Z.length Z.length) Z.length (List.replicate Z.length (.slice none 0 0)) by rw [hW0]; exact own_make1 _ _ _ (by omega) _ _ (Nat.le_refl _))
  have HW := Lib.hid (show Below w.heap.size w W0 by rw [hW0]; exact below_new _ _)
  clear hz hok hT
  go_enter Tryz.func28, Tryz.ntmps28
  go_wp2_with fail
  rw [← hW0]
  clear hW0 hmk
  go_loopw [13] (fun i wr => ∃ (k : Nat) (xs : List Value), k ≤ Z.length ∧ i = .int .i64 k ∧ xs.length = k ∧ wr.ownsRow w.heap.size 69 1 (.slice (some ⟨w.heap.size, 0, none⟩) Z.length Z.length) Z.length (xs ++ List.replicate (Z.length - k) (.slice none 0 0)) ∧ (∀ (i : Nat) (p : Value × VV) (x : Value), Z[i]? = some p → xs[i]? = some x → Slc wr (fun b => b < w.heap.size ∨ w.heap.size < b) x p.2.text.length (i32s p.2.text)) ∧ W0.grownBy wr (some w.heap.size)) (fun i _ => Z.length - (intOf i).toNat)
  case atStart => exact ⟨0, [], by omega, rfl, rfl, HO0.out, fun i p x _ h => by simp at h, grown_refl _ _⟩
  case round =>
    obtain ⟨k, xs, hk, rfl, hxl, hown, hX, hgr⟩ := hrel
    have HO := Lib.hid hown
    have HG := Lib.hid hgr
    have HX := Lib.hid hX
    have HXL := Lib.hid hxl
    have HB := Lib.hid (HW.out.grown hgr HW.out.size (fun j hj => by cases hj; omega))
    have HGS := Lib.hid (hown.lt w.heap.size rfl).2
    clear hown hgr hX hxl
    by_cases hlt : k < Z.length
    · obtain ⟨b, off, p, rfl, hp, c0, hv⟩ := HZ.out.at hlt
      have c0 := keep_below HB.out _ _ c0
      have hsv := hv.store
      obtain ⟨pu, pV⟩ := p
      have HP := Lib.hid hp
      have HPK := Lib.hid (HOK.out _ (List.mem_of_getElem? hp))
      have HV := Lib.hid (show IsV (wr.alloc (.cells #[pu] 31)) (fun b => b < w.heap.size) pu pV from (hv.grow HB.out).grow (below_new _ _))
      have a0 := (At1.new wr pu 31).2.1
      have HT1 := Lib.hid (show TabAt (wr.alloc (.cells #[pu] 31)) from fun j hj => keep_below (HB.out.alloc HB.out.size _) _ _ (HT.out j hj))
      simp only at c0
      clear hp hv
      go_wp2_with fail
      refine (vtext_calls _ pV _ HV.out HPK.out).mono ?_
      rintro e W3 ⟨v3, rfl, hv3, hB3⟩
      have HBr3 := Lib.hid (show Below wr.heap.size wr W3 from (below_new _ _).trans (hB3.mono (by simp)))
      have HV3 := Lib.hid (show Slc W3 (fun b => b < w.heap.size ∨ w.heap.size < b) v3 pV.text.length (i32s pV.text) from hv3.keep (Kept.refl _ _) (fun b _ (h : _ ≤ b) => Or.inr (by have := HGS.out; simp at h; omega)))
      obtain ⟨vo, vc, rfl, _⟩ := hv3.opened
      clear hv3 hB3 a0
      have HO3 := Lib.hid (owns_below2 HO.out HBr3.out)
      have HX3 := Lib.hid (show ∀ (i : Nat) (p : Value × VV) (x : Value), Z[i]? = some p → xs[i]? = some x → Slc W3 (fun b => b < w.heap.size ∨ w.heap.size < b) x p.2.text.length (i32s p.2.text) from fun i p x h1 h2 => (HX.out i p x h1 h2).keep (Kept.below HBr3.out) (fun _ _ h => h))
      have HG3 := Lib.hid (grown_trans HG.out (grown_any (below_grown HBr3.out) _))
      have hcw := owns_cell2 HO3.out k (by simp; have := HXL.out; omega)
      have hfr := World.ownsRow.frozenAt HO3.out k
      go_wp2_with fail
      go_roundw
      case rel =>
        refine ⟨k + 1, xs ++ [.slice vo pV.text.length vc], by omega, by go_num, by simp [HXL.out], ?_, ?_, grown_trans HG3.out (grown_setCell _ ⟨w.heap.size, k, none⟩ _)⟩
        · have := (World.ownsRow.stored HO3.out k (.slice vo pV.text.length vc)).1
          rwa [row_set HXL.out hlt] at this
        · intro i p x hp hx
          have hkk : Kept (fun b => (b < w.heap.size) ∨ w.heap.size < b) W3 (W3.setCell ⟨w.heap.size, k, none⟩ (.slice vo pV.text.length vc)) := Kept.setCell _ _ _ (by simp)
          by_cases e : i < k
          · rw [List.getElem?_append_left (by rw [HXL.out]; exact e)] at hx
            exact (HX3.out i p x hp hx).keep hkk (fun _ _ h => h)
          · have e2 : i = k := by have := (List.getElem?_eq_some_iff.1 hx).1; simp [HXL.out] at this; omega
            subst e2
            rw [List.getElem?_append_right (by rw [HXL.out]; exact Nat.le_refl _), HXL.out, Nat.sub_self] at hx
            obtain rfl := Option.some.inj hx
            obtain rfl := Option.some.inj (HP.out.symm.trans hp)
            exact HV3.out.keep hkk (fun _ _ h => h)
      case measure => simp [intOf]; omega
    · have hkl : k = Z.length := by omega
      subst hkl
      clear hlt
      have HROW := Lib.hid (show RowsG (Value.int .i32) wr (fun b => b < w.heap.size ∨ w.heap.size < b) (.slice (some ⟨w.heap.size, 0, none⟩) Z.length Z.length) (Z.map fun p => p.2.text) by
        refine ⟨some ⟨w.heap.size, 0, none⟩, Z.length, by simp, fun i hi => ?_⟩
        have hi : i < Z.length := by simpa using hi
        have hix : i < xs.length := by rw [HXL.out]; exact hi
        refine ⟨w.heap.size, 0, xs[i], rfl, ?_, ?_⟩
        · have := owns_cell2 HO.out i (by simp; omega)
          rw [Nat.zero_add, this, List.getElem_append_left hix]
        · have := HX.out i Z[i] xs[i] (List.getElem?_eq_getElem hi) (List.getElem?_eq_getElem hix)
          simpa [i32s] using this)
      have HFL := Lib.hid (show (Z.map fun p => p.2.text).flatten = Z.flatMap fun p => p.2.text from (List.flatMap_def).symm)
      go_wp2_with fail
      refine (catC_calls _ _ _ HROW.out (by simp; omega) (by rw [HFL.out]; exact HSM.out)).mono ?_
      rintro e W ⟨z, rfl, hz, hB2⟩
      rw [HFL.out] at hz
      have HB2 := Lib.hid (HB.out.trans (hB2.mono HB.out.size))
      have HZ2 := Lib.hid (hz.keep (Kept.refl _ _) (ok' := fun b => w.heap.size ≤ b) (fun b _ (h : _ ≤ b) => Nat.le_trans HB.out.size h))
      obtain ⟨zo, zc, rfl, _⟩ := hz.opened
      clear hz hB2
      obtain ⟨ZL, hZL⟩ : ∃ ZL, ZL = (Z.flatMap fun p => p.2.text) := ⟨_, rfl⟩
      have HZL := Lib.hid hZL
      rw [← hZL] at HZ2 ⊢
      clear hZL
      go_wp2_with fail
      go_ret
      exact ⟨_, rfl, by rw [← HZL.out]; exact HZ2.out, HB2.out⟩

theorem info_slB : (Tryz.prog.info? 65).map (fun i => (i.zero, i.size, i.bytes)) = some (some (.slice none 0 0), 1, 24) := by kernel_rfl
theorem run_mkSB (n : Nat) (hn : n ≤ 2000000) (w : World) : (Instr.makeSlice 94 (.int .i64 (n : Int)) (.int .i64 (n : Int))).run Tryz.prog w = .ok (.slice (some ⟨w.heap.size, 0, none⟩) n n) (w.alloc (.cells (zerosV (.slice none 0 0) n) 65)) := by
  obtain ⟨i0, hi, hz0, hz1, hz2⟩ := info_parts info_slB
  have hr := run_make (P := Tryz.prog) w 94 65 i0 _ Tryz.underlying94 hi hz0 .i64 .i64 n n (by omega) (Int.le_refl _) (by rw [hz2]; omega) (by omega)
  simp only [Int.toNat_natCast, hz1] at hr
  exact hr

set_option maxHeartbeats 4000000 in
theorem joinB_calls {ok : Nat → Prop} (v : Value) (Z : List (Value × VV)) (w : World) (hz : VecsZ w ok v Z) (hm : Z.length ≤ 1000000) (hok : ∀ p ∈ Z, p.2.ok) (hsm : (Z.flatMap fun p => p.2.packed).length ≤ 2000000) (hT : TabAt w) :
    Calls Tryz.prog 25 #[v, .func (.func 26) #[] #[]] w fun e w' => ∃ z, e = .returned z ∧ Slc w' (fun b => w.heap.size ≤ b) z (Z.flatMap fun p => p.2.packed).length (bools (Z.flatMap fun p => p.2.packed)) ∧ Below w.heap.size w w' := by
  have HZ := Lib.hid (hz.keep (Kept.refl _ _) (ok' := fun b => b < w.heap.size) (fun b h _ => h))
  have HOK := Lib.hid hok
  have HT := Lib.hid hT
  have HSM := Lib.hid hsm
  obtain ⟨ao, cap, rfl, _⟩ := hz.1.opened
  have hmk := run_mkSB Z.length (by omega) w
  obtain ⟨W0, hW0⟩ : ∃ W0, W0 = w.alloc (.cells (zerosV (.slice none 0 0) Z.length) 65) := ⟨_, rfl⟩
  have HO0 := Lib.hid (show W0.ownsRow w.heap.size 65 1 (.slice (some ⟨w.heap.size, 0, none⟩) Z.length Z.length) Z.length (List.replicate Z.length (.slice none 0 0)) by rw [hW0]; exact own_make1 _ _ _ (by omega) _ _ (Nat.le_refl _))
  have HW := Lib.hid (show Below w.heap.size w W0 by rw [hW0]; exact below_new _ _)
  clear hz hok hT
  go_enter Tryz.func25, Tryz.ntmps25
  go_wp2_with fail
  rw [← hW0]
  clear hW0 hmk
  go_loopw [13] (fun i wr => ∃ (k : Nat) (xs : List Value), k ≤ Z.length ∧ i = .int .i64 k ∧ xs.length = k ∧ wr.ownsRow w.heap.size 65 1 (.slice (some ⟨w.heap.size, 0, none⟩) Z.length Z.length) Z.length (xs ++ List.replicate (Z.length - k) (.slice none 0 0)) ∧ (∀ (i : Nat) (p : Value × VV) (x : Value), Z[i]? = some p → xs[i]? = some x → Slc wr (fun b => b < w.heap.size ∨ w.heap.size < b) x p.2.packed.length (bools p.2.packed)) ∧ W0.grownBy wr (some w.heap.size)) (fun i _ => Z.length - (intOf i).toNat)
  case atStart => exact ⟨0, [], by omega, rfl, rfl, HO0.out, fun i p x _ h => by simp at h, grown_refl _ _⟩
  case round =>
    obtain ⟨k, xs, hk, rfl, hxl, hown, hX, hgr⟩ := hrel
    have HO := Lib.hid hown
    have HG := Lib.hid hgr
    have HX := Lib.hid hX
    have HXL := Lib.hid hxl
    have HB := Lib.hid (HW.out.grown hgr HW.out.size (fun j hj => by cases hj; omega))
    have HGS := Lib.hid (hown.lt w.heap.size rfl).2
    clear hown hgr hX hxl
    by_cases hlt : k < Z.length
    · obtain ⟨b, off, p, rfl, hp, c0, hv⟩ := HZ.out.at hlt
      have c0 := keep_below HB.out _ _ c0
      have hsv := hv.store
      obtain ⟨pu, pV⟩ := p
      have HP := Lib.hid hp
      have HPK := Lib.hid (HOK.out _ (List.mem_of_getElem? hp))
      have HV := Lib.hid (show IsV (wr.alloc (.cells #[pu] 31)) (fun b => b < w.heap.size) pu pV from (hv.grow HB.out).grow (below_new _ _))
      have a0 := (At1.new wr pu 31).2.1
      have HT1 := Lib.hid (show TabAt (wr.alloc (.cells #[pu] 31)) from fun j hj => keep_below (HB.out.alloc HB.out.size _) _ _ (HT.out j hj))
      simp only at c0
      clear hp hv
      go_wp2_with fail
      refine (flags8_calls _ pV _ HV.out HPK.out).mono ?_
      rintro e W3 ⟨v3, rfl, hv3, hB3⟩
      have HBr3 := Lib.hid (show Below wr.heap.size wr W3 from (below_new _ _).trans (hB3.mono (by simp)))
      have HV3 := Lib.hid (show Slc W3 (fun b => b < w.heap.size ∨ w.heap.size < b) v3 pV.packed.length (bools pV.packed) from hv3.keep (Kept.refl _ _) (fun b _ (h : _ ≤ b) => Or.inr (by have := HGS.out; simp at h; omega)))
      obtain ⟨vo, vc, rfl, _⟩ := hv3.opened
      clear hv3 hB3 a0
      have HO3 := Lib.hid (owns_below2 HO.out HBr3.out)
      have HX3 := Lib.hid (show ∀ (i : Nat) (p : Value × VV) (x : Value), Z[i]? = some p → xs[i]? = some x → Slc W3 (fun b => b < w.heap.size ∨ w.heap.size < b) x p.2.packed.length (bools p.2.packed) from fun i p x h1 h2 => (HX.out i p x h1 h2).keep (Kept.below HBr3.out) (fun _ _ h => h))
      have HG3 := Lib.hid (grown_trans HG.out (grown_any (below_grown HBr3.out) _))
      have hcw := owns_cell2 HO3.out k (by simp; have := HXL.out; omega)
      have hfr := World.ownsRow.frozenAt HO3.out k
      go_wp2_with fail
      go_roundw
      case rel =>
        refine ⟨k + 1, xs ++ [.slice vo pV.packed.length vc], by omega, by go_num, by simp [HXL.out], ?_, ?_, grown_trans HG3.out (grown_setCell _ ⟨w.heap.size, k, none⟩ _)⟩
        · have := (World.ownsRow.stored HO3.out k (.slice vo pV.packed.length vc)).1
          rwa [row_set HXL.out hlt] at this
        · intro i p x hp hx
          have hkk : Kept (fun b => (b < w.heap.size) ∨ w.heap.size < b) W3 (W3.setCell ⟨w.heap.size, k, none⟩ (.slice vo pV.packed.length vc)) := Kept.setCell _ _ _ (by simp)
          by_cases e : i < k
          · rw [List.getElem?_append_left (by rw [HXL.out]; exact e)] at hx
            exact (HX3.out i p x hp hx).keep hkk (fun _ _ h => h)
          · have e2 : i = k := by have := (List.getElem?_eq_some_iff.1 hx).1; simp [HXL.out] at this; omega
            subst e2
            rw [List.getElem?_append_right (by rw [HXL.out]; exact Nat.le_refl _), HXL.out, Nat.sub_self] at hx
            obtain rfl := Option.some.inj hx
            obtain rfl := Option.some.inj (HP.out.symm.trans hp)
            exact HV3.out.keep hkk (fun _ _ h => h)
      case measure => simp [intOf]; omega
    · have hkl : k = Z.length := by omega
      subst hkl
      clear hlt
      have HROW := Lib.hid (show RowsG (Value.bool) wr (fun b => b < w.heap.size ∨ w.heap.size < b) (.slice (some ⟨w.heap.size, 0, none⟩) Z.length Z.length) (Z.map fun p => p.2.packed) by
        refine ⟨some ⟨w.heap.size, 0, none⟩, Z.length, by simp, fun i hi => ?_⟩
        have hi : i < Z.length := by simpa using hi
        have hix : i < xs.length := by rw [HXL.out]; exact hi
        refine ⟨w.heap.size, 0, xs[i], rfl, ?_, ?_⟩
        · have := owns_cell2 HO.out i (by simp; omega)
          rw [Nat.zero_add, this, List.getElem_append_left hix]
        · have := HX.out i Z[i] xs[i] (List.getElem?_eq_getElem hi) (List.getElem?_eq_getElem hix)
          simpa [bools] using this)
      have HFL := Lib.hid (show (Z.map fun p => p.2.packed).flatten = Z.flatMap fun p => p.2.packed from (List.flatMap_def).symm)
      go_wp2_with fail
      refine (catB_calls _ _ _ HROW.out (by simp; omega) (by rw [HFL.out]; exact HSM.out)).mono ?_
      rintro e W ⟨z, rfl, hz, hB2⟩
      rw [HFL.out] at hz
      have HB2 := Lib.hid (HB.out.trans (hB2.mono HB.out.size))
      have HZ2 := Lib.hid (hz.keep (Kept.refl _ _) (ok' := fun b => w.heap.size ≤ b) (fun b _ (h : _ ≤ b) => Nat.le_trans HB.out.size h))
      obtain ⟨zo, zc, rfl, _⟩ := hz.opened
      clear hz hB2
      obtain ⟨ZL, hZL⟩ : ∃ ZL, ZL = (Z.flatMap fun p => p.2.packed) := ⟨_, rfl⟩
      have HZL := Lib.hid hZL
      rw [← hZL] at HZ2 ⊢
      clear hZL
      go_wp2_with fail
      go_ret
      exact ⟨_, rfl, by rw [← HZL.out]; exact HZ2.out, HB2.out⟩
end Go.Proofs.YtohkohnihaockaaGreatDoor

/- slices.Grow, slices.Concat of lists of arrays. -/
namespace Go.Proofs.YtohkohnihaockaaGreatDoor
set_option maxRecDepth 100000
open Go.RowKit Fl
set_option linter.unusedVariables false

def flatP (P : List (Value × Value)) : List Value := P.flatMap fun p => [p.1, p.2]
theorem flatP_len (P : List (Value × Value)) : (flatP P).length = P.length * 2 := by
  induction P with
  | nil => rfl
  | cons t L ih => simp only [flatP, List.flatMap_cons, List.length_append] at ih ⊢; rw [ih]; simp; omega
theorem flatP_app (P Q : List (Value × Value)) : flatP (P ++ Q) = flatP P ++ flatP Q := by simp [flatP]
theorem flatP_at {P : List (Value × Value)} {i : Nat} {p : Value × Value} (h : P[i]? = some p) : (flatP P)[i * 2]? = some p.1 ∧ (flatP P)[i * 2 + 1]? = some p.2 := by
  obtain ⟨hk, e⟩ := List.getElem?_eq_some_iff.1 h
  have hl : P = P.take i ++ ([p] ++ P.drop (i + 1)) := by rw [← e]; simp
  have hlen : (flatP (P.take i)).length = i * 2 := by rw [flatP_len, List.length_take]; omega
  have hf : flatP P = flatP (P.take i) ++ ([p.1, p.2] ++ flatP (P.drop (i + 1))) := by
    conv => lhs; rw [hl]
    simp [flatP]
  rw [hf]
  exact ⟨by rw [List.getElem?_append_right (by omega), hlen]; simp, by rw [List.getElem?_append_right (by omega), hlen, Nat.add_sub_cancel_left]; rfl⟩
theorem flatP_get {P : List (Value × Value)} {j : Nat} {u : Value} (h : (flatP P)[j]? = some u) : ∃ p, P[j / 2]? = some p ∧ u = if j % 2 = 0 then p.1 else p.2 := by
  have hj := (List.getElem?_eq_some_iff.1 h).1
  rw [flatP_len] at hj
  have hk : j / 2 < P.length := by omega
  refine ⟨P[j / 2], List.getElem?_eq_getElem hk, ?_⟩
  obtain ⟨h0, h1⟩ := flatP_at (List.getElem?_eq_getElem hk)
  by_cases e : j % 2 = 0
  · rw [if_pos e]
    rw [show j / 2 * 2 = j by omega, h] at h0
    exact Option.some.inj h0
  · rw [if_neg e]
    rw [show j / 2 * 2 + 1 = j by omega, h] at h1
    exact Option.some.inj h1
/-- P are the cells of the arrays l. -/
def PairsOK (w : World) (ok : Nat → Prop) (P : List (Value × Value)) (l : List (List Int × VV)) : Prop :=
  P.length = l.length ∧ ∀ (i : Nat) p q, P[i]? = some p → l[i]? = some q → IsArr w ok p.1 p.2 q
theorem PairsOK.app {w : World} {ok : Nat → Prop} {P Q : List (Value × Value)} {l m : List (List Int × VV)} (h : PairsOK w ok P l) (k : PairsOK w ok Q m) : PairsOK w ok (P ++ Q) (l ++ m) := by
  refine ⟨by simp [h.1, k.1], fun i p q hp hq => ?_⟩
  by_cases hi : i < P.length
  · rw [List.getElem?_append_left hi] at hp
    rw [List.getElem?_append_left (by rw [← h.1]; exact hi)] at hq
    exact h.2 i p q hp hq
  · rw [List.getElem?_append_right (by omega)] at hp
    rw [List.getElem?_append_right (by rw [← h.1]; omega), ← h.1] at hq
    exact k.2 _ p q hp hq
theorem arrs_owned {w : World} {ok : Nat → Prop} {base n : Nat} {v : Value} {P : List (Value × Value)} {l : List (List Int × VV)} (ho : w.ownsRow base 33 2 v n (flatP P)) (h : PairsOK w ok P l) : Arrs w (fun b => ok b ∨ base ≤ b) v l := by
  have hn : n = l.length := by have := ho.1; rw [flatP_len, h.1] at this; omega
  subst hn
  rcases ho.2 with ⟨rfl, hl0⟩ | ⟨g, cap, cur, rfl, hb, hg, hnc, hcm, hcs, htake⟩
  · have : l = [] := List.eq_nil_of_length_eq_zero hl0
    subst this
    exact Arrs.nil _ _
  · refine ⟨_, cap, fun i => (P[i]?.map Prod.fst).getD undef, fun i => (P[i]?.map Prod.snd).getD undef, rfl, hnc, hcm, fun i hi => ?_, fun i hi => ?_, fun i hi => ?_⟩
    · have hp : i < P.length := by rw [h.1]; exact hi
      have e := List.getElem?_eq_getElem hp
      obtain ⟨c0, c1⟩ := flatP_at e
      refine ⟨g, 0, rfl, Or.inr hb, ?_, ?_⟩
      · rw [Nat.zero_add, ho.cellAt (i * 2) (by omega), c0]; simp [e]
      · rw [Nat.zero_add, ho.cellAt (i * 2 + 1) (by omega), c1]; simp [e]
    · have hp : i < P.length := by rw [h.1]; exact hi
      have e := List.getElem?_eq_getElem hp
      have := (h.2 i _ _ e (List.getElem?_eq_getElem hi)).1.keep (Kept.refl _ _) (ok' := fun b => ok b ∨ base ≤ b) (fun _ _ h => Or.inl h)
      simpa [e] using this
    · have hp : i < P.length := by rw [h.1]; exact hi
      have e := List.getElem?_eq_getElem hp
      have := (h.2 i _ _ e (List.getElem?_eq_getElem hi)).2.wide (ok' := fun b => ok b ∨ base ≤ b) (fun _ _ h => Or.inl h)
      simpa [e] using this
/-- The cells of a slice of arrays that is not empty. -/
theorem Arrs.cells {w : World} {ok : Nat → Prop} {v : Value} {l : List (List Int × VV)} (h : Arrs w ok v l) (hl : 0 < l.length) :
    ∃ ad cap P, v = .slice (some ad) l.length cap ∧ PairsOK w ok P l ∧ (flatP P).length = l.length * 2 ∧ (∀ j u, (flatP P)[j]? = some u → w.cell? (ad.add j) = some u) ∧ (∀ u ∈ flatP P, u.oneCell' = true) := by
  obtain ⟨ao, cap, f, g, rfl, h1, h2, hc, hs, hv⟩ := h
  obtain ⟨b, off, rfl, _, _, _⟩ := hc 0 hl
  have hok : PairsOK w ok ((List.range l.length).map fun i => (f i, g i)) l := by
    refine ⟨by simp, fun i p q hp hq => ?_⟩
    obtain ⟨hi, e⟩ := List.getElem?_eq_some_iff.1 hq
    rw [List.getElem?_map, List.getElem?_range hi] at hp
    obtain rfl := Option.some.inj hp
    rw [← e]
    exact ⟨hs i hi, hv i hi⟩
  have hsome : ∀ j u, (flatP ((List.range l.length).map fun i => (f i, g i)))[j]? = some u → ∃ i, i < l.length ∧ i = j / 2 ∧ u = if j % 2 = 0 then f i else g i := by
    intro j u hu
    obtain ⟨p, hp, e⟩ := flatP_get hu
    have hi := (List.getElem?_eq_some_iff.1 hp).1
    have hi : j / 2 < l.length := by simpa using hi
    rw [List.getElem?_map, List.getElem?_range hi] at hp
    obtain rfl := Option.some.inj hp
    exact ⟨j / 2, hi, rfl, e⟩
  refine ⟨⟨b, off, none⟩, cap, _, rfl, hok, by rw [flatP_len]; simp, fun j u hu => ?_, fun u hu => ?_⟩
  · obtain ⟨i, hi, e, rfl⟩ := hsome j u hu
    obtain ⟨b', off', e2, _, c0, c1⟩ := hc i hi
    cases e2
    rw [Go.WideShapes.add_plain]
    by_cases hj : j % 2 = 0
    · rw [if_pos hj, show off + j = off + i * 2 by omega]; exact c0
    · rw [if_neg hj, show off + j = off + i * 2 + 1 by omega]; exact c1
  · obtain ⟨j, hj⟩ := List.getElem?_of_mem hu
    obtain ⟨i, hi, e, rfl⟩ := hsome j u hj
    by_cases hj : j % 2 = 0
    · rw [if_pos hj]; obtain ⟨o, c, e, _⟩ := (hs i hi).opened; rw [e]; rfl
    · rw [if_neg hj]; exact (hv i hi).one
def RowsA (w : World) (ok : Nat → Prop) (v : Value) (L : List (List (List Int × VV))) : Prop :=
  ∃ ao cap, v = .slice ao L.length cap ∧ ∀ i (h : i < L.length), ∃ b off u, ao = some ⟨b, off, none⟩ ∧ w.cell? ⟨b, off + i, none⟩ = some u ∧ Arrs w ok u L[i]
theorem RowsA.keep {w w' : World} {ok ok' : Nat → Prop} {v : Value} {L : List (List (List Int × VV))} (hb : Below w.heap.size w w') (hm : ∀ b, b < w.heap.size → ok b → ok' b) (h : RowsA w ok v L) : RowsA w' ok' v L := by
  obtain ⟨ao, cap, rfl, hc⟩ := h
  refine ⟨ao, cap, rfl, fun i hi => ?_⟩
  obtain ⟨b, off, u, e, h1, h2⟩ := hc i hi
  exact ⟨b, off, u, e, keep_below hb _ _ h1, h2.keep (Kept.below hb) hm⟩

set_option maxHeartbeats 2000000 in
/-- Room for so many, from nothing. -/
theorem growA_calls (n : Nat) (hn : n ≤ 2000000) (w : World) :
    Calls Tryz.prog 87 #[.slice none 0 0, .int .i64 (n : Int)] w fun e w' => ∃ v, e = .returned v ∧ w'.ownsRow w.heap.size 33 2 v 0 [] ∧ Below w.heap.size w w' := by
  obtain ⟨i0, hi, hz0, hz1, hz2⟩ := info_parts info_arr
  by_cases h0 : n = 0
  · subst h0
    go_enter Tryz.func87, Tryz.ntmps87
    go_wp2
    go_ret
    exact ⟨_, rfl, World.ownsRow_nil _ _ _ _, Below.refl _ _⟩
  · have hpos : 0 < n := by omega
    have hold : (Builtin.firstCells i0.size 0 (.slice none 0 0)).run Tryz.prog w.drew = .ok (#[] : Array Value) w.drew := by simp [Builtin.firstCells]
    have hrz := Lib.run_append_grow_zeros w 74 3 74 33 i0 (.agg #[.slice none 0 0, .nilIface]) .i64 .i64 Tryz.underlying74 Tryz.underlying3 hi hz0 none 0 0 [] hold n hpos (by omega) (by omega) (by omega) (by rw [hz2]; omega)
      (by rw [Nat.zero_add]; exact growslice_fits hpos (by rw [hz2]; omega))
    rw [Nat.zero_add] at hrz
    have hge := grownCap_ge w n 0 33
    have hcm := grownCap_le_maxLen w n 0 33 (by unfold maxLen; omega)
    obtain ⟨G, hG⟩ : ∃ G, G = grownCap w n 0 33 := ⟨_, rfl⟩
    rw [← hG] at hrz hge hcm
    clear hold hG
    go_enter Tryz.func87, Tryz.ntmps87
    go_wp2_with (at_builtin; refine Lib.wpList_append_run _ rfl _ _ _ _ rfl _ _ rfl rfl _ _ hrz ?_)
    go_ret
    refine ⟨.slice (some ⟨w.heap.size, 0, none⟩) 0 G, rfl, ?_, ?_⟩
    · have h := World.ownsRow_made (base := w.heap.size) (e := 33) (size := 2) w (Builtin.zeroCells #[Value.slice none 0 0, Value.nilIface] n ++ Builtin.zeroCells #[Value.slice none 0 0, Value.nilIface] (G - n)) G (Nat.le_refl _) hcm (by
        rw [Array.size_append, size_zeroCells, size_zeroCells]; simp; omega)
      exact h
    · exact Below.drewN' ((Below.refl w.heap.size w).alloc (Nat.le_refl _) _) 1

set_option maxHeartbeats 4000000 in
theorem catA_calls {ok : Nat → Prop} (v : Value) (L : List (List (List Int × VV))) (w : World) (hv : RowsA w ok v L) (hl : L.length ≤ 1000000) (hne : ∀ l ∈ L, 0 < l.length) (hm : L.flatten.length ≤ 1048576) :
    Calls Tryz.prog 56 #[v] w fun e w' => ∃ z, e = .returned z ∧ Arrs w' (fun b => (ok b ∧ b < w.heap.size) ∨ w.heap.size ≤ b) z L.flatten ∧ Below w.heap.size w w' := by
  obtain ⟨i0, hi, hz0, hz1, hz2⟩ := info_parts info_arr
  have HV := Lib.hid (hv.keep (Below.refl _ _) (ok' := fun b => ok b ∧ b < w.heap.size) (fun b h h2 => ⟨h2, h⟩))
  have HNE := Lib.hid hne
  obtain ⟨ao, cap, rfl, _⟩ := hv
  have HM := Lib.hid (show ∀ k, k ≤ L.length → (L.take k).flatten.length ≤ 1048576 from fun k hk => Nat.le_trans (flatG_le L (L.length - k) k (by omega)) hm)
  have HI0 := Lib.hid (And.intro hi (And.intro hz0 (And.intro hz1 hz2)))
  clear hm hne hi hz0 hz1 hz2
  go_enter Tryz.func56, Tryz.ntmps56
  go_wp2
  go_loopw [3, 11] (fun a i wr => ∃ k : Nat, k ≤ L.length ∧ i = .int .i64 (k : Int) ∧ a = .int .i64 (((L.take k).flatten.length : Nat) : Int) ∧ wr = w) (fun _ i _ => L.length - (intOf i).toNat)
  case atStart => exact ⟨0, by omega, rfl, rfl, rfl⟩
  case round =>
    obtain ⟨k, hk, rfl, rfl, hwr⟩ := hrel
    have hwr := hwr.symm
    subst hwr
    obtain ⟨n, hn⟩ : ∃ n, n = (L.take k).flatten.length := ⟨_, rfl⟩
    have HN := Lib.hid hn
    have hn2 : n ≤ 1048576 := by rw [hn]; exact HM.out k hk
    rw [← hn]
    clear hn
    by_cases hlt : k < L.length
    · obtain ⟨ao', cap', e1, hc⟩ := HV.out
      obtain ⟨b, off, u, e2, hcx, hs⟩ := hc k hlt
      obtain ⟨rfl, e1b⟩ : ao = some ⟨b, off, none⟩ ∧ cap = cap' := by cases e1; exact ⟨e2, rfl⟩
      obtain ⟨ao3, cap3, hu, _⟩ := hs.len
      obtain ⟨l, hl2⟩ : ∃ l, L[k] = l := ⟨_, rfl⟩
      rw [hl2] at hu
      subst hu
      have HL := Lib.hid (flatG_len (show L[k]? = some l by rw [List.getElem?_eq_getElem hlt, hl2]))
      rw [← HN.out] at HL
      have hm2 := HM.out (k + 1) (by omega)
      rw [HL.out] at hm2
      clear hc hs e1 e2 e1b hl2
      go_wp2
      go_roundw
      case rel => exact ⟨k + 1, by omega, by go_num, by rw [HL.out]; go_num, by trivial⟩
      case measure => simp [intOf]; omega
    · have hkl : k = L.length := by omega
      have HNF := Lib.hid (show L.flatten.length = n by have := HN.out; rw [hkl, List.take_length] at this; exact this.symm)
      clear hkl
      go_wp2_with fail
      refine (growA_calls n (by omega) _).mono ?_
      rintro e W1 ⟨vg, rfl, hown, hB⟩
      have HO := Lib.hid hown
      have HB := Lib.hid hB
      clear hown hB
      go_wp2
      go_loopw [6, 27] (fun a i wq => ∃ (j : Nat) (P : List (Value × Value)), j ≤ L.length ∧ i = .int .i64 (j : Int) ∧ wq.ownsRow w.heap.size 33 2 a (L.take j).flatten.length (flatP P) ∧ PairsOK w (fun b => ok b ∧ b < w.heap.size) P (L.take j).flatten ∧ Below w.heap.size w wq) (fun _ i _ => L.length - (intOf i).toNat)
      case atStart => exact ⟨0, [], by omega, rfl, HO.out, ⟨rfl, fun i p q h => by simp at h⟩, HB.out⟩
      case round =>
        obtain ⟨j, P, hj, rfl, hown, hP, hB⟩ := hrel
        obtain ⟨m, hm⟩ : ∃ m, m = (L.take j).flatten.length := ⟨_, rfl⟩
        have HMJ := Lib.hid hm
        rw [← hm] at hown
        have HOW := Lib.hid hown
        have HBW := Lib.hid hB
        have HP := Lib.hid hP
        have hsz := hB.size
        clear hm hown hP
        by_cases hlt2 : j < L.length
        · obtain ⟨ao', cap', e1, hc⟩ := HV.out
          obtain ⟨b, off, u, e2, hcx0, hs⟩ := hc j hlt2
          have hcx := keep_below hB _ _ hcx0
          obtain ⟨rfl, e1b⟩ : ao = some ⟨b, off, none⟩ ∧ cap = cap' := by cases e1; exact ⟨e2, rfl⟩
          obtain ⟨l, hl2⟩ : ∃ l, L[j] = l := ⟨_, rfl⟩
          rw [hl2] at hs
          have hlj : L[j]? = some l := by rw [List.getElem?_eq_getElem hlt2, hl2]
          obtain ⟨ad, cap3, Q, rfl, hQ, hql, hqc, hq1⟩ := hs.cells (HNE.out l (List.mem_of_getElem? hlj))
          have HQ := Lib.hid hQ
          have HQL := Lib.hid hql
          have HQC := Lib.hid (show ∀ j u, (flatP Q)[j]? = some u → _ from fun j u hu => keep_below hB _ _ (hqc j u hu))
          have HQ1 := Lib.hid hq1
          have HL := Lib.hid (flatG_len hlj)
          have HFT := Lib.hid (flatG_take hlj)
          rw [← HMJ.out] at HL
          have hm2 := HM.out (j + 1) (by omega)
          rw [HL.out] at hm2
          have HM1 : Hid (m + l.length ≤ maxLen) := Lib.hid (by unfold maxLen; omega)
          have HM2 : Hid ((m + l.length) * 40 ≤ 140737488355328) := Lib.hid (by omega)
          have HSZ := Lib.hid hsz
          clear hc hs e1 e2 e1b hl2 hB hlj hcx0 hQ hql hqc hq1
          go_wp2_with (at_builtin; refine wpList_append_blk _ rfl _ _ 74 rfl w.heap.size 33 i0 _ 2 40 Tryz.underlying74 HI0.out.1 HI0.out.2.1 HI0.out.2.2.1 HI0.out.2.2.2 rfl (by decide) _ m (flatP P) rfl HOW.out ad l.length cap3 (flatP Q) rfl HQL.out HQC.out HQ1.out HM1.out HM2.out HSZ.out ?_)
          intro v' w3 hown' hgrow hblk
          have HO3 := Lib.hid hown'
          have HB3 := Lib.hid (HBW.out.grown hgrow HSZ.out (fun j hj => (HOW.out.lt j hj).1))
          clear hown' hgrow hblk
          go_wp2
          go_roundw
          case rel =>
            refine ⟨j + 1, P ++ Q, by omega, by go_num, ?_, ?_, HB3.out⟩
            · rw [HL.out, flatP_app]; exact HO3.out
            · rw [HFT.out]; exact HP.out.app HQ.out
          case measure => simp [intOf]; omega
        · have hkl : j = L.length := by omega
          have HFIN := Lib.hid (show Arrs _ (fun b => (ok b ∧ b < w.heap.size) ∨ w.heap.size ≤ b) _ L.flatten by
            have h := HP.out
            rw [hkl, List.take_length] at h
            exact arrs_owned HOW.out ⟨h.1, fun i p q hp hq => (h.2 i p q hp hq).keep (Kept.below hB) (fun _ _ h => h)⟩)
          clear hkl hB
          go_wp2
          go_ret
          exact ⟨_, rfl, HFIN.out, HBW.out⟩
end Go.Proofs.YtohkohnihaockaaGreatDoor

/- Package flat, walked: joined, of arrays. -/
namespace Go.Proofs.YtohkohnihaockaaGreatDoor
set_option maxRecDepth 100000
open Go.RowKit Fl
set_option linter.unusedVariables false

theorem info_slA : (Tryz.prog.info? 74).map (fun i => (i.zero, i.size, i.bytes)) = some (some (.slice none 0 0), 1, 24) := by kernel_rfl
theorem run_mkSA (n : Nat) (hn : n ≤ 2000000) (w : World) : (Instr.makeSlice 104 (.int .i64 (n : Int)) (.int .i64 (n : Int))).run Tryz.prog w = .ok (.slice (some ⟨w.heap.size, 0, none⟩) n n) (w.alloc (.cells (zerosV (.slice none 0 0) n) 74)) := by
  obtain ⟨i0, hi, hz0, hz1, hz2⟩ := info_parts info_slA
  have hr := run_make (P := Tryz.prog) w 104 74 i0 _ Tryz.underlying104 hi hz0 .i64 .i64 n n (by omega) (Int.le_refl _) (by rw [hz2]; omega) (by omega)
  simp only [Int.toNat_natCast, hz1] at hr
  exact hr

set_option maxHeartbeats 4000000 in
theorem joinA_calls {ok : Nat → Prop} (v : Value) (Z : List (Value × VV)) (w : World) (hz : VecsZ w ok v Z) (hm : Z.length ≤ 1000000) (hok : ∀ p ∈ Z, p.2.ok) (hne : ∀ p ∈ Z, 0 < p.2.boxs.length) (hsm : (Z.flatMap fun p => p.2.boxs).length ≤ 1048576) (hT : TabAt w) :
    Calls Tryz.prog 31 #[v, .func (.func 32) #[] #[]] w fun e w' => ∃ z, e = .returned z ∧ Arrs w' (fun b => (ok b ∧ b < w.heap.size) ∨ w.heap.size < b) z (Z.flatMap fun p => p.2.boxs) ∧ Below w.heap.size w w' := by
  have HZ := Lib.hid (hz.keep (Kept.refl _ _) (ok' := fun b => ok b ∧ b < w.heap.size) (fun b h h2 => ⟨h2, h⟩))
  have HOK := Lib.hid hok
  have HT := Lib.hid hT
  have HSM := Lib.hid hsm
  have HNE := Lib.hid hne
  obtain ⟨ao, cap, rfl, _⟩ := hz.1.opened
  have hmk := run_mkSA Z.length (by omega) w
  obtain ⟨W0, hW0⟩ : ∃ W0, W0 = w.alloc (.cells (zerosV (.slice none 0 0) Z.length) 74) := ⟨_, rfl⟩
  have HO0 := Lib.hid (show W0.ownsRow w.heap.size 74 1 (.slice (some ⟨w.heap.size, 0, none⟩) Z.length Z.length) Z.length (List.replicate Z.length (.slice none 0 0)) by rw [hW0]; exact own_make1 _ _ _ (by omega) _ _ (Nat.le_refl _))
  have HW := Lib.hid (show Below w.heap.size w W0 by rw [hW0]; exact below_new _ _)
  clear hz hok hT
  go_enter Tryz.func31, Tryz.ntmps31
  go_wp2_with fail
  rw [← hW0]
  clear hW0 hmk
  go_loopw [13] (fun i wr => ∃ (k : Nat) (xs : List Value), k ≤ Z.length ∧ i = .int .i64 k ∧ xs.length = k ∧ wr.ownsRow w.heap.size 74 1 (.slice (some ⟨w.heap.size, 0, none⟩) Z.length Z.length) Z.length (xs ++ List.replicate (Z.length - k) (.slice none 0 0)) ∧ (∀ (i : Nat) (p : Value × VV) (x : Value), Z[i]? = some p → xs[i]? = some x → Arrs wr (fun b => (ok b ∧ b < w.heap.size) ∨ w.heap.size < b) x p.2.boxs) ∧ W0.grownBy wr (some w.heap.size)) (fun i _ => Z.length - (intOf i).toNat)
  case atStart => exact ⟨0, [], by omega, rfl, rfl, HO0.out, fun i p x _ h => by simp at h, grown_refl _ _⟩
  case round =>
    obtain ⟨k, xs, hk, rfl, hxl, hown, hX, hgr⟩ := hrel
    have HO := Lib.hid hown
    have HG := Lib.hid hgr
    have HX := Lib.hid hX
    have HXL := Lib.hid hxl
    have HB := Lib.hid (HW.out.grown hgr HW.out.size (fun j hj => by cases hj; omega))
    have HGS := Lib.hid (hown.lt w.heap.size rfl).2
    clear hown hgr hX hxl
    by_cases hlt : k < Z.length
    · obtain ⟨b, off, p, rfl, hp, c0, hv⟩ := HZ.out.at hlt
      have c0 := keep_below HB.out _ _ c0
      have hsv := hv.store
      obtain ⟨pu, pV⟩ := p
      have HP := Lib.hid hp
      have HPK := Lib.hid (HOK.out _ (List.mem_of_getElem? hp))
      have HV := Lib.hid (show IsV (wr.alloc (.cells #[pu] 31)) (fun b => ok b ∧ b < w.heap.size) pu pV from (hv.grow HB.out).grow (below_new _ _))
      have a0 := (At1.new wr pu 31).2.1
      have HT1 := Lib.hid (show TabAt (wr.alloc (.cells #[pu] 31)) from fun j hj => keep_below (HB.out.alloc HB.out.size _) _ _ (HT.out j hj))
      simp only at c0
      clear hp hv
      go_wp2_with fail
      refine (varrays_calls _ pV _ HV.out HPK.out).mono ?_
      rintro e W3 ⟨v3, rfl, hv3, hB3⟩
      have HBr3 := Lib.hid (show Below wr.heap.size wr W3 from (below_new _ _).trans (hB3.mono (by simp)))
      have HV3 := Lib.hid (show Arrs W3 (fun b => (ok b ∧ b < w.heap.size) ∨ w.heap.size < b) v3 pV.boxs from hv3.keep (Kept.refl _ _) (fun b _ h => h.imp id (fun h => by have := HGS.out; simp at h; omega)))
      obtain ⟨vo, vc, rfl, _⟩ := hv3.len
      clear hv3 hB3 a0
      have HO3 := Lib.hid (owns_below2 HO.out HBr3.out)
      have HX3 := Lib.hid (show ∀ (i : Nat) (p : Value × VV) (x : Value), Z[i]? = some p → xs[i]? = some x → Arrs W3 (fun b => (ok b ∧ b < w.heap.size) ∨ w.heap.size < b) x p.2.boxs from fun i p x h1 h2 => (HX.out i p x h1 h2).keep (Kept.below HBr3.out) (fun _ _ h => h))
      have HG3 := Lib.hid (grown_trans HG.out (grown_any (below_grown HBr3.out) _))
      have hcw := owns_cell2 HO3.out k (by simp; have := HXL.out; omega)
      have hfr := World.ownsRow.frozenAt HO3.out k
      go_wp2_with fail
      go_roundw
      case rel =>
        refine ⟨k + 1, xs ++ [.slice vo pV.boxs.length vc], by omega, by go_num, by simp [HXL.out], ?_, ?_, grown_trans HG3.out (grown_setCell _ ⟨w.heap.size, k, none⟩ _)⟩
        · have := (World.ownsRow.stored HO3.out k (.slice vo pV.boxs.length vc)).1
          rwa [row_set HXL.out hlt] at this
        · intro i p x hp hx
          have hkk : Kept (fun b => (ok b ∧ b < w.heap.size) ∨ w.heap.size < b) W3 (W3.setCell ⟨w.heap.size, k, none⟩ (.slice vo pV.boxs.length vc)) := Kept.setCell _ _ _ (by simp)
          by_cases e : i < k
          · rw [List.getElem?_append_left (by rw [HXL.out]; exact e)] at hx
            exact (HX3.out i p x hp hx).keep hkk (fun _ _ h => h)
          · have e2 : i = k := by have := (List.getElem?_eq_some_iff.1 hx).1; simp [HXL.out] at this; omega
            subst e2
            rw [List.getElem?_append_right (by rw [HXL.out]; exact Nat.le_refl _), HXL.out, Nat.sub_self] at hx
            obtain rfl := Option.some.inj hx
            obtain rfl := Option.some.inj (HP.out.symm.trans hp)
            exact HV3.out.keep hkk (fun _ _ h => h)
      case measure => simp [intOf]; omega
    · have hkl : k = Z.length := by omega
      subst hkl
      clear hlt
      have HROW := Lib.hid (show RowsA wr (fun b => (ok b ∧ b < w.heap.size) ∨ w.heap.size < b) (.slice (some ⟨w.heap.size, 0, none⟩) Z.length Z.length) (Z.map fun p => p.2.boxs) by
        refine ⟨some ⟨w.heap.size, 0, none⟩, Z.length, by simp, fun i hi => ?_⟩
        have hi : i < Z.length := by simpa using hi
        have hix : i < xs.length := by rw [HXL.out]; exact hi
        refine ⟨w.heap.size, 0, xs[i], rfl, ?_, ?_⟩
        · have := owns_cell2 HO.out i (by simp; omega)
          rw [Nat.zero_add, this, List.getElem_append_left hix]
        · have := HX.out i Z[i] xs[i] (List.getElem?_eq_getElem hi) (List.getElem?_eq_getElem hix)
          simpa using this)
      have HFL := Lib.hid (show (Z.map fun p => p.2.boxs).flatten = Z.flatMap fun p => p.2.boxs from (List.flatMap_def).symm)
      go_wp2_with fail
      refine (catA_calls _ _ _ HROW.out (by simp; omega) (fun l hl => by obtain ⟨p, hp, rfl⟩ := List.mem_map.1 hl; exact HNE.out p hp) (by rw [HFL.out]; exact HSM.out)).mono ?_
      rintro e W ⟨z, rfl, hz, hB2⟩
      rw [HFL.out] at hz
      have HB2 := Lib.hid (HB.out.trans (hB2.mono HB.out.size))
      have HZ2 := Lib.hid (show Arrs W (fun b => (ok b ∧ b < w.heap.size) ∨ w.heap.size < b) z (Z.flatMap fun p => p.2.boxs) from hz.keep (Kept.refl _ _) (fun b _ h => by rcases h with h | h; exact h.1; exact Or.inr (by have := HGS.out; omega)))
      obtain ⟨zo, zc, rfl, _⟩ := hz.len
      clear hz hB2
      obtain ⟨ZL, hZL⟩ : ∃ ZL, ZL = (Z.flatMap fun p => p.2.boxs) := ⟨_, rfl⟩
      have HZL := Lib.hid hZL
      rw [← hZL] at HZ2 ⊢
      clear hZL
      go_wp2_with fail
      go_ret
      exact ⟨_, rfl, by rw [← HZL.out]; exact HZ2.out, HB2.out⟩
end Go.Proofs.YtohkohnihaockaaGreatDoor

/- Package flat, walked: Join. -/
namespace Go.Proofs.YtohkohnihaockaaGreatDoor
set_option maxRecDepth 100000
open Go.RowKit Fl
set_option linter.unusedVariables false

def comK : List (Value × VV) → Int
  | [] => 0 | p :: Z => comZ p.2.kind (p :: Z)
noncomputable def joinB (Z : List (Value × VV)) : Bool := if fullZ Z = [] then true else if comK (fullZ Z) = 0 ∨ 1048576 < lensZ (fullZ Z) then false else true
noncomputable def joinZ (Z : List (Value × VV)) : VV :=
  if fullZ Z = [] then noneV (clsZ Z) else if comK (fullZ Z) = 0 ∨ 1048576 < lensZ (fullZ Z) then .none else
  if comK (fullZ Z) = 1 then .bits ((fullZ Z).flatMap fun p => p.2.packed) else if comK (fullZ Z) = 5 then .chars ((fullZ Z).flatMap fun p => p.2.text) else
  if comK (fullZ Z) = 6 then .boxes ((fullZ Z).flatMap fun p => p.2.boxs) else (VV.floats ((fullZ Z).flatMap fun p => p.2.nums)).sq
/-- What a join takes: vectors that are as they should be. -/
def JoinIn (Z : List (Value × VV)) : Prop := ∀ p ∈ Z, p.2.ok ∧ p.2.nm ∧ ∀ a ∈ p.2.boxs, a.1.length ≤ 1048576
theorem fullZ_mem {Z : List (Value × VV)} {p : Value × VV} (h : p ∈ fullZ Z) : p ∈ Z ∧ 0 < p.2.len := by
  unfold fullZ at h
  have := List.mem_filter.1 h
  exact ⟨this.1, by simpa using this.2⟩
theorem fullZ_len (Z : List (Value × VV)) : (fullZ Z).length ≤ Z.length := List.length_filter_le _ _
theorem commonK_keep {a b : Int} (h : commonK a b ≠ 0) : a ≠ 0 ∧ ((a = b ∧ commonK a b = a) ∨ ((1 ≤ a ∧ a ≤ 4) ∧ (1 ≤ b ∧ b ≤ 4) ∧ commonK a b = max a b)) := by
  unfold commonK at h ⊢
  by_cases e : a = b
  · rw [if_pos e] at h ⊢; exact ⟨h, Or.inl ⟨e, rfl⟩⟩
  · rw [if_neg e] at h ⊢
    by_cases e2 : (1 ≤ a ∧ a ≤ 4) ∧ 1 ≤ b ∧ b ≤ 4
    · rw [if_pos e2]; exact ⟨by omega, Or.inr ⟨e2.1, e2.2, rfl⟩⟩
    · rw [if_neg e2] at h; exact absurd rfl h
/-- What all have where a common kind is found. -/
theorem comZ_all {Z : List (Value × VV)} : ∀ {k0 : Int}, comZ k0 Z ≠ 0 → k0 ≠ 0 ∧ (1 ≤ comZ k0 Z ∧ comZ k0 Z ≤ 4 → (1 ≤ k0 ∧ k0 ≤ comZ k0 Z) ∧ ∀ p ∈ Z, 1 ≤ p.2.kind ∧ p.2.kind ≤ comZ k0 Z) ∧ (¬ (1 ≤ comZ k0 Z ∧ comZ k0 Z ≤ 4) → k0 = comZ k0 Z ∧ ∀ p ∈ Z, p.2.kind = comZ k0 Z) := by
  induction Z with
  | nil => intro k0 h; exact ⟨h, fun h1 => ⟨⟨h1.1, Int.le_refl _⟩, fun p hp => by cases hp⟩, fun _ => ⟨rfl, fun p hp => by cases hp⟩⟩
  | cons q Z ih =>
    intro k0 h
    obtain ⟨r, hr⟩ : ∃ r, r = commonK k0 q.2.kind := ⟨_, rfl⟩
    have e : comZ k0 (q :: Z) = comZ r Z := by rw [hr]; rfl
    rw [e] at h ⊢
    obtain ⟨h1, h2, h3⟩ := ih h
    obtain ⟨h4, h5⟩ := commonK_keep (by rw [← hr]; exact h1)
    rw [← hr] at h5
    refine ⟨h4, fun hr => ?_, fun hr => ?_⟩
    · obtain ⟨⟨a1, a2⟩, a3⟩ := h2 hr
      rcases h5 with ⟨b1, b2⟩ | ⟨b1, b2, b3⟩
      · refine ⟨⟨by omega, by omega⟩, fun p hp => ?_⟩
        rcases List.mem_cons.1 hp with rfl | hp
        · exact ⟨by omega, by omega⟩
        · exact a3 p hp
      · refine ⟨⟨b1.1, by omega⟩, fun p hp => ?_⟩
        rcases List.mem_cons.1 hp with rfl | hp
        · exact ⟨b2.1, by omega⟩
        · exact a3 p hp
    · obtain ⟨a1, a2⟩ := h3 hr
      rcases h5 with ⟨b1, b2⟩ | ⟨b1, b2, b3⟩
      · refine ⟨by omega, fun p hp => ?_⟩
        rcases List.mem_cons.1 hp with rfl | hp
        · omega
        · exact a2 p hp
      · exfalso; apply hr; omega
theorem flat_sum {α : Type} {Z : List (Value × VV)} {f : VV → List α} (h : ∀ p ∈ Z, (f p.2).length = p.2.len) : (Z.flatMap fun p => f p.2).length = lensZ Z := by
  induction Z with
  | nil => rfl
  | cons p Z ih =>
    rw [List.flatMap_cons, List.length_append, h p (List.mem_cons_self ..), ih (fun q hq => h q (List.mem_cons_of_mem _ hq))]
    simp [lensZ]
theorem VV.kind_bit {V : VV} (h : V.kind = 1) : V.isBit = true := by cases V <;> simp_all [VV.kind, VV.isBit]
theorem VV.kind_char {V : VV} (h : V.kind = 5) : V.cls = 1 := by cases V <;> simp_all [VV.kind, VV.cls]
theorem VV.kind_box {V : VV} (h : V.kind = 6) : V.cls = 2 := by cases V <;> simp_all [VV.kind, VV.cls]
theorem VV.kind_num {V : VV} (h : 1 ≤ V.kind ∧ V.kind ≤ 4) : V.cls = 0 := by cases V <;> simp_all [VV.kind, VV.cls]
theorem VV.kind_le (V : VV) : 0 ≤ V.kind ∧ V.kind ≤ 6 := by cases V <;> simp [VV.kind]

set_option maxHeartbeats 8000000 in
theorem fjoin_calls {ok : Nat → Prop} (v : Value) (Z : List (Value × VV)) (w : World) (hz : VecsZ w ok v Z) (hm : Z.length ≤ 1000000) (hin : JoinIn Z) (hT : TabAt w) :
    Calls Tryz.prog 8 #[v] w fun e w' => ∃ u, e = .returned (.tuple #[.agg #[u], .bool (joinB Z)]) ∧ IsV w' (fun b => (ok b ∧ b < w.heap.size) ∨ w.heap.size ≤ b) u (joinZ Z) ∧ Below w.heap.size w w' := by
  obtain ⟨ao, cap, rfl, _⟩ := hz.1.opened
  obtain ⟨W1, hW1⟩ : ∃ W1, W1 = w.alloc (.cells #[.nilIface] 31) := ⟨_, rfl⟩
  have HB := Lib.hid (show Below w.heap.size w W1 by rw [hW1]; exact below_new _ _)
  have HR := Lib.hid (show At1 W1 w.heap.size .nilIface by rw [hW1]; exact At1.new w _ _)
  have HZ := Lib.hid (show VecsZ W1 (fun b => ok b ∧ b < w.heap.size) (.slice ao Z.length cap) Z from hz.keep (Kept.below HB.out) (fun b h h2 => ⟨h2, h⟩))
  have HT := Lib.hid (show TabAt W1 from fun j hj => keep_below HB.out _ _ (hT j hj))
  have HIN := Lib.hid hin
  have HSZ := Lib.hid (show w.heap.size < W1.heap.size from HR.out.1)
  have HW1 := Lib.hid (Below.refl W1.heap.size W1)
  have hfold := hW1.symm
  obtain ⟨F, hF⟩ : ∃ F, F = fullZ Z := ⟨_, rfl⟩
  have HF := Lib.hid hF
  have HFI := Lib.hid (show JoinIn F by rw [hF]; exact fun p hp => hin p (fullZ_mem hp).1)
  have HFM := Lib.hid (show F.length ≤ 1000000 by rw [hF]; exact Nat.le_trans (fullZ_len Z) hm)
  have HFP := Lib.hid (show ∀ p ∈ F, 0 < p.2.len by rw [hF]; exact fun p hp => (fullZ_mem hp).2)
  clear hz hT hin hW1 hF
  go_enter Tryz.func8, Tryz.ntmps8
  go_wp2_with fail
  clear hfold
  have HO := HW1.out.size
  refine (withElements_calls _ Z _ HZ.out (by omega)).mono ?_
  rintro e W11 ⟨vf, rfl, hvf, hB⟩
  replace HR := Lib.hid (HR.out.below hB)
  replace HB := Lib.hid (HB.out.trans (hB.mono HB.out.size))
  replace HW1 := Lib.hid (HW1.out.trans (hB.mono HW1.out.size))
  replace HZ := Lib.hid (HZ.out.keep (Kept.below hB) (fun _ _ h => h))
  replace HT := Lib.hid (fun j hj => keep_below hB _ _ (HT.out j hj))
  rw [← HF.out] at hvf
  have HZF := Lib.hid (show VecsZ W11 (fun b => (ok b ∧ b < w.heap.size) ∨ w.heap.size < b) vf F from ⟨hvf.keep (Kept.refl _ _) (fun b _ (h : _ ≤ b) => Or.inr (by have := HSZ.out; omega)), fun p hp => (HZ.out.2 p (by rw [HF.out] at hp; exact (fullZ_mem hp).1)).wide (fun b _ h => Or.inl h)⟩)
  obtain ⟨fo, fc, rfl, _⟩ := hvf.opened
  clear hvf HO
  clear hB
  obtain ⟨n, hn⟩ : ∃ n, n = F.length := ⟨_, rfl⟩
  have HN := Lib.hid hn
  rw [← hn] at HZF ⊢
  by_cases hcF : F = []
  · have HFN := Lib.hid (show fullZ Z = [] by rw [← HF.out]; exact hcF)
    obtain rfl : n = 0 := by rw [hn, hcF]; rfl
    clear hcF hn
    have cHR0 := HR.out.2.1
    go_wp2_with fail
    have HJB := Lib.hid (show joinB Z = true from if_pos HFN.out)
    have HJZ := Lib.hid (show joinZ Z = noneV (clsZ Z) from if_pos HFN.out)
    refine (firstClass_calls _ Z _ HZ.out).mono ?_
    rintro e W12 ⟨rfl, hB⟩
    clear cHR0
    replace HR := Lib.hid (HR.out.below hB)
    replace HB := Lib.hid (HB.out.trans (hB.mono HB.out.size))
    replace HW1 := Lib.hid (HW1.out.trans (hB.mono HW1.out.size))
    replace HZ := Lib.hid (HZ.out.keep (Kept.below hB) (fun _ _ h => h))
    replace HT := Lib.hid (fun j hj => keep_below hB _ _ (HT.out j hj))
    replace HZF := Lib.hid (HZF.out.keep (Kept.below hB) (fun _ _ h => h))
    clear hB
    have cHR0 := HR.out.2.1
    go_wp2_with fail
    have HO := HW1.out.size
    refine (vnone_calls (clsZ Z) _).mono ?_
    rintro e W13 ⟨uq, rfl, huq, hB⟩
    clear cHR0
    replace HR := Lib.hid (HR.out.below hB)
    replace HB := Lib.hid (HB.out.trans (hB.mono HB.out.size))
    replace HW1 := Lib.hid (HW1.out.trans (hB.mono HW1.out.size))
    replace HZ := Lib.hid (HZ.out.keep (Kept.below hB) (fun _ _ h => h))
    replace HT := Lib.hid (fun j hj => keep_below hB _ _ (HT.out j hj))
    replace HZF := Lib.hid (HZF.out.keep (Kept.below hB) (fun _ _ h => h))
    have HQ := Lib.hid (show IsV W13 (fun b => (ok b ∧ b < w.heap.size) ∨ w.heap.size < b) uq (noneV (clsZ Z)) from huq.wide (fun b _ h => by have h : _ ≤ b := h; exact Or.inr (by have := HSZ.out; omega)))
    have hsq := huq.store
    clear huq HO
    clear hB
    have cHR0 := HR.out.2.1
    have zHR0 := HR.out.2.2 0
    go_wp2_with fail
    refine bodyPost_ret (v := .tuple #[.agg #[uq], .bool true]) (by simp [results, Tryz.results8, go_sem, cHR0, World.cell?_setCell_same]) rfl ⟨uq, by rw [HJB.out], ?_, HB.out.setCell (Nat.le_refl _) _⟩
    rw [HJZ.out]
    exact (HQ.out.keep (Kept.setCell _ _ _ (by simp)) (fun _ _ h => h)).wide (fun b _ h => h.imp id Nat.le_of_lt)
  obtain ⟨p0, F0, hp0⟩ := List.exists_cons_of_ne_nil hcF
  have HCF := Lib.hid hp0
  have hl0 : ((n : Int) == 0) = false := by rw [beq_eq_false_iff_ne, hn, hp0]; simp; omega
  have HFN := Lib.hid (show ¬ fullZ Z = [] by rw [← HF.out]; exact hcF)
  obtain ⟨kd, hkd⟩ : ∃ kd, kd = comK F := ⟨_, rfl⟩
  have HKD := Lib.hid hkd
  have HJB0 := Lib.hid (show joinB Z = if kd = 0 ∨ 1048576 < lensZ F then false else true by rw [hkd, HF.out]; exact if_neg HFN.out)
  have HJZ0 := Lib.hid (show joinZ Z = if kd = 0 ∨ 1048576 < lensZ F then .none else
    if kd = 1 then .bits (F.flatMap fun p => p.2.packed) else if kd = 5 then .chars (F.flatMap fun p => p.2.text) else
    if kd = 6 then .boxes (F.flatMap fun p => p.2.boxs) else (VV.floats (F.flatMap fun p => p.2.nums)).sq by rw [hkd, HF.out]; exact if_neg HFN.out)
  have HKA := Lib.hid (show kd ≠ 0 → (1 ≤ kd ∧ kd ≤ 4 → ∀ p ∈ F, 1 ≤ p.2.kind ∧ p.2.kind ≤ kd) ∧ (¬ (1 ≤ kd ∧ kd ≤ 4) → ∀ p ∈ F, p.2.kind = kd) by
    have e : kd = comZ p0.2.kind F := by rw [hkd, hp0]; rfl
    intro h
    rw [e] at h ⊢
    exact ⟨fun h1 => ((comZ_all h).2.1 h1).2, fun h1 => ((comZ_all h).2.2 h1).2⟩)
  clear hcF hn hp0 hkd
  have cHR0 := HR.out.2.1
  go_wp2_with fail
  refine (commonKind_calls _ p0 F0 _ (show VecsZ _ (fun b => (ok b ∧ b < w.heap.size) ∨ w.heap.size < b) _ (p0 :: F0) by rw [← HCF.out]; exact HZF.out) (by have := HFM.out; rw [HCF.out] at this; omega)).mono ?_
  rintro e W12 ⟨rfl, hB⟩
  clear cHR0
  replace HR := Lib.hid (HR.out.below hB)
  replace HB := Lib.hid (HB.out.trans (hB.mono HB.out.size))
  replace HW1 := Lib.hid (HW1.out.trans (hB.mono HW1.out.size))
  replace HZ := Lib.hid (HZ.out.keep (Kept.below hB) (fun _ _ h => h))
  replace HT := Lib.hid (fun j hj => keep_below hB _ _ (HT.out j hj))
  replace HZF := Lib.hid (HZF.out.keep (Kept.below hB) (fun _ _ h => h))
  rw [show comZ p0.2.kind (p0 :: F0) = kd from by rw [HKD.out, HCF.out]; rfl]
  clear hB
  by_cases hk0 : kd = 0
  · have HJB := Lib.hid (show joinB Z = false by rw [HJB0.out]; exact if_pos (Or.inl hk0))
    have HJZ := Lib.hid (show joinZ Z = .none by rw [HJZ0.out]; exact if_pos (Or.inl hk0))
    have hke : (kd == 0) = true := by simpa using hk0
    clear hk0
    have cHR0 := HR.out.2.1
    have zHR0 := HR.out.2.2 0
    go_wp2_with fail
    refine bodyPost_ret (v := .tuple #[.agg #[.nilIface], .bool false]) (by simp [results, Tryz.results8, go_sem, cHR0, World.cell?_setCell_same]) rfl ⟨.nilIface, by rw [HJB.out], ?_, HB.out.setCell (Nat.le_refl _) _⟩
    rw [HJZ.out]
    exact ((IsV.none (ok := fun b => (ok b ∧ b < w.heap.size) ∨ w.heap.size < b)).keep (Kept.setCell _ _ _ (by simp)) (fun _ _ h => h)).wide (fun b _ h => h.imp id Nat.le_of_lt)
  have HK0 := Lib.hid hk0
  have hke : (kd == 0) = false := by simpa using hk0
  clear hk0
  have cHR0 := HR.out.2.1
  go_wp2_with fail
  refine (fit_calls _ F _ HZF.out (fun p hp => VV.ok_len (HFI.out p hp).1) (by have := HFM.out; omega)).mono ?_
  rintro e W13 ⟨rfl, hB⟩
  clear cHR0
  replace HR := Lib.hid (HR.out.below hB)
  replace HB := Lib.hid (HB.out.trans (hB.mono HB.out.size))
  replace HW1 := Lib.hid (HW1.out.trans (hB.mono HW1.out.size))
  replace HZ := Lib.hid (HZ.out.keep (Kept.below hB) (fun _ _ h => h))
  replace HT := Lib.hid (fun j hj => keep_below hB _ _ (HT.out j hj))
  replace HZF := Lib.hid (HZF.out.keep (Kept.below hB) (fun _ _ h => h))
  clear hB
  by_cases hft : lensZ F ≤ 1048576
  rotate_left
  · have HJB := Lib.hid (show joinB Z = false by rw [HJB0.out]; exact if_pos (Or.inr (by omega)))
    have HJZ := Lib.hid (show joinZ Z = .none by rw [HJZ0.out]; exact if_pos (Or.inr (by omega)))
    rw [decide_eq_false hft]
    clear hft
    have cHR0 := HR.out.2.1
    have zHR0 := HR.out.2.2 0
    go_wp2_with fail
    refine bodyPost_ret (v := .tuple #[.agg #[.nilIface], .bool false]) (by simp [results, Tryz.results8, go_sem, cHR0, World.cell?_setCell_same]) rfl ⟨.nilIface, by rw [HJB.out], ?_, HB.out.setCell (Nat.le_refl _) _⟩
    rw [HJZ.out]
    exact ((IsV.none (ok := fun b => (ok b ∧ b < w.heap.size) ∨ w.heap.size < b)).keep (Kept.setCell _ _ _ (by simp)) (fun _ _ h => h)).wide (fun b _ h => h.imp id Nat.le_of_lt)
  have HFT := Lib.hid hft
  have HNB := Lib.hid (show ¬ (kd = 0 ∨ 1048576 < lensZ F) by have := HK0.out; omega)
  have HJB := Lib.hid (show joinB Z = true by rw [HJB0.out]; exact if_neg HNB.out)
  rw [decide_eq_true hft]
  clear hft
  by_cases hk1 : kd = 1
  · have HKN := Lib.hid hk1
    have hke1 : (kd == 1) = true := by simpa using hk1
    clear hk1
    have HKS := Lib.hid (fun p hp => VV.kind_bit (show VV.kind (p : Value × VV).2 = 1 by have := ((HKA.out HK0.out).1 (by have := HKN.out; omega)) p hp; have := HKN.out; omega) : ∀ p ∈ F, VV.isBit p.2 = true)
    have HSM := Lib.hid (show (F.flatMap fun p => p.2.packed).length ≤ 1048576 by rw [flat_sum (f := VV.packed) (fun p hp => VV.packed_len (HKS.out p hp))]; exact HFT.out)
    obtain ⟨L, hL⟩ : ∃ L, L = F.flatMap fun p => p.2.packed := ⟨_, rfl⟩
    have HLE := Lib.hid hL
    have HLM := Lib.hid (show L.length ≤ 1048576 by rw [hL]; exact HSM.out)
    clear hL
    have HJZ := Lib.hid (show joinZ Z = .bits L by rw [HJZ0.out, if_neg HNB.out, if_pos HKN.out, HLE.out])
    have cHR0 := HR.out.2.1
    go_wp2_with fail
    have HO := HW1.out.size
    refine (joinB_calls _ F _ HZF.out HFM.out (fun p hp => (HFI.out p hp).1) (by have := HSM.out; omega) HT.out).mono ?_
    rintro e W14 ⟨vc, rfl, hvc, hB⟩
    clear cHR0
    replace HR := Lib.hid (HR.out.below hB)
    replace HB := Lib.hid (HB.out.trans (hB.mono HB.out.size))
    replace HW1 := Lib.hid (HW1.out.trans (hB.mono HW1.out.size))
    replace HZ := Lib.hid (HZ.out.keep (Kept.below hB) (fun _ _ h => h))
    replace HT := Lib.hid (fun j hj => keep_below hB _ _ (HT.out j hj))
    replace HZF := Lib.hid (HZF.out.keep (Kept.below hB) (fun _ _ h => h))
    rw [← HLE.out] at hvc
    have HVC := Lib.hid (show Slc W14 (fun b => (ok b ∧ b < w.heap.size) ∨ w.heap.size < b) vc L.length (bools L) from hvc.keep (Kept.refl _ _) (fun b _ (h : _ ≤ b) => Or.inr (by have := HSZ.out; omega)))
    obtain ⟨co, cc, rfl, _⟩ := HVC.out.opened
    clear hvc HO
    clear hB
    have cHR0 := HR.out.2.1
    go_wp2_with fail
    have HO := HW1.out.size
    refine (pack_fresh _ L _ HVC.out.1.sl HLM.out).mono ?_
    rintro e W15 ⟨vp, rfl, hvp, hB⟩
    clear cHR0
    replace HR := Lib.hid (HR.out.below hB)
    replace HB := Lib.hid (HB.out.trans (hB.mono HB.out.size))
    replace HW1 := Lib.hid (HW1.out.trans (hB.mono HW1.out.size))
    replace HZ := Lib.hid (HZ.out.keep (Kept.below hB) (fun _ _ h => h))
    replace HT := Lib.hid (fun j hj => keep_below hB _ _ (HT.out j hj))
    replace HZF := Lib.hid (HZF.out.keep (Kept.below hB) (fun _ _ h => h))
    replace HVC := Lib.hid (HVC.out.below hB)
    have HVP := Lib.hid (show IsBitsX W15 (fun b => (ok b ∧ b < w.heap.size) ∨ w.heap.size < b) vp L from hvp.keep (Kept.refl _ _) (fun b _ (h : _ ≤ b) => Or.inr (by have := HSZ.out; omega)))
    clear hvp HO
    clear hB
    have cHR0 := HR.out.2.1
    go_wp2_with fail
    refine (vbits_ok _ L _ HVP.out HLM.out).mono ?_
    rintro e W16 ⟨uq, rfl, huq, hB⟩
    clear cHR0
    replace HR := Lib.hid (HR.out.below hB)
    replace HB := Lib.hid (HB.out.trans (hB.mono HB.out.size))
    replace HW1 := Lib.hid (HW1.out.trans (hB.mono HW1.out.size))
    replace HZ := Lib.hid (HZ.out.keep (Kept.below hB) (fun _ _ h => h))
    replace HT := Lib.hid (fun j hj => keep_below hB _ _ (HT.out j hj))
    replace HZF := Lib.hid (HZF.out.keep (Kept.below hB) (fun _ _ h => h))
    replace HVC := Lib.hid (HVC.out.below hB)
    replace HVP := Lib.hid (HVP.out.keep (Kept.below hB) (fun _ _ h => h))
    have HQ := Lib.hid huq
    have hsq := huq.store
    clear huq
    clear hB
    have cHR0 := HR.out.2.1
    have zHR0 := HR.out.2.2 0
    go_wp2_with fail
    refine bodyPost_ret (v := .tuple #[.agg #[uq], .bool true]) (by simp [results, Tryz.results8, go_sem, cHR0, World.cell?_setCell_same]) rfl ⟨uq, by rw [HJB.out], ?_, HB.out.setCell (Nat.le_refl _) _⟩
    rw [HJZ.out]
    exact (HQ.out.keep (Kept.setCell _ _ _ (by simp)) (fun _ _ h => h)).wide (fun b _ h => h.imp id Nat.le_of_lt)
  have HK1 := Lib.hid hk1
  have hke1 : (kd == 1) = false := by simpa using hk1
  clear hk1
  by_cases hk5 : kd = 5
  · have HKN := Lib.hid hk5
    have hke5 : (kd == 5) = true := by simpa using hk5
    clear hk5
    have HKS := Lib.hid (fun p hp => VV.kind_char (show VV.kind (p : Value × VV).2 = 5 by have := ((HKA.out HK0.out).2 (by have := HKN.out; omega)) p hp; have := HKN.out; omega) : ∀ p ∈ F, VV.cls p.2 = 1)
    have HSM := Lib.hid (show (F.flatMap fun p => p.2.text).length ≤ 1048576 by rw [flat_sum (f := VV.text) (fun p hp => VV.text_len (HKS.out p hp))]; exact HFT.out)
    obtain ⟨L, hL⟩ : ∃ L, L = F.flatMap fun p => p.2.text := ⟨_, rfl⟩
    have HLE := Lib.hid hL
    have HLM := Lib.hid (show L.length ≤ 1048576 by rw [hL]; exact HSM.out)
    clear hL
    have HJZ := Lib.hid (show joinZ Z = .chars L by rw [HJZ0.out, if_neg HNB.out, if_neg HK1.out, if_pos HKN.out, HLE.out])
    have cHR0 := HR.out.2.1
    go_wp2_with fail
    have HO := HW1.out.size
    refine (joinC_calls _ F _ HZF.out HFM.out (fun p hp => (HFI.out p hp).1) (by have := HSM.out; omega) HT.out).mono ?_
    rintro e W14 ⟨vc, rfl, hvc, hB⟩
    clear cHR0
    replace HR := Lib.hid (HR.out.below hB)
    replace HB := Lib.hid (HB.out.trans (hB.mono HB.out.size))
    replace HW1 := Lib.hid (HW1.out.trans (hB.mono HW1.out.size))
    replace HZ := Lib.hid (HZ.out.keep (Kept.below hB) (fun _ _ h => h))
    replace HT := Lib.hid (fun j hj => keep_below hB _ _ (HT.out j hj))
    replace HZF := Lib.hid (HZF.out.keep (Kept.below hB) (fun _ _ h => h))
    rw [← HLE.out] at hvc
    have HVC := Lib.hid (show Slc W14 (fun b => (ok b ∧ b < w.heap.size) ∨ w.heap.size < b) vc L.length (i32s L) from hvc.keep (Kept.refl _ _) (fun b _ (h : _ ≤ b) => Or.inr (by have := HSZ.out; omega)))
    obtain ⟨co, cc, rfl, _⟩ := HVC.out.opened
    clear hvc HO
    clear hB
    have cHR0 := HR.out.2.1
    go_wp2_with fail
    have HO := HW1.out.size
    refine (vchars_calls _ L _ HVC.out (by have := HLM.out; omega)).mono ?_
    rintro e W15 ⟨uq, rfl, huq, hB⟩
    clear cHR0
    replace HR := Lib.hid (HR.out.below hB)
    replace HB := Lib.hid (HB.out.trans (hB.mono HB.out.size))
    replace HW1 := Lib.hid (HW1.out.trans (hB.mono HW1.out.size))
    replace HZ := Lib.hid (HZ.out.keep (Kept.below hB) (fun _ _ h => h))
    replace HT := Lib.hid (fun j hj => keep_below hB _ _ (HT.out j hj))
    replace HZF := Lib.hid (HZF.out.keep (Kept.below hB) (fun _ _ h => h))
    replace HVC := Lib.hid (HVC.out.below hB)
    have HQ := Lib.hid (show IsV W15 (fun b => (ok b ∧ b < w.heap.size) ∨ w.heap.size < b) uq (.chars L) from huq.wide (fun b _ h => by have h : _ ≤ b := h; exact Or.inr (by have := HSZ.out; omega)))
    have hsq := huq.store
    clear huq HO
    clear hB
    have cHR0 := HR.out.2.1
    have zHR0 := HR.out.2.2 0
    go_wp2_with fail
    refine bodyPost_ret (v := .tuple #[.agg #[uq], .bool true]) (by simp [results, Tryz.results8, go_sem, cHR0, World.cell?_setCell_same]) rfl ⟨uq, by rw [HJB.out], ?_, HB.out.setCell (Nat.le_refl _) _⟩
    rw [HJZ.out]
    exact (HQ.out.keep (Kept.setCell _ _ _ (by simp)) (fun _ _ h => h)).wide (fun b _ h => h.imp id Nat.le_of_lt)
  have HK5 := Lib.hid hk5
  have hke5 : (kd == 5) = false := by simpa using hk5
  clear hk5
  by_cases hk6 : kd = 6
  · have HKN := Lib.hid hk6
    have hke6 : (kd == 6) = true := by simpa using hk6
    clear hk6
    have HKS := Lib.hid (fun p hp => VV.kind_box (show VV.kind (p : Value × VV).2 = 6 by have := ((HKA.out HK0.out).2 (by have := HKN.out; omega)) p hp; have := HKN.out; omega) : ∀ p ∈ F, VV.cls p.2 = 2)
    have HSM := Lib.hid (show (F.flatMap fun p => p.2.boxs).length ≤ 1048576 by rw [flat_sum (f := VV.boxs) (fun p hp => VV.boxs_len (HKS.out p hp))]; exact HFT.out)
    obtain ⟨L, hL⟩ : ∃ L, L = F.flatMap fun p => p.2.boxs := ⟨_, rfl⟩
    have HLE := Lib.hid hL
    have HLM := Lib.hid (show L.length ≤ 1048576 by rw [hL]; exact HSM.out)
    clear hL
    have HJZ := Lib.hid (show joinZ Z = .boxes L by rw [HJZ0.out, if_neg HNB.out, if_neg HK1.out, if_neg HK5.out, if_pos HKN.out, HLE.out])
    have cHR0 := HR.out.2.1
    go_wp2_with fail
    have HO := HW1.out.size
    refine (joinA_calls _ F _ HZF.out HFM.out (fun p hp => (HFI.out p hp).1) (fun p hp => by rw [VV.boxs_len (HKS.out p hp)]; exact HFP.out p hp) HSM.out HT.out).mono ?_
    rintro e W14 ⟨vc, rfl, hvc, hB⟩
    clear cHR0
    replace HR := Lib.hid (HR.out.below hB)
    replace HB := Lib.hid (HB.out.trans (hB.mono HB.out.size))
    replace HW1 := Lib.hid (HW1.out.trans (hB.mono HW1.out.size))
    replace HZ := Lib.hid (HZ.out.keep (Kept.below hB) (fun _ _ h => h))
    replace HT := Lib.hid (fun j hj => keep_below hB _ _ (HT.out j hj))
    replace HZF := Lib.hid (HZF.out.keep (Kept.below hB) (fun _ _ h => h))
    rw [← HLE.out] at hvc
    have HVC := Lib.hid (show Arrs W14 (fun b => (ok b ∧ b < w.heap.size) ∨ w.heap.size < b) vc L from hvc.keep (Kept.refl _ _) (fun b _ h => by rcases h with h | h; exact h.1; exact Or.inr (by have := HSZ.out; omega)))
    obtain ⟨co, cc, rfl, _⟩ := HVC.out.len
    clear hvc HO
    clear hB
    have cHR0 := HR.out.2.1
    go_wp2_with fail
    have HO := HW1.out.size
    refine (vboxes_calls _ L _ HVC.out HLM.out (fun a ha => by rw [HLE.out] at ha; obtain ⟨p, hp, hap⟩ := List.mem_flatMap.1 ha; exact (HFI.out p hp).2.2 a hap)).mono ?_
    rintro e W15 ⟨uq, rfl, huq, hB⟩
    clear cHR0
    replace HR := Lib.hid (HR.out.below hB)
    replace HB := Lib.hid (HB.out.trans (hB.mono HB.out.size))
    replace HW1 := Lib.hid (HW1.out.trans (hB.mono HW1.out.size))
    replace HZ := Lib.hid (HZ.out.keep (Kept.below hB) (fun _ _ h => h))
    replace HT := Lib.hid (fun j hj => keep_below hB _ _ (HT.out j hj))
    replace HZF := Lib.hid (HZF.out.keep (Kept.below hB) (fun _ _ h => h))
    replace HVC := Lib.hid (HVC.out.grow hB)
    have HQ := Lib.hid (show IsV W15 (fun b => (ok b ∧ b < w.heap.size) ∨ w.heap.size < b) uq (.boxes L) from huq.wide (fun b _ h => by rcases h with h | h; exact h.1; exact Or.inr (by have := HSZ.out; omega)))
    have hsq := huq.store
    clear huq HO
    clear hB
    have cHR0 := HR.out.2.1
    have zHR0 := HR.out.2.2 0
    go_wp2_with fail
    refine bodyPost_ret (v := .tuple #[.agg #[uq], .bool true]) (by simp [results, Tryz.results8, go_sem, cHR0, World.cell?_setCell_same]) rfl ⟨uq, by rw [HJB.out], ?_, HB.out.setCell (Nat.le_refl _) _⟩
    rw [HJZ.out]
    exact (HQ.out.keep (Kept.setCell _ _ _ (by simp)) (fun _ _ h => h)).wide (fun b _ h => h.imp id Nat.le_of_lt)
  have HK6 := Lib.hid hk6
  have hke6 : (kd == 6) = false := by simpa using hk6
  clear hk6
  have HKS := Lib.hid (fun p hp => VV.kind_num (show 1 ≤ VV.kind (p : Value × VV).2 ∧ VV.kind p.2 ≤ 4 by
    have h0 := HK0.out
    by_cases hr : 1 ≤ kd ∧ kd ≤ 4
    · have := ((HKA.out h0).1 hr) p hp; omega
    · have := ((HKA.out h0).2 hr) p hp; have := VV.kind_le p.2; have := HK5.out; have := HK6.out; omega) : ∀ p ∈ F, VV.cls p.2 = 0)
  have HSM := Lib.hid (show (F.flatMap fun p => p.2.nums).length ≤ 1048576 by rw [flat_sum (f := VV.nums) (fun p hp => VV.nums_length (HKS.out p hp))]; exact HFT.out)
  obtain ⟨L, hL⟩ : ∃ L, L = F.flatMap fun p => p.2.nums := ⟨_, rfl⟩
  have HLE := Lib.hid hL
  have HLM := Lib.hid (show L.length ≤ 1048576 by rw [hL]; exact HSM.out)
  clear hL
  have HJZ := Lib.hid (show joinZ Z = (VV.floats L).sq by rw [HJZ0.out, if_neg HNB.out, if_neg HK1.out, if_neg HK5.out, if_neg HK6.out, HLE.out])
  have HLU := Lib.hid (show ∀ x ∈ L, Num x by rw [HLE.out]; intro x hx; obtain ⟨p, hp, hxp⟩ := List.mem_flatMap.1 hx; exact VV.nums_num (HFI.out p hp).1 (HFI.out p hp).2.1 x hxp)
  have cHR0 := HR.out.2.1
  go_wp2_with fail
  have HO := HW1.out.size
  refine (joinF_calls _ F _ HZF.out HFM.out (fun p hp => (HFI.out p hp).1) (by have := HSM.out; omega) HT.out).mono ?_
  rintro e W14 ⟨vc, rfl, hvc, hB⟩
  clear cHR0
  replace HR := Lib.hid (HR.out.below hB)
  replace HB := Lib.hid (HB.out.trans (hB.mono HB.out.size))
  replace HW1 := Lib.hid (HW1.out.trans (hB.mono HW1.out.size))
  replace HZ := Lib.hid (HZ.out.keep (Kept.below hB) (fun _ _ h => h))
  replace HT := Lib.hid (fun j hj => keep_below hB _ _ (HT.out j hj))
  replace HZF := Lib.hid (HZF.out.keep (Kept.below hB) (fun _ _ h => h))
  rw [← HLE.out] at hvc
  have HVC := Lib.hid (show Slc W14 (fun b => (ok b ∧ b < w.heap.size) ∨ w.heap.size < b) vc L.length (f64s L) from hvc.keep (Kept.refl _ _) (fun b _ (h : _ ≤ b) => Or.inr (by have := HSZ.out; omega)))
  obtain ⟨co, cc, rfl, _⟩ := HVC.out.opened
  clear hvc HO
  clear hB
  have cHR0 := HR.out.2.1
  go_wp2_with fail
  have HO := HW1.out.size
  refine (fnumbers_calls _ L _ HVC.out HLM.out (fun x hx => (HLU.out x hx).1) HT.out).mono ?_
  rintro e W15 ⟨uq, rfl, huq, hB⟩
  clear cHR0
  replace HR := Lib.hid (HR.out.below hB)
  replace HB := Lib.hid (HB.out.trans (hB.mono HB.out.size))
  replace HW1 := Lib.hid (HW1.out.trans (hB.mono HW1.out.size))
  replace HZ := Lib.hid (HZ.out.keep (Kept.below hB) (fun _ _ h => h))
  replace HT := Lib.hid (fun j hj => keep_below hB _ _ (HT.out j hj))
  replace HZF := Lib.hid (HZF.out.keep (Kept.below hB) (fun _ _ h => h))
  replace HVC := Lib.hid (HVC.out.below hB)
  rw [map_ze HLU.out] at huq
  have HQ := Lib.hid (show IsV W15 (fun b => (ok b ∧ b < w.heap.size) ∨ w.heap.size < b) uq (VV.floats L).sq from huq.wide (fun b _ h => by have h : _ ≤ b := h; exact Or.inr (by have := HSZ.out; omega)))
  have hsq := huq.store
  clear huq HO
  clear hB
  have cHR0 := HR.out.2.1
  have zHR0 := HR.out.2.2 0
  go_wp2_with fail
  refine bodyPost_ret (v := .tuple #[.agg #[uq], .bool true]) (by simp [results, Tryz.results8, go_sem, cHR0, World.cell?_setCell_same]) rfl ⟨uq, by rw [HJB.out], ?_, HB.out.setCell (Nat.le_refl _) _⟩
  rw [HJZ.out]
  exact (HQ.out.keep (Kept.setCell _ _ _ (by simp)) (fun _ _ h => h)).wide (fun b _ h => h.imp id Nat.le_of_lt)
end Go.Proofs.YtohkohnihaockaaGreatDoor

/- The reference of layer 8: Again, Turn. -/
namespace Go.Proofs.YtohkohnihaockaaGreatDoor
set_option maxRecDepth 100000
open Go.RowKit Fl
set_option linter.unusedVariables false

end Go.Proofs.YtohkohnihaockaaGreatDoor

/- What flat's functions make, as items: plain. -/
namespace Go.Proofs.YtohkohnihaockaaGreatDoor
set_option maxRecDepth 100000
open Go.RowKit Fl
set_option linter.unusedVariables false

theorem its_num {d : Nat} {V : VV} (h : V.cls = 0) : itsA d V = V.nums.map fun x => (0, x, 0, []) := by
  unfold itsA
  rw [← VV.nums_length h]
  exact map_range_eq fun i x hx => by unfold itA; rw [if_neg (by omega), if_neg (by omega), atI_some hx]
theorem its_chr {d : Nat} {V : VV} (h : V.cls = 1) : itsA d V = V.text.map fun x => (1, 0, x, []) := by
  unfold itsA
  rw [← VV.text_len h]
  exact map_range_eq fun i x hx => by unfold itA; rw [if_pos h, atI_some hx]
theorem its_box {d : Nat} {V : VV} (h : V.cls = 2) : itsA d V = V.boxs.map fun a => (2, 0, 0, [plA d a]) := by
  unfold itsA
  rw [← VV.boxs_len h]
  exact map_range_eq fun i x hx => by unfold itA; rw [if_neg (by omega), if_pos h, atI_some hx]
end Go.Proofs.YtohkohnihaockaaGreatDoor

/- What flat's Join makes, as items: plain. -/
namespace Go.Proofs.YtohkohnihaockaaGreatDoor
set_option maxRecDepth 100000
open Go.RowKit Fl
set_option linter.unusedVariables false

def kc (k c : Int) : Prop := (c = 0 ∧ 1 ≤ k ∧ k ≤ 4) ∨ (c = 1 ∧ k = 5) ∨ (c = 2 ∧ k = 6)
theorem kc_of {V : VV} (h : V.kind ≠ 0) : kc V.kind V.cls := by cases V <;> simp_all [VV.kind, VV.cls, kc]
theorem kc_common {a b c : Int} (h : kc a c) (k : kc b c) : kc (commonK a b) c := by
  unfold kc commonK at *
  by_cases e : a = b
  · rw [if_pos e]; exact h
  · rw [if_neg e, if_pos (by omega)]; omega
theorem kc_com {c : Int} : ∀ {Z : List (Value × VV)} {k0 : Int}, kc k0 c → (∀ p ∈ Z, kc p.2.kind c) → kc (comZ k0 Z) c := by
  intro Z
  induction Z with
  | nil => intro k0 h _; exact h
  | cons p Z ih =>
    intro k0 h hz
    exact ih (kc_common h (hz p (List.mem_cons_self ..))) (fun q hq => hz q (List.mem_cons_of_mem _ hq))
theorem flatMap_full {β : Type} {Z : List (Value × VV)} {f : VV → List β} (h : ∀ p ∈ Z, p.2.len = 0 → f p.2 = []) : (Z.flatMap fun p => f p.2) = (fullZ Z).flatMap fun p => f p.2 := by
  induction Z with
  | nil => rfl
  | cons p Z ih =>
    have ih := ih (fun q hq => h q (List.mem_cons_of_mem _ hq))
    rw [List.flatMap_cons, ih]
    by_cases h0 : 0 < p.2.len
    · have : fullZ (p :: Z) = p :: fullZ Z := by simp [fullZ, h0]
      rw [this, List.flatMap_cons]
    · have : fullZ (p :: Z) = fullZ Z := by simp [fullZ, h0]
      rw [this, h p (List.mem_cons_self ..) (by omega)]; rfl
theorem flatMap_map' {α β : Type} {Z : List (Value × VV)} {f : VV → List α} {g : α → β} : ((Z.flatMap fun p => f p.2).map g) = Z.flatMap fun p => (f p.2).map g := by
  induction Z with
  | nil => rfl
  | cons p Z ih => rw [List.flatMap_cons, List.map_append, ih, List.flatMap_cons]
theorem flatMap_congr' {β : Type} {Z : List (Value × VV)} {f g : VV → List β} (h : ∀ p ∈ Z, f p.2 = g p.2) : (Z.flatMap fun p => f p.2) = Z.flatMap fun p => g p.2 := by
  induction Z with
  | nil => rfl
  | cons p Z ih => rw [List.flatMap_cons, List.flatMap_cons, h p (List.mem_cons_self ..), ih (fun q hq => h q (List.mem_cons_of_mem _ hq))]
theorem its_zero {d : Nat} {V : VV} (h : V.len = 0) : itsA d V = [] := by simp [itsA, h]
theorem gV_bits {d : Nat} {l : List Bool} (h : l.length ≤ 1048576) : gV d (.bits l) := ⟨h, trivial, rfl, fun a ha => by simp [VV.boxs] at ha⟩
theorem gV_chars {d : Nat} {l : List Int} (h : l.length ≤ 1048576) : gV d (.chars l) := ⟨h, trivial, rfl, fun a ha => by simp [VV.boxs] at ha⟩
theorem gV_floats {d : Nat} {l : List Nat} (h : l.length ≤ 1048576) (hn : ∀ x ∈ l, Num x) : gV d (VV.floats l).sq ∧ (VV.floats l).sq.cls = 0 ∧ (VV.floats l).sq.nums = l := by
  have hok : (VV.floats l).ok := h
  have hnm : (VV.floats l).nm := hn
  obtain ⟨h1, h2, h3, h4, h5, h6⟩ := VV.sq_spec hok hnm
  refine ⟨⟨h4, h5, ?_, fun a ha => by rw [boxs_of_cls (by rw [h3]; simp [VV.cls])] at ha; simp at ha⟩, h3, h2⟩
  rw [h1, VV.least_eq hok hnm rfl, VV.least_eq h4 h5 h3, h2]
theorem gV_boxes {d : Nat} {l : List (List Int × VV)} (h : l.length ≤ 1048576) (hb : ∀ a ∈ l, a.1.length ≤ 1048576) (hg : ∀ a ∈ l, gA d a) : gV d (.boxes l) := ⟨⟨h, hb⟩, trivial, rfl, hg⟩
theorem clsZ_cases (Z : List (Value × VV)) : clsZ Z = 0 ∨ clsZ Z = 1 ∨ clsZ Z = 2 := by
  cases Z with
  | nil => exact Or.inl rfl
  | cons p Z => exact VV.cls_cases _
theorem noneV_facts {d : Nat} {c : Int} (h : c = 0 ∨ c = 1 ∨ c = 2) : gV d (noneV c) ∧ (noneV c).cls = c ∧ itsA d (noneV c) = [] := by
  rcases h with rfl | rfl | rfl
  · exact ⟨gV_bits (by simp), rfl, its_zero rfl⟩
  · exact ⟨gV_chars (by simp), rfl, its_zero rfl⟩
  · exact ⟨gV_boxes (by simp) (by simp) (by simp), rfl, its_zero rfl⟩
/-- Where nothing is joined. -/
theorem join_nil {d : Nat} {Z : List (Value × VV)} (h : fullZ Z = []) : joinB Z = true ∧ gV d (joinZ Z) ∧ (joinZ Z).cls = clsZ Z ∧ itsA d (joinZ Z) = Z.flatMap fun p => itsA d p.2 := by
  have e : joinZ Z = noneV (clsZ Z) := if_pos h
  obtain ⟨h1, h2, h3⟩ := noneV_facts (d := d) (clsZ_cases Z)
  rw [e]
  refine ⟨if_pos h, h1, h2, ?_⟩
  rw [h3, flatMap_full (f := itsA d) (fun p _ hp => its_zero hp), h]; rfl
/-- Where all are of one class. -/
theorem join_some {d : Nat} {Z : List (Value × VV)} {c : Int} (hf : fullZ Z ≠ []) (hg : ∀ p ∈ Z, gV d p.2) (hc : ∀ p ∈ fullZ Z, p.2.cls = c) (hs : lensZ (fullZ Z) ≤ 1048576) :
    joinB Z = true ∧ gV d (joinZ Z) ∧ (joinZ Z).cls = c ∧ itsA d (joinZ Z) = Z.flatMap fun p => itsA d p.2 := by
  obtain ⟨F, hF⟩ : ∃ F, F = fullZ Z := ⟨_, rfl⟩
  have hgF : ∀ p ∈ F, gV d p.2 := fun p hp => hg p (fullZ_mem (hF ▸ hp)).1
  have hk : kc (comK F) c := by
    obtain ⟨p0, F0, e⟩ := List.exists_cons_of_ne_nil (show F ≠ [] by rw [hF]; exact hf)
    have hall : ∀ p ∈ F, kc p.2.kind c := fun p hp => by
      have := kc_of (gV_kind (hgF p hp))
      rwa [hc p (hF ▸ hp)] at this
    rw [e] at hall ⊢
    exact kc_com (hall p0 (List.mem_cons_self ..)) hall
  have hk0 : comK F ≠ 0 := by unfold kc at hk; omega
  rw [flatMap_full (f := itsA d) (fun p _ hp => its_zero hp)]
  rw [← hF] at hc hs hf ⊢
  have hne : ¬ (comK F = 0 ∨ 1048576 < lensZ F) := by omega
  have hb : joinB Z = true := by unfold joinB; rw [← hF, if_neg hf, if_neg hne]
  have hj : joinZ Z = if comK F = 1 then .bits (F.flatMap fun p => p.2.packed) else if comK F = 5 then .chars (F.flatMap fun p => p.2.text) else if comK F = 6 then .boxes (F.flatMap fun p => p.2.boxs) else (VV.floats (F.flatMap fun p => p.2.nums)).sq := by
    unfold joinZ; rw [← hF, if_neg hf, if_neg hne]
  refine ⟨hb, ?_⟩
  rcases hk with ⟨rfl, h1, h4⟩ | ⟨rfl, h5⟩ | ⟨rfl, h6⟩
  · have hn : ∀ x ∈ (F.flatMap fun p => p.2.nums), Num x := fun x hx => by
      obtain ⟨p, hp, hxp⟩ := List.mem_flatMap.1 hx
      exact VV.nums_num (hgF p hp).1 (hgF p hp).2.1 x hxp
    have hl : (F.flatMap fun p => p.2.nums).length ≤ 1048576 := by rw [flat_sum (f := VV.nums) (fun p hp => VV.nums_length (hc p hp))]; exact hs
    have hits : (F.flatMap fun p => itsA d p.2) = (F.flatMap fun p => p.2.nums).map fun x => (0, x, 0, []) := by
      rw [flatMap_map' (f := VV.nums)]; exact flatMap_congr' (f := itsA d) (g := fun V => V.nums.map fun x => (0, x, 0, [])) (fun p hp => its_num (hc p hp))
    by_cases e1 : comK F = 1
    · have e : comK F = comZ (comK F) [] := rfl
      have hbit : ∀ p ∈ F, p.2.isBit = true := fun p hp => by
        obtain ⟨p0, F0, e0⟩ := List.exists_cons_of_ne_nil hf
        have ek : comK F = comZ p0.2.kind F := by rw [e0]; rfl
        have := ((comZ_all (Z := F) (k0 := p0.2.kind) (by rw [← ek]; exact hk0)).2.1 (by rw [← ek]; omega)).2 p hp
        rw [← ek] at this
        exact VV.kind_bit (by omega)
      rw [hj, if_pos e1, hits]
      have hlb : (F.flatMap fun p => p.2.packed).length ≤ 1048576 := by rw [flat_sum (f := VV.packed) (fun p hp => VV.packed_len (hbit p hp))]; exact hs
      refine ⟨gV_bits hlb, rfl, ?_⟩
      rw [its_num rfl]
      congr 1
      show (F.flatMap fun p => p.2.packed).map flagW = _
      rw [flatMap_map' (f := VV.packed)]
      exact flatMap_congr' (f := fun V => V.packed.map flagW) (g := VV.nums) (fun p hp => by have := hbit p hp; revert this; cases p.2 <;> simp [VV.isBit, VV.packed, VV.nums])
    · rw [hj, if_neg e1, if_neg (by omega), if_neg (by omega), hits]
      obtain ⟨g1, g2, g3⟩ := gV_floats (d := d) hl hn
      exact ⟨g1, g2, by rw [its_num g2, g3]⟩
  · rw [hj, if_neg (by omega), if_pos h5]
    have hl : (F.flatMap fun p => p.2.text).length ≤ 1048576 := by rw [flat_sum (f := VV.text) (fun p hp => VV.text_len (hc p hp))]; exact hs
    refine ⟨gV_chars hl, rfl, ?_⟩
    rw [its_chr rfl, text_chars, flatMap_map' (f := VV.text)]
    exact (flatMap_congr' (f := itsA d) (g := fun V => V.text.map fun x => (1, 0, x, [])) (fun p hp => its_chr (hc p hp))).symm
  · rw [hj, if_neg (by omega), if_neg (by omega), if_pos h6]
    have hl : (F.flatMap fun p => p.2.boxs).length ≤ 1048576 := by rw [flat_sum (f := VV.boxs) (fun p hp => VV.boxs_len (hc p hp))]; exact hs
    refine ⟨gV_boxes hl (fun a ha => ?_) (fun a ha => ?_), rfl, ?_⟩
    · obtain ⟨p, hp, hap⟩ := List.mem_flatMap.1 ha; exact gV_box (hgF p hp) a hap
    · obtain ⟨p, hp, hap⟩ := List.mem_flatMap.1 ha; exact (hgF p hp).2.2.2 a hap
    · rw [its_box rfl, boxs_boxes, flatMap_map' (f := VV.boxs)]
      exact (flatMap_congr' (f := itsA d) (g := fun V => V.boxs.map fun a => (2, 0, 0, [plA d a])) (fun p hp => its_box (hc p hp))).symm
end Go.Proofs.YtohkohnihaockaaGreatDoor

/- Layer 8, plain: parts of unlike classes; the class that the reference's Join tells. -/
namespace Go.Proofs.YtohkohnihaockaaGreatDoor
set_option maxRecDepth 100000
open Go.RowKit Fl
set_option linter.unusedVariables false

theorem join_unlike {d : Nat} {Z : List (Value × VV)} (hg : ∀ p ∈ Z, gV d p.2) {p q : Value × VV} (hp : p ∈ fullZ Z) (hq : q ∈ fullZ Z) (hne : p.2.cls ≠ q.2.cls) : joinB Z = false ∧ joinZ Z = .none := by
  have hn : fullZ Z ≠ [] := by intro e; rw [e] at hp; cases hp
  have hk : comK (fullZ Z) = 0 := by
    apply Classical.byContradiction
    intro h
    obtain ⟨p0, F0, e⟩ := List.exists_cons_of_ne_nil hn
    have ek : comK (fullZ Z) = comZ p0.2.kind (fullZ Z) := by rw [e]; rfl
    rw [ek] at h
    obtain ⟨_, h1, h2⟩ := comZ_all h
    have kp := kc_of (gV_kind (hg p (fullZ_mem hp).1))
    have kq := kc_of (gV_kind (hg q (fullZ_mem hq).1))
    by_cases hc : 1 ≤ comZ p0.2.kind (fullZ Z) ∧ comZ p0.2.kind (fullZ Z) ≤ 4
    · have a := (h1 hc).2 p hp
      have b := (h1 hc).2 q hq
      unfold kc at kp kq
      omega
    · have a := (h2 hc).2 p hp
      have b := (h2 hc).2 q hq
      unfold kc at kp kq
      omega
  exact ⟨by unfold joinB; rw [if_neg hn, if_pos (Or.inl hk)], by unfold joinZ; rw [if_neg hn, if_pos (Or.inl hk)]⟩

/-- The class of lists one behind the other: none where they are of unlike ones, below 0 where all are empty. -/
def rcls : Int → List PA → Option Int
  | c, [] => some c
  | c, p :: ps => if 0 < p.l.length ∧ 0 ≤ c ∧ c ≠ p.f then none else rcls (if 0 < p.l.length then p.f else c) ps
theorem rcls_some : ∀ {ps : List PA} {c c' : Int}, (∀ p ∈ ps, 0 ≤ p.f) → rcls c ps = some c' → (∀ p ∈ ps, 0 < p.l.length → p.f = c') ∧ (0 ≤ c → c' = c) ∧ ((∀ p ∈ ps, p.l.length = 0) → c' = c) := by
  intro ps
  induction ps with
  | nil => intro c c' _ h; cases h; exact ⟨(fun p hp => by cases hp), fun _ => rfl, fun _ => rfl⟩
  | cons p ps ih =>
    intro c c' hf h
    rw [rcls] at h
    by_cases hb : 0 < p.l.length ∧ 0 ≤ c ∧ c ≠ p.f
    · rw [if_pos hb] at h; cases h
    rw [if_neg hb] at h
    obtain ⟨h1, h2, h3⟩ := ih (fun q hq => hf q (List.mem_cons_of_mem _ hq)) h
    have hpf := hf p List.mem_cons_self
    by_cases hl : 0 < p.l.length
    · rw [if_pos hl] at h2 h3
      have e := h2 hpf
      refine ⟨fun q hq hql => ?_, (fun hc => by omega), (fun ha => by have := ha p List.mem_cons_self; omega)⟩
      rcases List.mem_cons.1 hq with rfl | hq
      · exact e.symm
      · exact h1 q hq hql
    · rw [if_neg hl] at h2 h3
      refine ⟨fun q hq hql => ?_, h2, fun ha => h3 fun q hq => ha q (List.mem_cons_of_mem _ hq)⟩
      rcases List.mem_cons.1 hq with rfl | hq
      · exact absurd hql hl
      · exact h1 q hq hql
theorem rcls_none : ∀ {ps : List PA} {c : Int}, (∀ p ∈ ps, 0 ≤ p.f) → rcls c ps = none →
    (∃ p ∈ ps, ∃ q ∈ ps, 0 < p.l.length ∧ 0 < q.l.length ∧ p.f ≠ q.f) ∨ (0 ≤ c ∧ ∃ p ∈ ps, 0 < p.l.length ∧ p.f ≠ c) := by
  intro ps
  induction ps with
  | nil => intro c _ h; cases h
  | cons p ps ih =>
    intro c hf h
    rw [rcls] at h
    by_cases hb : 0 < p.l.length ∧ 0 ≤ c ∧ c ≠ p.f
    · exact Or.inr ⟨hb.2.1, p, List.mem_cons_self, hb.1, fun e => hb.2.2 e.symm⟩
    rw [if_neg hb] at h
    rcases ih (fun q hq => hf q (List.mem_cons_of_mem _ hq)) h with ⟨x, hx, y, hy, hxy⟩ | ⟨hc, x, hx, hx1, hx2⟩
    · exact Or.inl ⟨x, List.mem_cons_of_mem _ hx, y, List.mem_cons_of_mem _ hy, hxy⟩
    · by_cases hl : 0 < p.l.length
      · rw [if_pos hl] at hx2
        exact Or.inl ⟨x, List.mem_cons_of_mem _ hx, p, List.mem_cons_self, hx1, hl, hx2⟩
      · rw [if_neg hl] at hc hx2
        exact Or.inr ⟨hc, x, List.mem_cons_of_mem _ hx, hx1, hx2⟩
/-- The class that the reference's Join tells of lists that are joined. -/
def rfin (c : Int) (ps : List PA) : Int := if c < 0 then (match ps with | [] => 0 | p :: _ => p.f) else c
theorem flatMap_congr8 {α β : Type} {l : List α} {f g : α → List β} (h : ∀ x ∈ l, f x = g x) : l.flatMap f = l.flatMap g := by
  induction l with
  | nil => rfl
  | cons x l ih => rw [List.flatMap_cons, List.flatMap_cons, h x List.mem_cons_self, ih fun y hy => h y (List.mem_cons_of_mem _ hy)]
theorem lensZ_le {Z : List (Value × VV)} {m : Nat} (h : ∀ p ∈ Z, p.2.len ≤ m) : lensZ Z ≤ Z.length * m := by
  induction Z with
  | nil => simp [lensZ]
  | cons p Z ih =>
    have e : lensZ (p :: Z) = p.2.len + lensZ Z := by simp [lensZ]
    have h1 := h p List.mem_cons_self
    have h2 := ih (fun q hq => h q (List.mem_cons_of_mem _ hq))
    rw [e, List.length_cons, Nat.succ_mul]
    omega
theorem joins_meet {L : List ((Value × VV) × PA)} (h : ∀ x ∈ L, gV 39 x.1.2 ∧ itsA 39 x.1.2 = x.2.l ∧ x.1.2.cls = x.2.f) (hl : ∀ x ∈ L, x.2.l.length ≤ 3000) (h12 : L.length ≤ 12) :
    (rcls (-1) (L.map (·.2)) = none → joinB (L.map (·.1)) = false ∧ joinZ (L.map (·.1)) = .none) ∧
    (∀ c, rcls (-1) (L.map (·.2)) = some c → joinB (L.map (·.1)) = true ∧ gV 39 (joinZ (L.map (·.1))) ∧ (joinZ (L.map (·.1))).cls = rfin c (L.map (·.2)) ∧ itsA 39 (joinZ (L.map (·.1))) = (L.map (·.2)).flatMap fun p => p.l) := by
  have hf : ∀ p ∈ L.map (·.2), 0 ≤ p.f := by
    intro p hp
    obtain ⟨x, hx, rfl⟩ := List.mem_map.1 hp
    have := (h x hx).2.2
    have hc := VV.cls_cases x.1.2
    rw [this] at hc
    omega
  have hn : ∀ x ∈ L, x.1.2.len = x.2.l.length := by
    intro x hx
    rw [← (h x hx).2.1, itsA_len]
  have hg : ∀ p ∈ L.map (·.1), gV 39 p.2 := by
    intro p hp
    obtain ⟨x, hx, rfl⟩ := List.mem_map.1 hp
    exact (h x hx).1
  have hfull : ∀ x ∈ L, 0 < x.2.l.length → x.1 ∈ fullZ (L.map (·.1)) := by
    intro x hx h0
    unfold fullZ
    exact List.mem_filter.2 ⟨List.mem_map.2 ⟨x, hx, rfl⟩, by rw [hn x hx]; simpa using h0⟩
  have hits : ((L.map (·.1)).flatMap fun p => itsA 39 p.2) = (L.map (·.2)).flatMap fun p => p.l := by
    rw [List.flatMap_map, List.flatMap_map]
    exact flatMap_congr8 fun x hx => (h x hx).2.1
  have hlens : lensZ (fullZ (L.map (·.1))) ≤ 1048576 := by
    have h1 : lensZ (fullZ (L.map (·.1))) ≤ (fullZ (L.map (·.1))).length * 3000 := lensZ_le fun p hp => by
      obtain ⟨x, hx, rfl⟩ := List.mem_map.1 (fullZ_mem hp).1
      rw [hn x hx]; exact hl x hx
    have h2 := fullZ_len (L.map (·.1))
    rw [List.length_map] at h2
    omega
  constructor
  · intro hr
    rcases rcls_none hf hr with ⟨p, hp, q, hq, p0, q0, hne⟩ | ⟨hc, _⟩
    · obtain ⟨x, hx, rfl⟩ := List.mem_map.1 hp
      obtain ⟨y, hy, rfl⟩ := List.mem_map.1 hq
      exact join_unlike (d := 39) hg (hfull x hx p0) (hfull y hy q0) (by rw [(h x hx).2.2, (h y hy).2.2]; exact hne)
    · omega
  · intro c hr
    obtain ⟨h1, _, h3⟩ := rcls_some hf hr
    by_cases hf0 : fullZ (L.map (·.1)) = []
    · obtain ⟨a1, a2, a3, a4⟩ := join_nil (d := 39) hf0
      have hz : ∀ p ∈ L.map (·.2), p.l.length = 0 := by
        intro p hp
        obtain ⟨x, hx, rfl⟩ := List.mem_map.1 hp
        apply Classical.byContradiction
        intro h0
        have := hfull x hx (by omega)
        rw [hf0] at this
        cases this
      have hcm := h3 hz
      refine ⟨a1, a2, ?_, by rw [a4, hits]⟩
      rw [a3, hcm]
      match L, h with
      | [], _ => rfl
      | x :: L', h => simpa [rfin, clsZ] using (h x List.mem_cons_self).2.2
    · obtain ⟨z, F, e⟩ := List.exists_cons_of_ne_nil hf0
      have hzm : z ∈ fullZ (L.map (·.1)) := by rw [e]; exact List.mem_cons_self
      have hcls : ∀ p ∈ fullZ (L.map (·.1)), p.2.cls = c := by
        intro p hp
        obtain ⟨hp1, hp2⟩ := fullZ_mem hp
        obtain ⟨x, hx, rfl⟩ := List.mem_map.1 hp1
        rw [(h x hx).2.2]
        exact h1 x.2 (List.mem_map.2 ⟨x, hx, rfl⟩) (by rw [← hn x hx]; exact hp2)
      obtain ⟨a1, a2, a3, a4⟩ := join_some (d := 39) (c := c) hf0 hg hcls hlens
      have hc0 : ¬ c < 0 := by
        have := VV.cls_cases z.2
        rw [hcls z hzm] at this
        omega
      exact ⟨a1, a2, by rw [a3]; unfold rfin; rw [if_neg hc0], by rw [a4, hits]⟩
end Go.Proofs.YtohkohnihaockaaGreatDoor

/- The reference of layer 8: Join. -/
namespace Go.Proofs.YtohkohnihaockaaGreatDoor
set_option maxRecDepth 100000
open Go.RowKit Fl
set_option linter.unusedVariables false

def jcls (ps : List PA) : Int := match rcls (-1) ps with | none => -1 | some c => rfin c ps
def jl (ps : List PA) : List PI := match rcls (-1) ps with | none => [] | some _ => ps.flatMap fun p => p.l
theorem take_flat {ps : List PA} {k : Nat} {p : PA} (h : ps[k]? = some p) : (ps.take (k + 1)).flatMap (fun p => p.l) = (ps.take k).flatMap (fun p => p.l) ++ p.l := by
  obtain ⟨hk, e⟩ := List.getElem?_eq_some_iff.1 h
  rw [List.take_succ_eq_append_getElem hk, List.flatMap_append, e]; simp
theorem take_flat_len {ps : List PA} (h : ∀ p ∈ ps, p.l.length ≤ 3000) : ∀ k, ((ps.take k).flatMap fun p => p.l).length ≤ k * 3000 := by
  intro k
  induction k with
  | zero => simp
  | succ k ih =>
    cases e : ps[k]? with
    | none => rw [List.take_of_length_le (by have := List.getElem?_eq_none_iff.1 e; omega)]; rw [List.take_of_length_le (by have := List.getElem?_eq_none_iff.1 e; omega)] at ih; omega
    | some p => rw [take_flat e, List.length_append]; have := h p (List.mem_of_getElem? e); omega
theorem rcls_step {ps : List PA} {k : Nat} {p : PA} {c : Int} (h : ps[k]? = some p) : rcls c (ps.drop k) = if 0 < p.l.length ∧ 0 ≤ c ∧ c ≠ p.f then none else rcls (if 0 < p.l.length then p.f else c) (ps.drop (k + 1)) := by
  obtain ⟨hk, e⟩ := List.getElem?_eq_some_iff.1 h
  rw [List.drop_eq_getElem_cons hk, e, rcls]

set_option maxHeartbeats 4000000 in
theorem rjoin_calls {ok : Nat → Prop} (v : Value) (ps : List PA) (w : World) (hb : IsB w ok v ps) (hm : ps.length ≤ 100) (hlen : ∀ p ∈ ps, p.l.length ≤ 3000) (hf : ∀ p ∈ ps, 0 ≤ p.f ∧ p.f ≤ 2) :
    Calls Tryz.prog 9 #[v] w fun e w' => ∃ u, e = .returned (.tuple #[u, .int .i64 (jcls ps)]) ∧ Its w' (fun b => (ok b ∧ b < w.heap.size) ∨ w.heap.size ≤ b) u (jl ps) ∧ Below w.heap.size w w' := by
  obtain ⟨C, hC⟩ : ∃ C, C = jcls ps := ⟨_, rfl⟩
  obtain ⟨J, hJ⟩ : ∃ J, J = jl ps := ⟨_, rfl⟩
  rw [← hC, ← hJ]
  have HJC := Lib.hid hC
  have HJL := Lib.hid hJ
  clear hC hJ
  have HB0 := Lib.hid hb.lt
  obtain ⟨bo, bc, rfl, hbc, hbm⟩ := hb.len
  have HM := Lib.hid hm
  have HLN := Lib.hid hlen
  have HF := Lib.hid hf
  clear hb hm hlen hf
  obtain ⟨i0, hi, hz0, hz1, hz2⟩ := info_parts info_item
  have HI0 := Lib.hid (And.intro hi (And.intro hz0 (And.intro hz1 hz2)))
  have HR0 := Lib.hid (OutRel.start w (fun b => (ok b ∧ b < w.heap.size) ∨ w.heap.size ≤ b))
  clear hi hz0 hz1 hz2 hbc hbm
  go_enter Tryz.func9, Tryz.ntmps9
  go_wp2_with fail
  go_loopw [4, 5, 6] (fun v c i wr => ∃ (k : Nat) (L : List QI) (cl : Int) (n : Nat) (F : List PI), k ≤ ps.length ∧ i = .int .i64 k ∧ c = .int .i64 cl ∧ (-1 ≤ cl ∧ cl ≤ 2) ∧ rcls (-1) ps = rcls cl (ps.drop k) ∧ F = (ps.take k).flatMap (fun p => p.l) ∧ n = F.length ∧
    OutRel w (fun b => (ok b ∧ b < w.heap.size) ∨ w.heap.size ≤ b) n v L F wr) (fun _ _ i _ => ps.length - (intOf i).toNat)
  case atStart => exact ⟨0, [], -1, 0, [], by omega, rfl, rfl, by omega, rfl, rfl, rfl, HR0.out⟩
  case round =>
    obtain ⟨k, L, cl, n, F, hk, rfl, rfl, hcl, hrc, hF, hn, hR⟩ := hrel
    obtain ⟨vo, vc, rfl⟩ := owns_form hR.1
    have HR := Lib.hid hR
    have HRC := Lib.hid hrc
    have HCL := Lib.hid hcl
    have HFE := Lib.hid hF
    have HNE := Lib.hid hn
    have HSW := Lib.hid hR.2.2.size
    have HNB := Lib.hid (show n ≤ k * 3000 by rw [hn, hF]; exact take_flat_len HLN.out k)
    clear hR hrc hcl hF hn
    have hM100 := HM.out
    by_cases hlt : k < ps.length
    · have hx := List.getElem?_eq_getElem hlt
      obtain ⟨p, hpp⟩ : ∃ p, p = ps[k] := ⟨_, rfl⟩
      rw [← hpp] at hx
      clear hpp
      have HX := Lib.hid hx
      obtain ⟨b, off, so, sc, io, ic, rfl, _, c0, c1, c2, hP⟩ := (HB0.out.grow HR.out.2.2).at hx
      obtain ⟨_, _, _, _, e9, _, hit⟩ := hP.opened
      cases e9
      obtain ⟨M, hM, _, hnews, hone⟩ := hit.quads
      have HMM := Lib.hid (show Quad wr (fun b => ((ok b ∧ b < w.heap.size) ∨ w.heap.size ≤ b) ∧ (Value.slice vo n vc).ownBlock ≠ some b) M p.l from hM.keep (Kept.refl _ _) (fun b _ h => ⟨Or.inl h, own_ne HR.out.1 h.2⟩))
      have HML := Lib.hid (show (flatI M).length = p.l.length * 4 by rw [flatI_len, hM.1])
      have HNW := Lib.hid hnews
      have HON := Lib.hid hone
      have HPL := Lib.hid (HLN.out p (List.mem_of_getElem? hx))
      have HFX := Lib.hid (HF.out p (List.mem_of_getElem? hx))
      have HTK := Lib.hid (show (ps.take (k + 1)).flatMap (fun p => p.l) = F ++ p.l by rw [take_flat HX.out, HFE.out])
      have HST := Lib.hid (rcls_step (c := cl) HX.out)
      have HM1 := Lib.hid (show n + p.l.length ≤ maxLen by have := HNB.out; have := HPL.out; have := HM.out; unfold maxLen; omega)
      have HM2 := Lib.hid (show (n + p.l.length) * 48 ≤ 140737488355328 by have := HNB.out; have := HPL.out; have := HM.out; omega)
      have HKK := Lib.hid (show k + 1 ≤ ps.length by omega)
      have HMS := Lib.hid (show ps.length - (k + 1) < ps.length - k by omega)
      clear hx hP hit hM hnews hone c0
      obtain ⟨m, hm⟩ : ∃ m, m = p.l.length := ⟨_, rfl⟩
      obtain ⟨pf, hpf⟩ : ∃ pf, pf = p.f := ⟨_, rfl⟩
      rw [← hm] at c1 HML HM1 HM2 HST
      rw [← hpf] at c2 HST HFX
      have HMD := Lib.hid hm
      clear hm hpf
      by_cases hl0 : 0 < m
      · by_cases hc0 : 0 ≤ cl
        · by_cases hne : cl = pf
          · have hnb : (cl != pf) = false := by simp [hne]
            have HS1 := Lib.hid (show rcls (-1) ps = rcls pf (ps.drop (k + 1)) by rw [HRC.out, HST.out, if_neg (fun h => h.2.2 hne), if_pos hl0])
            clear hne
            go_wp2_with (at_builtin; refine wpList_append_opt _ rfl _ _ 27 rfl w.heap.size 48 i0 _ 4 48 Tryz.underlying27 HI0.out.1 HI0.out.2.1 HI0.out.2.2.1 HI0.out.2.2.2 rfl (by decide) _ n (flatI L) rfl HR.out.1 io m ic (flatI M) rfl HML.out HNW.out HON.out HM1.out HM2.out HSW.out ?_)
            intro v' w5 hown hgrow hblk
            obtain ⟨ao', cap', rfl⟩ := owns_form hown
            have HS5 := Lib.hid (OutRel.many HR.out HMM.out (by rw [← HMD.out]; exact hown) hgrow hblk)
            clear hown hgrow hblk
            go_wp2_with fail
            go_roundw
            case rel =>
              refine ⟨k + 1, L ++ M, pf, n + p.l.length, F ++ p.l, HKK.out, by go_num, rfl, ?_, HS1.out, HTK.out.symm, by rw [List.length_append, HNE.out], ?_⟩
              · first | exact HCL.out | (have := HFX.out; omega)
              · rw [← HMD.out] at HS5 ⊢; exact HS5.out
            case measure => simpa [intOf] using HMS.out
          · have hnb : (cl != pf) = true := by simp [hne]
            have HS1 := Lib.hid (show rcls (-1) ps = none by rw [HRC.out, HST.out, if_pos ⟨hl0, hc0, hne⟩])
            clear hne
            go_wp2_with fail
            go_ret2
            refine ⟨.slice none 0 0, ?_, ?_, HR.out.2.2⟩
            · (rw [HJC.out]; unfold jcls; rw [HS1.out]) <;> rfl
            · rw [HJL.out]; unfold jl; rw [HS1.out]; exact Its.nil _ _
        · have HS1 := Lib.hid (show rcls (-1) ps = rcls pf (ps.drop (k + 1)) by rw [HRC.out, HST.out, if_neg (fun h => hc0 h.2.1), if_pos hl0])
          go_wp2_with (at_builtin; refine wpList_append_opt _ rfl _ _ 27 rfl w.heap.size 48 i0 _ 4 48 Tryz.underlying27 HI0.out.1 HI0.out.2.1 HI0.out.2.2.1 HI0.out.2.2.2 rfl (by decide) _ n (flatI L) rfl HR.out.1 io m ic (flatI M) rfl HML.out HNW.out HON.out HM1.out HM2.out HSW.out ?_)
          intro v' w5 hown hgrow hblk
          obtain ⟨ao', cap', rfl⟩ := owns_form hown
          have HS5 := Lib.hid (OutRel.many HR.out HMM.out (by rw [← HMD.out]; exact hown) hgrow hblk)
          clear hown hgrow hblk
          go_wp2_with fail
          go_roundw
          case rel =>
            refine ⟨k + 1, L ++ M, pf, n + p.l.length, F ++ p.l, HKK.out, by go_num, rfl, ?_, HS1.out, HTK.out.symm, by rw [List.length_append, HNE.out], ?_⟩
            · first | exact HCL.out | (have := HFX.out; omega)
            · rw [← HMD.out] at HS5 ⊢; exact HS5.out
          case measure => simpa [intOf] using HMS.out
      · have HS1 := Lib.hid (show rcls (-1) ps = rcls cl (ps.drop (k + 1)) by rw [HRC.out, HST.out, if_neg (fun h => hl0 h.1), if_neg hl0])
        go_wp2_with (at_builtin; refine wpList_append_opt _ rfl _ _ 27 rfl w.heap.size 48 i0 _ 4 48 Tryz.underlying27 HI0.out.1 HI0.out.2.1 HI0.out.2.2.1 HI0.out.2.2.2 rfl (by decide) _ n (flatI L) rfl HR.out.1 io m ic (flatI M) rfl HML.out HNW.out HON.out HM1.out HM2.out HSW.out ?_)
        intro v' w5 hown hgrow hblk
        obtain ⟨ao', cap', rfl⟩ := owns_form hown
        have HS5 := Lib.hid (OutRel.many HR.out HMM.out (by rw [← HMD.out]; exact hown) hgrow hblk)
        clear hown hgrow hblk
        go_wp2_with fail
        go_roundw
        case rel =>
          refine ⟨k + 1, L ++ M, cl, n + p.l.length, F ++ p.l, HKK.out, by go_num, rfl, ?_, HS1.out, HTK.out.symm, by rw [List.length_append, HNE.out], ?_⟩
          · first | exact HCL.out | (have := HFX.out; omega)
          · rw [← HMD.out] at HS5 ⊢; exact HS5.out
        case measure => simpa [intOf] using HMS.out
    · have hkl : k = ps.length := by omega
      have HS1 := Lib.hid (show rcls (-1) ps = some cl by rw [HRC.out, hkl, List.drop_length]; rfl)
      have HS2 := Lib.hid (show J = F by rw [HJL.out]; unfold jl; rw [HS1.out, HFE.out, hkl, List.take_length])
      have HS3 := Lib.hid (show C = rfin cl ps by rw [HJC.out]; unfold jcls; rw [HS1.out])
      have HIT := Lib.hid (show Its wr (fun b => (ok b ∧ b < w.heap.size) ∨ w.heap.size ≤ b) (.slice vo n vc) J by rw [HS2.out]; exact HR.out.its.wide (fun b _ h => h.elim id Or.inr))
      by_cases hc0 : cl < 0
      · by_cases hn0 : 0 < ps.length
        · have hx := List.getElem?_eq_getElem hn0
          obtain ⟨p, hpp⟩ : ∃ p, p = ps[0] := ⟨_, rfl⟩
          rw [← hpp] at hx
          have HS4 := Lib.hid (show C = p.f by rw [HS3.out]; unfold rfin; rw [if_pos hc0]; cases ps with
            | nil => simp at hn0
            | cons q qs => simp at hx; rw [hx])
          have HFX := Lib.hid (HF.out p (List.mem_of_getElem? hx))
          clear hpp
          obtain ⟨b, off, so, sc, io, ic, rfl, _, c0, c1, c2, hP⟩ := (HB0.out.grow HR.out.2.2).at hx
          obtain ⟨pf, hpf⟩ : ∃ pf, pf = p.f := ⟨_, rfl⟩
          rw [← hpf] at c2 HS4 HFX
          have hnp : ¬ pf < 0 := by have := HFX.out; omega
          clear hx hP c0 c1 hpf hkl
          simp only [Nat.zero_mul, Nat.add_zero] at c2
          go_wp2_with fail
          go_ret2
          exact ⟨_, by (rw [HS4.out]) <;> rfl, HIT.out, HR.out.2.2⟩
        · have HS4 := Lib.hid (show C = 0 by rw [HS3.out]; unfold rfin; rw [if_pos hc0]; cases ps with
            | nil => rfl
            | cons q qs => simp at hn0)
          go_wp2_with fail
          go_ret2
          exact ⟨_, by (rw [HS4.out]) <;> rfl, HIT.out, HR.out.2.2⟩
      · have HS4 := Lib.hid (show C = cl by rw [HS3.out]; unfold rfin; rw [if_neg hc0])
        go_wp2_with fail
        go_ret2
        exact ⟨_, by (rw [HS4.out]) <;> rfl, HIT.out, HR.out.2.2⟩
end Go.Proofs.YtohkohnihaockaaGreatDoor

/- Layer 8's law, its parts: List, good, shows. -/
namespace Go.Proofs.YtohkohnihaockaaGreatDoor
set_option maxRecDepth 100000
open Go.RowKit Fl
set_option linter.unusedVariables false

set_option maxHeartbeats 4000000 in
theorem rlist_calls {ok : Nat → Prop} (lv : Value) (l : List PI) (c : Int) (w : World) (hl : Its w ok lv l) :
    Calls Tryz.prog 41 #[lv, .int .i64 c] w fun e w' => ∃ u, e = .returned u ∧ IsP w' (fun b => (ok b ∧ b < w.heap.size) ∨ w.heap.size ≤ b) u (.mk [(l.length : Int)] l c) ∧ Below w.heap.size w w' := by
  have HL := Lib.hid hl.lt
  obtain ⟨ao, cap, rfl, _, _⟩ := hl.len
  clear hl
  go_enter Tryz.func41, Tryz.ntmps41
  go_wp2_with fail
  refine bodyPost_ret (v := .agg #[.slice (some ⟨w.heap.size + 1, 0, none⟩) 1 1, .slice ao l.length cap, .int .i64 c]) (by simp [results, Tryz.results41, go_sem]) rfl ⟨_, rfl, ?_, (below_new _ _).alloc (by simp) _⟩
  have h1 := Slc.owned (World.ownsRow_lit (base := w.heap.size) (e := 3) (size := 1) (w.alloc (.cells #[.slice (some ⟨w.heap.size + 1, 0, none⟩) 1 1, .slice ao l.length cap, .int .i64 c] 29)) #[.int .i64 (l.length : Int)] 1 (by simp) (by unfold maxLen; omega) rfl)
  simp only [World.size_alloc] at h1
  exact IsP.of (s := [(l.length : Int)]) (h1.keep (Kept.refl _ _) (fun b _ h => Or.inr h)) ((HL.out.grow ((below_new w _).alloc (by simp) _)).wide (fun b _ h => Or.inl h))

def GoodIs (p : PA) (w : World) (e : Ending) (w' : World) : Prop := ∃ g : Bool, e = .returned (.bool g) ∧ (g = true → chk 40 p = 0) ∧ Below w.heap.size w w'

set_option maxHeartbeats 4000000 in
theorem good8_calls (ok : Nat → Prop) (p : PA) (u : Value) (n : Nat) (w : World) (hl : lo n p) (hp : IsP w ok u p) :
    Calls Tryz.prog 5 #[u] w (GoodIs p w) := by
  have HP := Lib.hid hp
  have HL := Lib.hid hl
  obtain ⟨so, sc, io, ic, rfl, hs, hit⟩ := hp.opened
  obtain ⟨W1, hW1⟩ : ∃ W1, W1 = w.alloc (.cells #[.slice so p.s.length sc, .slice io p.l.length ic, .int .i64 p.f] 29) := ⟨_, rfl⟩
  have HB := Lib.hid (show Below w.heap.size w W1 by rw [hW1]; exact below_new _ _)
  have HA := Lib.hid (show At3 W1 w.heap.size (.slice so p.s.length sc) (.slice io p.l.length ic) (.int .i64 p.f) by rw [hW1]; exact At3.new w _ _ _ _)
  have HI := Lib.hid (show IsP W1 ok _ p from HP.out.grow HB.out)
  have hfold := hW1.symm
  obtain ⟨cc, hcc⟩ : ∃ cc, cc = chk 40 p := ⟨_, rfl⟩
  have HCC := Lib.hid hcc
  clear hs hit hp hl hW1 hcc
  have cHA0 := HA.out.2.1
  have cHA1 := HA.out.2.2.1
  have cHA2 := HA.out.2.2.2.1
  go_enter Tryz.func5, Tryz.ntmps5
  go_wp2_with fail
  clear hfold
  refine (pcount_calls n _ p _ _ _ HL.out HI.out).mono ?_
  rintro e W11 ⟨cn, rfl, hB⟩
  clear cHA0 cHA1 cHA2
  replace HA := Lib.hid (HA.out.below hB)
  replace HB := Lib.hid (HB.out.trans (hB.mono HB.out.size))
  replace HI := Lib.hid (HI.out.grow hB)
  clear hB
  have cHA0 := HA.out.2.1
  have cHA1 := HA.out.2.2.1
  have cHA2 := HA.out.2.2.2.1
  by_cases hcn : cn ≤ 2000
  rotate_left
  · go_wp2_with fail
    go_ret
    exact ⟨false, rfl, (fun h => by cases h), HB.out⟩
  go_wp2_with fail
  refine (vCheck_calls _ p _ n _ HL.out HI.out).mono ?_
  rintro e W12 ⟨rfl, hB⟩
  clear cHA0 cHA1 cHA2
  replace HA := Lib.hid (HA.out.below hB)
  replace HB := Lib.hid (HB.out.trans (hB.mono HB.out.size))
  replace HI := Lib.hid (HI.out.grow hB)
  rw [← HCC.out]
  clear hB
  have cHA0 := HA.out.2.1
  have cHA1 := HA.out.2.2.1
  have cHA2 := HA.out.2.2.2.1
  by_cases hc0 : cc = 0
  · have HC0 := Lib.hid hc0
    have hce : (cc == 0) = true := by simpa using hc0
    clear hc0
    go_wp2_with fail
    go_ret
    exact ⟨true, rfl, (fun h => by exact HCC.out ▸ HC0.out), HB.out⟩
  · have HC0 := Lib.hid hc0
    have hce : (cc == 0) = false := by simpa using hc0
    clear hc0
    go_wp2_with fail
    go_ret
    exact ⟨false, rfl, (fun h => by cases h), HB.out⟩

set_option maxHeartbeats 4000000 in
theorem shows8_calls {ok ok2 : Nat → Prop} (u : Value) (V : VV) (lv : Value) (l : List PI) (c : Int) (w : World) (hu : IsV w ok u V) (hV : gV 39 V) (hc : V.cls = c) (hl : Its w ok2 lv l) (he : l = itsA 39 V) (hT : TabAt w) :
    Calls Tryz.prog 11 #[.agg #[u], lv, .int .i64 c] w (BoolIs true w) := by
  obtain ⟨ao, cap, rfl, _, _⟩ := hl.len
  have hsu := hu.store
  obtain ⟨W1, hW1⟩ : ∃ W1, W1 = w.alloc (.cells #[u] 31) := ⟨_, rfl⟩
  have HB := Lib.hid (show Below w.heap.size w W1 by rw [hW1]; exact below_new _ _)
  have HA := Lib.hid (show At1 W1 w.heap.size u by rw [hW1]; exact At1.new w _ _)
  have HU := Lib.hid (show IsV W1 ok u V from hu.grow HB.out)
  have HL := Lib.hid (show Its W1 ok2 (.slice ao l.length cap) l from hl.grow HB.out)
  have HT := Lib.hid (show TabAt W1 from fun j hj => keep_below HB.out _ _ (hT j hj))
  have HV := Lib.hid hV
  have HC := Lib.hid hc
  have HE := Lib.hid he
  have hkz := gV_kind hV
  have hks := hV.2.2.1
  obtain ⟨kd, hkd⟩ : ∃ kd, kd = V.kind := ⟨_, rfl⟩
  have HKD := Lib.hid hkd
  rw [← hkd] at hkz
  have hkz2 : (kd == 0) = false := by simpa using hkz
  have HDT := Lib.hid (show decide (V.kind = (V.least : Int)) = true from decide_eq_true hks)
  have hfold := hW1.symm
  clear hu hl hT hV hc he hW1 hkz hks hkd
  have cHA0 := HA.out.2.1
  go_enter Tryz.func11, Tryz.ntmps11
  go_wp2_with fail
  clear hfold
  refine (class_calls _ V _ HU.out).mono ?_
  rintro e W11 ⟨rfl, hB⟩
  clear cHA0
  replace HA := Lib.hid (HA.out.below hB)
  replace HB := Lib.hid (HB.out.trans (hB.mono HB.out.size))
  replace HU := Lib.hid (HU.out.grow hB)
  replace HL := Lib.hid (HL.out.grow hB)
  replace HT := Lib.hid (fun j hj => keep_below hB _ _ (HT.out j hj))
  rw [HC.out]
  clear hB
  have cHA0 := HA.out.2.1
  go_wp2_with fail
  refine (tight_calls _ V _ HU.out HV.out.1 HV.out.2.1 HT.out).mono ?_
  rintro e W12 ⟨rfl, hB⟩
  clear cHA0
  replace HA := Lib.hid (HA.out.below hB)
  replace HB := Lib.hid (HB.out.trans (hB.mono HB.out.size))
  replace HU := Lib.hid (HU.out.grow hB)
  replace HL := Lib.hid (HL.out.grow hB)
  replace HT := Lib.hid (fun j hj => keep_below hB _ _ (HT.out j hj))
  rw [HDT.out]
  clear hB
  have cHA0 := HA.out.2.1
  go_wp2_with fail
  refine (kind_calls _ V _ HU.out).mono ?_
  rintro e W13 ⟨rfl, hB⟩
  clear cHA0
  replace HA := Lib.hid (HA.out.below hB)
  replace HB := Lib.hid (HB.out.trans (hB.mono HB.out.size))
  replace HU := Lib.hid (HU.out.grow hB)
  replace HL := Lib.hid (HL.out.grow hB)
  replace HT := Lib.hid (fun j hj => keep_below hB _ _ (HT.out j hj))
  rw [← HKD.out]
  clear hB
  have cHA0 := HA.out.2.1
  go_wp2_with fail
  have HPL := Lib.hid (show plA 40 ([(V.len : Int)], V) = .mk [(l.length : Int)] l c by rw [show (40 : Nat) = 39 + 1 from rfl, plA_list, ← HE.out, HC.out])
  have HGA := Lib.hid (gV_gA HV.out)
  have HNI := Lib.hid (show nice 40 (.mk [(l.length : Int)] l c) by rw [← HPL.out]; exact nice_plA 40 _ HGA.out)
  obtain ⟨W14, hWD⟩ : ∃ xw9, W13.drew = xw9 := ⟨_, rfl⟩
  have hB : Below W13.heap.size W13 W14 := by rw [← hWD]; exact Below.drewN' (Below.refl _ _) 1
  clear cHA0
  replace HA := Lib.hid (HA.out.below hB)
  replace HB := Lib.hid (HB.out.trans (hB.mono HB.out.size))
  replace HU := Lib.hid (HU.out.grow hB)
  replace HL := Lib.hid (HL.out.grow hB)
  replace HT := Lib.hid (fun j hj => keep_below hB _ _ (HT.out j hj))
  clear hB
  refine wp_region_held_drew (S := fun w' => w'.cell? ⟨w.heap.size, 0, none⟩ = some u) (by kernel_rfl) (by rw [hWD]; exact HA.out.2.1) (fun hHeld => ?_)
  rw [hWD] at hHeld ⊢
  clear hWD
  refine wpAnyH_take (i := 0) (v := ?_) rfl (by kernel_rfl) (by kernel_rfl) (by kernel_rfl) (fun _ _ _ h => h) (Or.inl ⟨by rfl, ?_⟩) (by assumption) ?_
  rotate_left
  · (intro w hSw; (try dsimp only at hSw); go_simp; try with_reducible rfl)
  simp only [Act.put, List.getElem_toArray, List.getElem_cons_zero, List.setIfInBounds_toArray, List.set_cons_zero, List.set_cons_succ]
  refine wpAnyH_take (i := 3) (v := ?_) rfl (by kernel_rfl) (by kernel_rfl) (by kernel_rfl) (fun _ _ _ h => h) (Or.inl ⟨by rfl, ?_⟩) (by assumption) ?_
  rotate_left
  · (intro w hSw; (try dsimp only at hSw); go_simp; try with_reducible rfl)
  simp only [Act.put, List.getElem_toArray, List.getElem_cons_succ, List.getElem_cons_zero, List.setIfInBounds_toArray, List.set_cons_zero, List.set_cons_succ]
  refine wpAnyH_take (i := 6) (v := ?_) rfl (by kernel_rfl) (by kernel_rfl) (by kernel_rfl) (fun _ _ _ h => h) (Or.inl ⟨by rfl, ?_⟩) (by assumption) ?_
  rotate_left
  · (intro w hSw; (try dsimp only at hSw); go_simp; try with_reducible rfl)
  simp only [Act.put, List.getElem_toArray, List.getElem_cons_succ, List.getElem_cons_zero, List.setIfInBounds_toArray, List.set_cons_zero, List.set_cons_succ]
  refine wpAnyH_take (i := 7) (v := ?_) rfl (by kernel_rfl) (by kernel_rfl) (by kernel_rfl) (fun _ _ _ h => h) (Or.inl ⟨by rfl, ?_⟩) (by assumption) ?_
  rotate_left
  · (intro w hSw; (try dsimp only at hSw); go_simp; try with_reducible rfl)
  simp only [Act.put, List.getElem_toArray, List.getElem_cons_succ, List.getElem_cons_zero, List.setIfInBounds_toArray, List.set_cons_zero, List.set_cons_succ]
  refine wpAnyH_ready (rs := [1]) (by kernel_rfl) (by simp) ?_
  refine AllReadyH.cons (o := _) rfl (fun K hK => ?_) ?_
  · clear hHeld
    go_simp
    refine (vlen_calls _ V _ HU.out).mono ?_
    rintro e W15 ⟨rfl, hB⟩
    replace HA := Lib.hid (HA.out.below hB)
    replace HB := Lib.hid (HB.out.trans (hB.mono HB.out.size))
    replace HU := Lib.hid (HU.out.grow hB)
    replace HL := Lib.hid (HL.out.grow hB)
    replace HT := Lib.hid (fun j hj => keep_below hB _ _ (HT.out j hj))
    clear hB
    refine hK.out _ _ ?_ (fun hHeld => ?_)
    · exact HA.out.2.1
    clear hK K
    refine wpAnyH_ready (rs := [2]) (by kernel_rfl) (by simp) ?_
    refine AllReadyH.cons (o := _) rfl (fun K hK => ?_) ?_
    · clear hHeld
      go_simp
      obtain ⟨W16, hWn⟩ : ∃ xw9, W15.alloc (.cells #[.int .i64 (V.len : Int)] 3) = xw9 := ⟨_, rfl⟩
      have hB : Below W15.heap.size W15 W16 := by rw [← hWn]; exact below_new _ _
      have hNB : Slc W16 (fun _ => True) (.slice (some ⟨W15.heap.size, 0, none⟩) 1 1) 1 (ints [(V.len : Int)]) := by
        rw [← hWn]; exact (Slc.owned (World.ownsRow_lit (base := 0) (e := 3) (size := 1) W15 #[.int .i64 (V.len : Int)] 1 (Nat.zero_le _) (by unfold maxLen; omega) rfl)).keep (Kept.refl _ _) (fun _ _ _ => trivial)
      rw [hWn]
      clear hWn
      obtain ⟨bl, hnm⟩ : ∃ x, W15.heap.size = x := ⟨_, rfl⟩
      rw [hnm] at hNB ⊢
      replace HA := Lib.hid (HA.out.below hB)
      replace HB := Lib.hid (HB.out.trans (hB.mono HB.out.size))
      replace HU := Lib.hid (HU.out.grow hB)
      replace HL := Lib.hid (HL.out.grow hB)
      replace HT := Lib.hid (fun j hj => keep_below hB _ _ (HT.out j hj))
      have HSL := Lib.hid hNB
      clear hNB hB hnm
      refine hK.out _ _ ?_ (fun hHeld => ?_)
      · exact HA.out.2.1
      clear hK K
      refine wpAnyH_take (i := 4) (v := ?_) rfl (by kernel_rfl) (by kernel_rfl) (by kernel_rfl) (fun _ _ _ h => h) (Or.inl ⟨by rfl, ?_⟩) (by assumption) ?_
      rotate_left
      · (intro w hSw; (try dsimp only at hSw); go_simp; try with_reducible rfl)
      simp only [Act.put, List.getElem_toArray, List.getElem_cons_succ, List.getElem_cons_zero, List.setIfInBounds_toArray, List.set_cons_zero, List.set_cons_succ]
      refine wpAnyH_ready (rs := [5]) (by kernel_rfl) (by simp) ?_
      refine AllReadyH.cons (o := _) rfl (fun K hK => ?_) ?_
      · clear hHeld
        go_simp
        refine (plain_calls_at 40 (fun _ => True) ([(V.len : Int)], V) _ _ _ (gA_dA HGA.out) ⟨HSL.out, HU.out.wide (fun _ _ _ => trivial)⟩).mono ?_
        rintro e W17 ⟨up, rfl, hup, hB⟩
        replace HA := Lib.hid (HA.out.below hB)
        replace HB := Lib.hid (HB.out.trans (hB.mono HB.out.size))
        replace HU := Lib.hid (HU.out.grow hB)
        replace HL := Lib.hid (HL.out.grow hB)
        replace HT := Lib.hid (fun j hj => keep_below hB _ _ (HT.out j hj))
        replace HSL := Lib.hid (HSL.out.below hB)
        rw [HPL.out] at hup
        have HUP := Lib.hid hup
        obtain ⟨uso, usc, uio, uic, rfl, _⟩ := hup.opened
        clear hup
        clear hB
        refine hK.out _ _ ?_ (fun hHeld => ?_)
        · exact HA.out.2.1
        clear hK K
        refine wpAnyH_ready (rs := [8]) (by kernel_rfl) (by simp) ?_
        refine AllReadyH.cons (o := _) rfl (fun K hK => ?_) ?_
        · clear hHeld
          go_simp
          refine (rlist_calls _ l c _ HL.out).mono ?_
          rintro e W18 ⟨uq, rfl, huq, hB⟩
          replace HA := Lib.hid (HA.out.below hB)
          replace HB := Lib.hid (HB.out.trans (hB.mono HB.out.size))
          replace HU := Lib.hid (HU.out.grow hB)
          replace HL := Lib.hid (HL.out.grow hB)
          replace HT := Lib.hid (fun j hj => keep_below hB _ _ (HT.out j hj))
          replace HSL := Lib.hid (HSL.out.below hB)
          replace HUP := Lib.hid (HUP.out.grow hB)
          have HUQ := Lib.hid huq
          obtain ⟨qso, qsc, qio, qic, rfl, _⟩ := huq.opened
          clear huq
          clear hB
          refine hK.out _ _ ?_ (fun hHeld => ?_)
          · exact HA.out.2.1
          clear hK K
          refine wpAnyH_ready (rs := [9]) (by kernel_rfl) (by simp) ?_
          refine AllReadyH.cons (o := _) rfl (fun K hK => ?_) ?_
          · clear hHeld
            go_simp
            refine (psame_calls 40 _ _ (.mk [(l.length : Int)] l c) (.mk [(l.length : Int)] l c) _ _ 40 _ HNI.out HNI.out HUP.out HUQ.out).mono ?_
            rintro e W19 ⟨rfl, hB⟩
            replace HA := Lib.hid (HA.out.below hB)
            replace HB := Lib.hid (HB.out.trans (hB.mono HB.out.size))
            replace HU := Lib.hid (HU.out.grow hB)
            replace HL := Lib.hid (HL.out.grow hB)
            replace HT := Lib.hid (fun j hj => keep_below hB _ _ (HT.out j hj))
            replace HSL := Lib.hid (HSL.out.below hB)
            replace HUP := Lib.hid (HUP.out.grow hB)
            replace HUQ := Lib.hid (HUQ.out.grow hB)
            rw [pq_yes rfl]
            clear hB
            refine hK.out _ _ ?_ (fun hHeld => ?_)
            · exact HA.out.2.1
            clear hK K
            refine wpAnyH_take (i := 10) (v := ?_) rfl (by kernel_rfl) (by kernel_rfl) (by kernel_rfl) (fun _ _ _ h => h) (Or.inl ⟨by rfl, ?_⟩) (by assumption) ?_
            rotate_left
            · (intro w hSw; (try dsimp only at hSw); go_simp; try with_reducible rfl)
            simp only [Act.put, List.getElem_toArray, List.getElem_cons_succ, List.getElem_cons_zero, List.setIfInBounds_toArray, List.set_cons_zero, List.set_cons_succ]
            refine wpAnyH_done (by kernel_rfl) ?_ _
            clear hHeld
            have cHA0 := HA.out.2.1
            go_wp2_with fail
            go_ret
            exact BoolIs.mk rfl HB.out
          exact AllReadyH.nil
        exact AllReadyH.nil
      exact AllReadyH.nil
    exact AllReadyH.nil
  exact AllReadyH.nil
end Go.Proofs.YtohkohnihaockaaGreatDoor

/- Merged: FlA, FlB, FlC, FlD, FlE, FlM, FlN, FlS, FlT, FlO, FlU, FlV, FlW, FlX, FlY, FlZ, FmA, FmB, FmC. -/
import Derived.Test.YtbfcdpabjailcaaGreatDoorMgVe1
import Derived.Test.YtbfcdpabjailcaaGreatDoorMgVa1
import Derived.Test.YtbfcdpabjailcaaGreatDoorMgBv1
import Derived.Test.YtbfcdpabjailcaaGreatDoorMgSh1
/- Package flat, walked: chosen, of numbers, characters and booleans. -/
namespace Go.Proofs.YtbfcdpabjailcaaGreatDoor
set_option maxRecDepth 100000
open Go.RowKit
set_option linter.unusedVariables false

theorem atI_in {α : Type} {l : List α} {d e : α} {i : Int} (h : 0 ≤ i ∧ i < (l.length : Int)) : atI l d i = atI l e i := by
  have hk : i.toNat < l.length := by omega
  simp [atI, h.1, List.getElem?_eq_getElem hk]
theorem info_bool1 : (Tryz.prog.info? 4).map (fun i => (i.zero, i.size, i.bytes)) = some (some (.bool false), 1, 1) := by kernel_rfl
theorem run_mkC1 (n : Nat) (hn : n ≤ 2000000) (w : World) : (Instr.makeSlice 80 (.int .i64 (n : Int)) (.int .i64 (n : Int))).run Tryz.prog w = .ok (.slice (some ⟨w.heap.size, 0, none⟩) n n) (w.alloc (.cells (zerosV (.int .i32 0) n) 21)) := by
  obtain ⟨i0, hi, hz0, hz1, hz2⟩ := info_parts info_i32
  have hr := run_make (P := Tryz.prog) w 80 21 i0 _ Tryz.underlying80 hi hz0 .i64 .i64 n n (by omega) (Int.le_refl _) (by rw [hz2]; omega) (by omega)
  simp only [Int.toNat_natCast, hz1] at hr
  exact hr
theorem run_mkB1 (n : Nat) (hn : n ≤ 2000000) (w : World) : (Instr.makeSlice 122 (.int .i64 (n : Int)) (.int .i64 (n : Int))).run Tryz.prog w = .ok (.slice (some ⟨w.heap.size, 0, none⟩) n n) (w.alloc (.cells (zerosV (.bool false) n) 4)) := by
  obtain ⟨i0, hi, hz0, hz1, hz2⟩ := info_parts info_bool1
  have hr := run_make (P := Tryz.prog) w 122 4 i0 _ Tryz.underlying122 hi hz0 .i64 .i64 n n (by omega) (Int.le_refl _) (by rw [hz2]; omega) (by omega)
  simp only [Int.toNat_natCast, hz1] at hr
  exact hr

set_option maxHeartbeats 1000000 in
theorem chF_calls {ok ok2 : Nat → Prop} (u : Value) (V : VV) (v : Value) (at_ : List Int) (w : World) (hu : IsV w ok u V) (hv : Slc w ok2 v at_.length (ints at_)) (hm : at_.length ≤ 2000000) :
    Calls Tryz.prog 92 #[.int .i64 (V.len : Int), .func (.func 73) #[.agg #[u]] #[], v, .float .f64 0] w fun e w' => ∃ v, e = .returned v ∧ Slc w' (fun b => w.heap.size ≤ b) v at_.length (f64s (at_.map (atI V.nums 0))) ∧ Below w.heap.size w w' := by
  obtain ⟨ao, cap, rfl, _, _, _, hc⟩ := hv.opened
  have HC := Lib.hid hc
  have HU := Lib.hid hu
  clear hv hc hu
  have hst := run_store_float
  obtain ⟨xs, hxs⟩ : ∃ xs : List Value, xs = (f64s (at_.map (atI V.nums 0))) := ⟨_, rfl⟩
  have hxl : xs.length = at_.length := by rw [hxs]; simp [f64s]
  have hget : ∀ k (h : k < xs.length) (h2 : k < at_.length), ∃ x : Int, x = at_[k]'h2 ∧ xs[k]'h = .float .f64 (atI V.nums 0 x) := by intro k h h2; refine ⟨_, rfl, ?_⟩; simp [hxs, f64s]
  rw [← hxs]
  have HX := Lib.hid hget
  have HXL := Lib.hid hxl
  have hmk := run_mkF1 at_.length (by omega) w
  clear hxs hget hxl
  obtain ⟨W0, hW0⟩ : ∃ W0, W0 = w.alloc (.cells (zerosV (.float .f64 0) at_.length) 38) := ⟨_, rfl⟩
  have HO0 : Hid (W0.ownsRow w.heap.size 38 1 (.slice (some ⟨w.heap.size, 0, none⟩) at_.length at_.length) at_.length (List.replicate at_.length (.float .f64 0))) := Lib.hid (by rw [hW0]; exact own_make1 _ _ _ (by omega) _ _ (Nat.le_refl _))
  have HW := Lib.hid (show Below w.heap.size w W0 by rw [hW0]; exact below_new _ _)
  go_enter Tryz.func92, Tryz.ntmps92
  go_wp2
  rw [← hW0]
  clear hW0 hmk
  go_loopw [17] (fun i wr => ∃ k : Nat, k ≤ at_.length ∧ i = .int .i64 k ∧ wr.ownsRow w.heap.size 38 1 (.slice (some ⟨w.heap.size, 0, none⟩) at_.length at_.length) at_.length (fillTo xs (.float .f64 0) k) ∧ W0.grownBy wr (some w.heap.size)) (fun i _ => at_.length - (intOf i).toNat)
  case atStart => exact ⟨0, by omega, rfl, by rw [fillTo_zero, HXL.out]; exact HO0.out, grown_refl _ _⟩
  case round =>
    obtain ⟨k, hk, rfl, hown, hgr⟩ := hrel
    have HO := Lib.hid hown
    have HG := Lib.hid hgr
    have HB := Lib.hid (HW.out.grown hgr HW.out.size (fun j hj => by cases hj; omega))
    by_cases hlt : k < at_.length
    · obtain ⟨b, off, rfl, _, hcl0⟩ := HC.out k (by rw [ints_len]; exact hlt)
      have hcl := keep_below HB.out _ _ hcl0
      rw [ints_get] at hcl
      obtain ⟨x, hx, hxk⟩ := HX.out k (by rw [HXL.out]; exact hlt) hlt
      have hcw := owns_cell HO.out k (by rw [fillTo_len _ _ _ (by rw [HXL.out]; exact hk), HXL.out]; exact hlt)
      have hfr := World.ownsRow.frozenAt HO.out k
      rw [← hx] at hcl
      have HXK := Lib.hid hxk
      clear hown hgr hcl0 hx hxk
      by_cases hin : 0 ≤ x ∧ x < (V.len : Int)
      · have hi1 := hin.1
        have hi2 := hin.2
        have HIN := Lib.hid hin
        clear hin
        have HWR := Lib.hid (Nat.le_refl wr.heap.size)
        go_wp2_with fail
        refine (num_calls _ V _ _ (HU.out.grow (HB.out.setCell (Nat.le_refl _) _))).mono ?_
        rintro e w2 ⟨rfl, hB2⟩
        have HS := Lib.hid (World.ownsRow.stored HO.out k (.float .f64 0)).1
        have HO2 := Lib.hid (owns_below2 HS.out hB2)
        have HG2 := Lib.hid (grown_trans (grown_trans HG.out (grown_setCell _ ⟨w.heap.size, k, none⟩ _)) (grown_any (below_grown hB2) _))
        have hcw2 := owns_cell2 HO2.out k (by rw [List.length_set, fillTo_len _ _ _ (by rw [HXL.out]; exact hk), HXL.out]; exact hlt)
        have hfr2 := World.ownsRow.frozenAt HO2.out k
        clear hB2 hcw hfr
        go_wp2
        go_roundw
        case rel =>
          refine ⟨k + 1, by omega, by go_num, ?_, grown_trans HG2.out (grown_setCell _ ⟨w.heap.size, k, none⟩ _)⟩
          have := (World.ownsRow.stored HO2.out k (.float .f64 (atI V.nums 0 x))).1
          have hq : xs[k]'(by rw [HXL.out]; exact hlt) = .float .f64 (atI V.nums 0 x) := by rw [HXK.out]
          rw [List.set_set, ← hq, fillTo_set] at this
          rw [← hq]
          exact this
        case measure => simp [intOf]; omega
      · have HZ := Lib.hid (VV.nums_len hin)
        have hn : ¬ (0 ≤ x) ∨ (0 ≤ x ∧ ¬ (x < (V.len : Int))) := by omega
        clear hin
        rcases hn with hn | ⟨hn, hn2⟩
        all_goals
          go_wp2_with fail
          go_roundw
          case rel =>
            refine ⟨k + 1, by omega, by go_num, ?_, grown_trans HG.out (grown_setCell _ ⟨w.heap.size, k, none⟩ _)⟩
            have := (World.ownsRow.stored HO.out k (.float .f64 0)).1
            have hq : xs[k]'(by rw [HXL.out]; exact hlt) = .float .f64 0 := by rw [HXK.out, HZ.out]
            rw [← hq, fillTo_set] at this
            rw [← hq]
            exact this
          case measure => simp [intOf]; omega
    · have hkl : k = at_.length := by omega
      have HK := Lib.hid hkl
      clear hown hgr hkl
      go_wp2
      go_ret
      refine ⟨_, rfl, ?_, HB.out⟩
      have := Slc.owned HO.out
      rwa [HK.out, ← HXL.out, fillTo_all, HXL.out] at this

set_option maxHeartbeats 1000000 in
theorem chC_calls {ok ok2 : Nat → Prop} (u : Value) (V : VV) (v : Value) (at_ : List Int) (w : World) (hu : IsV w ok u V) (hv : Slc w ok2 v at_.length (ints at_)) (hm : at_.length ≤ 2000000) (hcl : V.text.length = V.len) :
    Calls Tryz.prog 87 #[.int .i64 (V.len : Int), .func (.func 71) #[.agg #[u]] #[], v, .int .i32 32] w fun e w' => ∃ v, e = .returned v ∧ Slc w' (fun b => w.heap.size ≤ b) v at_.length (i32s (at_.map (atI V.text 32))) ∧ Below w.heap.size w w' := by
  obtain ⟨ao, cap, rfl, _, _, _, hc⟩ := hv.opened
  have HC := Lib.hid hc
  have HU := Lib.hid hu
  have HCL := Lib.hid hcl
  clear hv hc hu
  obtain ⟨xs, hxs⟩ : ∃ xs : List Value, xs = (i32s (at_.map (atI V.text 32))) := ⟨_, rfl⟩
  have hxl : xs.length = at_.length := by rw [hxs]; simp [i32s]
  have hget : ∀ k (h : k < xs.length) (h2 : k < at_.length), ∃ x : Int, x = at_[k]'h2 ∧ xs[k]'h = .int .i32 (atI V.text 32 x) := by intro k h h2; refine ⟨_, rfl, ?_⟩; simp [hxs, i32s]
  rw [← hxs]
  have HX := Lib.hid hget
  have HXL := Lib.hid hxl
  have hmk := run_mkC1 at_.length (by omega) w
  clear hxs hget hxl
  obtain ⟨W0, hW0⟩ : ∃ W0, W0 = w.alloc (.cells (zerosV (.int .i32 0) at_.length) 21) := ⟨_, rfl⟩
  have HO0 : Hid (W0.ownsRow w.heap.size 21 1 (.slice (some ⟨w.heap.size, 0, none⟩) at_.length at_.length) at_.length (List.replicate at_.length (.int .i32 0))) := Lib.hid (by rw [hW0]; exact own_make1 _ _ _ (by omega) _ _ (Nat.le_refl _))
  have HW := Lib.hid (show Below w.heap.size w W0 by rw [hW0]; exact below_new _ _)
  go_enter Tryz.func87, Tryz.ntmps87
  go_wp2
  rw [← hW0]
  clear hW0 hmk
  go_loopw [17] (fun i wr => ∃ k : Nat, k ≤ at_.length ∧ i = .int .i64 k ∧ wr.ownsRow w.heap.size 21 1 (.slice (some ⟨w.heap.size, 0, none⟩) at_.length at_.length) at_.length (fillTo xs (.int .i32 0) k) ∧ W0.grownBy wr (some w.heap.size)) (fun i _ => at_.length - (intOf i).toNat)
  case atStart => exact ⟨0, by omega, rfl, by rw [fillTo_zero, HXL.out]; exact HO0.out, grown_refl _ _⟩
  case round =>
    obtain ⟨k, hk, rfl, hown, hgr⟩ := hrel
    have HO := Lib.hid hown
    have HG := Lib.hid hgr
    have HB := Lib.hid (HW.out.grown hgr HW.out.size (fun j hj => by cases hj; omega))
    by_cases hlt : k < at_.length
    · obtain ⟨b, off, rfl, _, hcl0⟩ := HC.out k (by rw [ints_len]; exact hlt)
      have hcl := keep_below HB.out _ _ hcl0
      rw [ints_get] at hcl
      obtain ⟨x, hx, hxk⟩ := HX.out k (by rw [HXL.out]; exact hlt) hlt
      have hcw := owns_cell HO.out k (by rw [fillTo_len _ _ _ (by rw [HXL.out]; exact hk), HXL.out]; exact hlt)
      have hfr := World.ownsRow.frozenAt HO.out k
      rw [← hx] at hcl
      have HXK := Lib.hid hxk
      clear hown hgr hcl0 hx hxk
      by_cases hin : 0 ≤ x ∧ x < (V.len : Int)
      · have hi1 := hin.1
        have hi2 := hin.2
        have HIN := Lib.hid hin
        clear hin
        have HWR := Lib.hid (Nat.le_refl wr.heap.size)
        go_wp2_with fail
        refine (vchar_calls _ V _ _ (HU.out.grow (HB.out.setCell (Nat.le_refl _) _))).mono ?_
        rintro e w2 ⟨rfl, hB2⟩
        have HS := Lib.hid (World.ownsRow.stored HO.out k (.int .i32 32)).1
        have HO2 := Lib.hid (owns_below2 HS.out hB2)
        have HG2 := Lib.hid (grown_trans (grown_trans HG.out (grown_setCell _ ⟨w.heap.size, k, none⟩ _)) (grown_any (below_grown hB2) _))
        have hcw2 := owns_cell2 HO2.out k (by rw [List.length_set, fillTo_len _ _ _ (by rw [HXL.out]; exact hk), HXL.out]; exact hlt)
        have hfr2 := World.ownsRow.frozenAt HO2.out k
        clear hB2 hcw hfr
        go_wp2
        go_roundw
        case rel =>
          refine ⟨k + 1, by omega, by go_num, ?_, grown_trans HG2.out (grown_setCell _ ⟨w.heap.size, k, none⟩ _)⟩
          have := (World.ownsRow.stored HO2.out k (.int .i32 (atI V.text 0 x))).1
          have hq : xs[k]'(by rw [HXL.out]; exact hlt) = .int .i32 (atI V.text 0 x) := by rw [HXK.out]; rw [atI_in (e := 0) (by rw [HCL.out]; exact HIN.out)]
          rw [List.set_set, ← hq, fillTo_set] at this
          rw [← hq]
          exact this
        case measure => simp [intOf]; omega
      · have HZ := Lib.hid (atI_neg (d := (32 : Int)) (by rw [HCL.out]; exact hin))
        have hn : ¬ (0 ≤ x) ∨ (0 ≤ x ∧ ¬ (x < (V.len : Int))) := by omega
        clear hin
        rcases hn with hn | ⟨hn, hn2⟩
        all_goals
          go_wp2_with fail
          go_roundw
          case rel =>
            refine ⟨k + 1, by omega, by go_num, ?_, grown_trans HG.out (grown_setCell _ ⟨w.heap.size, k, none⟩ _)⟩
            have := (World.ownsRow.stored HO.out k (.int .i32 32)).1
            have hq : xs[k]'(by rw [HXL.out]; exact hlt) = .int .i32 32 := by rw [HXK.out, HZ.out]
            rw [← hq, fillTo_set] at this
            rw [← hq]
            exact this
          case measure => simp [intOf]; omega
    · have hkl : k = at_.length := by omega
      have HK := Lib.hid hkl
      clear hown hgr hkl
      go_wp2
      go_ret
      refine ⟨_, rfl, ?_, HB.out⟩
      have := Slc.owned HO.out
      rwa [HK.out, ← HXL.out, fillTo_all, HXL.out] at this

theorem sqI_out {l : List Bool} {i : Int} (h : ¬ (0 ≤ i ∧ i < (l.length : Int))) : sqI l i = false := by
  by_cases h0 : 0 ≤ i
  · have : l.length ≤ i.toNat := by omega
    simp [sqI, h0, sq, List.getElem?_eq_none this]
  · simp [sqI, h0]
set_option maxHeartbeats 1000000 in
theorem chB_calls {ok2 : Nat → Prop} (u : Value) (l : List Bool) (v : Value) (at_ : List Int) (w : World) (hu : IsBits w u l) (hv : Slc w ok2 v at_.length (ints at_)) (hm : at_.length ≤ 2000000) (hcl : l.length ≤ 1048576) :
    Calls Tryz.prog 84 #[.int .i64 (l.length : Int), .func (.func 85) #[u] #[], v, .bool false] w fun e w' => ∃ v, e = .returned v ∧ Slc w' (fun b => w.heap.size ≤ b) v at_.length (bools (at_.map (sqI l))) ∧ Below w.heap.size w w' := by
  obtain ⟨ao, cap, rfl, _, _, _, hc⟩ := hv.opened
  have HC := Lib.hid hc
  have HU := Lib.hid hu
  have HCL := Lib.hid hcl
  clear hv hc hu
  obtain ⟨xs, hxs⟩ : ∃ xs : List Value, xs = (bools (at_.map (sqI l))) := ⟨_, rfl⟩
  have hxl : xs.length = at_.length := by rw [hxs]; simp [bools]
  have hget : ∀ k (h : k < xs.length) (h2 : k < at_.length), ∃ x : Int, x = at_[k]'h2 ∧ xs[k]'h = .bool (sqI l x) := by intro k h h2; refine ⟨_, rfl, ?_⟩; simp [hxs, bools]
  rw [← hxs]
  have HX := Lib.hid hget
  have HXL := Lib.hid hxl
  have hmk := run_mkB1 at_.length (by omega) w
  clear hxs hget hxl
  obtain ⟨W0, hW0⟩ : ∃ W0, W0 = w.alloc (.cells (zerosV (.bool false) at_.length) 4) := ⟨_, rfl⟩
  have HO0 : Hid (W0.ownsRow w.heap.size 4 1 (.slice (some ⟨w.heap.size, 0, none⟩) at_.length at_.length) at_.length (List.replicate at_.length (.bool false))) := Lib.hid (by rw [hW0]; exact own_make1 _ _ _ (by omega) _ _ (Nat.le_refl _))
  have HW := Lib.hid (show Below w.heap.size w W0 by rw [hW0]; exact below_new _ _)
  go_enter Tryz.func84, Tryz.ntmps84
  go_wp2
  rw [← hW0]
  clear hW0 hmk
  go_loopw [17] (fun i wr => ∃ k : Nat, k ≤ at_.length ∧ i = .int .i64 k ∧ wr.ownsRow w.heap.size 4 1 (.slice (some ⟨w.heap.size, 0, none⟩) at_.length at_.length) at_.length (fillTo xs (.bool false) k) ∧ W0.grownBy wr (some w.heap.size)) (fun i _ => at_.length - (intOf i).toNat)
  case atStart => exact ⟨0, by omega, rfl, by rw [fillTo_zero, HXL.out]; exact HO0.out, grown_refl _ _⟩
  case round =>
    obtain ⟨k, hk, rfl, hown, hgr⟩ := hrel
    have HO := Lib.hid hown
    have HG := Lib.hid hgr
    have HB := Lib.hid (HW.out.grown hgr HW.out.size (fun j hj => by cases hj; omega))
    by_cases hlt : k < at_.length
    · obtain ⟨b, off, rfl, _, hcl0⟩ := HC.out k (by rw [ints_len]; exact hlt)
      have hcl := keep_below HB.out _ _ hcl0
      rw [ints_get] at hcl
      obtain ⟨x, hx, hxk⟩ := HX.out k (by rw [HXL.out]; exact hlt) hlt
      have hcw := owns_cell HO.out k (by rw [fillTo_len _ _ _ (by rw [HXL.out]; exact hk), HXL.out]; exact hlt)
      have hfr := World.ownsRow.frozenAt HO.out k
      rw [← hx] at hcl
      have HXK := Lib.hid hxk
      clear hown hgr hcl0 hx hxk
      by_cases hin : 0 ≤ x ∧ x < (l.length : Int)
      · have hi1 := hin.1
        have hi2 := hin.2
        have HIN := Lib.hid hin
        clear hin
        have HWR := Lib.hid (Nat.le_refl wr.heap.size)
        go_wp2_with fail
        refine (at_calls _ l _ _ (HU.out.keep (keep_below (HB.out.setCell (Nat.le_refl _) _))) HCL.out).mono ?_
        rintro e w2 ⟨rfl, hB2⟩
        have HS := Lib.hid (World.ownsRow.stored HO.out k (.bool false)).1
        have HO2 := Lib.hid (owns_below2 HS.out hB2)
        have HG2 := Lib.hid (grown_trans (grown_trans HG.out (grown_setCell _ ⟨w.heap.size, k, none⟩ _)) (grown_any (below_grown hB2) _))
        have hcw2 := owns_cell2 HO2.out k (by rw [List.length_set, fillTo_len _ _ _ (by rw [HXL.out]; exact hk), HXL.out]; exact hlt)
        have hfr2 := World.ownsRow.frozenAt HO2.out k
        clear hB2 hcw hfr
        go_wp2
        go_roundw
        case rel =>
          refine ⟨k + 1, by omega, by go_num, ?_, grown_trans HG2.out (grown_setCell _ ⟨w.heap.size, k, none⟩ _)⟩
          have := (World.ownsRow.stored HO2.out k (.bool (sqI l x))).1
          have hq : xs[k]'(by rw [HXL.out]; exact hlt) = .bool (sqI l x) := by rw [HXK.out]
          rw [List.set_set, ← hq, fillTo_set] at this
          rw [← hq]
          exact this
        case measure => simp [intOf]; omega
      · have HZ := Lib.hid (sqI_out hin)
        have hn : ¬ (0 ≤ x) ∨ (0 ≤ x ∧ ¬ (x < (l.length : Int))) := by omega
        clear hin
        rcases hn with hn | ⟨hn, hn2⟩
        all_goals
          go_wp2_with fail
          go_roundw
          case rel =>
            refine ⟨k + 1, by omega, by go_num, ?_, grown_trans HG.out (grown_setCell _ ⟨w.heap.size, k, none⟩ _)⟩
            have := (World.ownsRow.stored HO.out k (.bool false)).1
            have hq : xs[k]'(by rw [HXL.out]; exact hlt) = .bool false := by rw [HXK.out, HZ.out]
            rw [← hq, fillTo_set] at this
            rw [← hq]
            exact this
          case measure => simp [intOf]; omega
    · have hkl : k = at_.length := by omega
      have HK := Lib.hid hkl
      clear hown hgr hkl
      go_wp2
      go_ret
      refine ⟨_, rfl, ?_, HB.out⟩
      have := Slc.owned HO.out
      rwa [HK.out, ← HXL.out, fillTo_all, HXL.out] at this
end Go.Proofs.YtbfcdpabjailcaaGreatDoor

/- Package flat, walked: chosen, of boxes. -/
namespace Go.Proofs.YtbfcdpabjailcaaGreatDoor
set_option maxRecDepth 100000
open Go.RowKit
set_option linter.unusedVariables false

theorem arrs_of {w : World} {ok : Nat → Prop} {g : Nat} {l : List (List Int × VV)} {A B : Nat → Value} (hl : l.length ≤ 2000000)
    (ho : w.ownsRow g 31 2 (.slice (some ⟨g, 0, Option.none⟩) l.length l.length) l.length (pairL l.length A B)) (hok : ok g) (h : ∀ i p, l[i]? = some p → IsArr w ok (A i) (B i) p) :
    Arrs w ok (.slice (some ⟨g, 0, Option.none⟩) l.length l.length) l := by
  refine ⟨_, _, A, B, rfl, Nat.le_refl _, by unfold maxLen; omega, fun i hi => ⟨g, 0, rfl, hok, ?_, ?_⟩, fun i hi => (h i _ (List.getElem?_eq_getElem hi)).1, fun i hi => (h i _ (List.getElem?_eq_getElem hi)).2⟩
  · rw [Nat.zero_add, owns_cell2 ho (i * 2) (by rw [pairL_len]; omega), pairL_fst]
  · rw [Nat.zero_add, owns_cell2 ho (i * 2 + 1) (by rw [pairL_len]; omega), pairL_snd]
set_option maxHeartbeats 4000000 in
theorem chA_calls {ok ok2 : Nat → Prop} (u : Value) (V : VV) (v shf uf : Value) (F : List Int × VV) (at_ : List Int) (w : World) (hu : IsV w ok u V) (hok : V.ok) (hcl : V.boxs.length = V.len) (hF : IsArr w ok shf uf F) (hv : Slc w ok2 v at_.length (ints at_)) (hm : at_.length ≤ 2000000) :
    Calls Tryz.prog 89 #[.int .i64 (V.len : Int), .func (.func 72) #[.agg #[u]] #[], v, .agg #[shf, uf]] w fun e w' => ∃ v, e = .returned v ∧ Arrs w' (fun b => ok b ∨ w.heap.size ≤ b) v (at_.map (atI V.boxs F)) ∧ Below w.heap.size w w' := by
  obtain ⟨ao, cap, rfl, _, _, _, hc⟩ := hv.opened
  have HC := Lib.hid hc
  have HU := Lib.hid (hu.lt)
  have HOK := Lib.hid hok
  have HCL := Lib.hid hcl
  have HFF := Lib.hid (show IsArr w (fun b => ok b ∧ b < w.heap.size) shf uf F from hF.keep (Kept.refl _ _) (fun b h h2 => ⟨h2, h⟩))
  have hsf := hF.2.store
  obtain ⟨fo, fc, rfl, _⟩ := hF.1.opened
  clear hv hc hu hok hcl hF
  obtain ⟨w1, hw1⟩ : ∃ w1, w1 = w.alloc (.cells #[.slice fo F.1.length fc, uf] 31) := ⟨_, rfl⟩
  have HB1 := Lib.hid (show Below w.heap.size w w1 by rw [hw1]; exact below_new _ _)
  have HAT := Lib.hid (show At2 w1 w.heap.size (.slice fo F.1.length fc) uf by rw [hw1]; exact At2.new _ _ _ _)
  have HSE := Lib.hid (show w1.heap.size = w.heap.size + 1 by rw [hw1]; simp)
  replace HU := Lib.hid (show IsV w1 (fun b => ok b ∧ b < w.heap.size) u V from HU.out.grow HB1.out)
  replace HFF := Lib.hid (show IsArr w1 (fun b => ok b ∧ b < w.heap.size) (.slice fo F.1.length fc) uf F from HFF.out.keep (Kept.below HB1.out) (fun _ _ h => h))
  replace HC := Lib.hid (fun i h => by
    obtain ⟨b, off, e, h1, h2⟩ := HC.out i h
    exact (⟨b, off, e, keep_below HB1.out _ _ h2⟩ : ∃ b off, ao = some ⟨b, off, Option.none⟩ ∧ w1.cell? ⟨b, off + i, Option.none⟩ = some ((ints at_)[i]'h)))
  have hmk := run_mkA at_.length (by omega) w1
  rw [hw1] at hmk
  obtain ⟨L, hL⟩ : ∃ L, L = at_.map (atI V.boxs F) := ⟨_, rfl⟩
  have HLL := Lib.hid (show L.length = at_.length by rw [hL]; simp)
  have HLX := Lib.hid (show ∀ k (h : k < at_.length), ∃ x, x = at_[k] ∧ L[k]? = some (atI V.boxs F x) by intro k h; exact ⟨_, rfl, by rw [hL]; simp [h]⟩)
  rw [← hL]
  clear hL
  obtain ⟨W0, hW0⟩ : ∃ W0, W0 = w1.alloc (.cells (zerosA at_.length) 31) := ⟨_, rfl⟩
  have HO0 := Lib.hid (show W0.ownsRow (w.heap.size + 1) 31 2 (.slice (some ⟨(w.heap.size + 1), 0, Option.none⟩) at_.length at_.length) at_.length (pairL at_.length (fun _ => .slice Option.none 0 0) (upTo (fun _ => .nilIface) 0)) by rw [hW0, ← HSE.out]; exact own_mkA _ (by omega) _ _ (Nat.le_refl _) _)
  have HW := Lib.hid (show Below (w.heap.size + 1) w1 W0 by rw [hW0, ← HSE.out]; exact below_new _ _)
  have HBX := Lib.hid (show ∀ W, Below (w.heap.size + 1) w1 W → Below w1.heap.size w1 W from fun W h => by rw [HSE.out]; exact h)
  rw [hw1] at hW0
  go_enter Tryz.func89, Tryz.ntmps89
  go_wp2
  rw [← hW0]
  clear hw1
  clear hW0 hmk
  go_loopw [17] (fun i wr => ∃ (k : Nat) (A B : Nat → Value), k ≤ at_.length ∧ i = .int .i64 k ∧ wr.ownsRow (w.heap.size + 1) 31 2 (.slice (some ⟨(w.heap.size + 1), 0, Option.none⟩) at_.length at_.length) at_.length (pairL at_.length A B) ∧ (∀ i p, i < k → L[i]? = some p → IsArr wr (fun b => (ok b ∧ b < w.heap.size) ∨ (w.heap.size + 1) < b) (A i) (B i) p) ∧ W0.grownBy wr (some (w.heap.size + 1))) (fun i _ => at_.length - (intOf i).toNat)
  case atStart => exact ⟨0, _, _, by omega, rfl, HO0.out, fun i _ h => absurd h (by omega), grown_refl _ _⟩
  case round =>
    obtain ⟨k, A, B, hk, rfl, hown, hA, hgr⟩ := hrel
    have HO := Lib.hid hown
    have HG := Lib.hid hgr
    have HA := Lib.hid hA
    have HB := Lib.hid (show Below (w.heap.size + 1) w1 wr from HW.out.grown hgr (by have := HW.out.size; have := HSE.out; omega) (fun j hj => by cases hj; omega))
    have hgs := (hown.lt (w.heap.size + 1) rfl).2
    by_cases hlt : k < at_.length
    · obtain ⟨b, off, rfl, hcl0⟩ := HC.out k (by rw [ints_len]; exact hlt)
      have hcl := keep_below (HBX.out _ HB.out) _ _ hcl0
      have f0 := (HAT.out.below (HBX.out _ HB.out)).2.1
      have f1 := (HAT.out.below (HBX.out _ HB.out)).2.2.1
      rw [ints_get] at hcl
      obtain ⟨x, hx, hlx⟩ := HLX.out k hlt
      rw [← hx] at hcl
      have HLK := Lib.hid hlx
      have e1 := owns_cell2 HO.out (k * 2) (by rw [pairL_len]; omega)
      have e2 := owns_cell2 HO.out (k * 2 + 1) (by rw [pairL_len]; omega)
      have z1 := World.ownsRow.frozenAt HO.out (k * 2)
      have z2 := World.ownsRow.frozenAt HO.out (k * 2 + 1)
      have HS := Lib.hid (show ((wr.setCell ⟨(w.heap.size + 1), k * 2, Option.none⟩ (.slice fo F.1.length fc)).setCell ⟨(w.heap.size + 1), k * 2 + 1, Option.none⟩ uf).ownsRow (w.heap.size + 1) 31 2 (.slice (some ⟨(w.heap.size + 1), 0, Option.none⟩) at_.length at_.length) at_.length (pairL at_.length (upd A k (.slice fo F.1.length fc)) (upd B k uf)) by
        have q1 := (World.ownsRow.stored HO.out (k * 2) (.slice fo F.1.length fc)).1
        have q2 := (World.ownsRow.stored q1 (k * 2 + 1) uf).1
        rw [pairL_set1, pairL_set2] at q2
        exact q2)
      have HGS := Lib.hid (grown_trans (grown_trans HG.out (grown_setCell _ ⟨(w.heap.size + 1), k * 2, Option.none⟩ (.slice fo F.1.length fc))) (grown_setCell _ ⟨(w.heap.size + 1), k * 2 + 1, Option.none⟩ uf))
      have HBS := Lib.hid (show Below (w.heap.size + 1) w1 ((wr.setCell ⟨w.heap.size + 1, k * 2, Option.none⟩ (.slice fo F.1.length fc)).setCell ⟨w.heap.size + 1, k * 2 + 1, Option.none⟩ uf) from (HB.out.setCell (Nat.le_refl _) _).setCell (Nat.le_refl _) _)
      have HAS := Lib.hid (show ∀ i p, i < k → L[i]? = some p → IsArr ((wr.setCell ⟨(w.heap.size + 1), k * 2, Option.none⟩ (.slice fo F.1.length fc)).setCell ⟨(w.heap.size + 1), k * 2 + 1, Option.none⟩ uf) (fun b => (ok b ∧ b < w.heap.size) ∨ (w.heap.size + 1) < b) (A i) (B i) p from fun i p hi hp => (HA.out i p hi hp).keep ((Kept.setCell _ _ _ (by simp)).trans (Kept.setCell _ _ _ (by simp))) (fun _ _ h => h))
      clear hown hgr hcl0 hx hlx hA
      by_cases hin : 0 ≤ x ∧ x < (V.len : Int)
      · have hi1 := hin.1
        have hi2 := hin.2
        have HIN := Lib.hid hin
        clear hin
        go_wp2_with fail
        refine (vbox_calls _ V _ _ (HU.out.grow (HBX.out _ HBS.out)) HOK.out).mono ?_
        rintro e w2 ⟨sh', x', rfl, hAR, hB2⟩
        have hsx := hAR.2.store
        have HAR := Lib.hid hAR
        obtain ⟨so, sc, rfl, _⟩ := hAR.1.opened
        have HO2 := Lib.hid (owns_below2 HS.out hB2)
        have HG2 := Lib.hid (grown_trans HGS.out (grown_any (below_grown hB2) _))
        have HA2 := Lib.hid (show ∀ i p, i < k → L[i]? = some p → IsArr w2 (fun b => (ok b ∧ b < w.heap.size) ∨ (w.heap.size + 1) < b) (A i) (B i) p from fun i p hi hp => (HAS.out i p hi hp).keep (Kept.below hB2) (fun _ _ h => h))
        clear hB2 hAR e1 e2 z1 z2
        have e1 := owns_cell2 HO2.out (k * 2) (by rw [pairL_len]; omega)
        have e2 := owns_cell2 HO2.out (k * 2 + 1) (by rw [pairL_len]; omega)
        have z1 := World.ownsRow.frozenAt HO2.out (k * 2)
        have z2 := World.ownsRow.frozenAt HO2.out (k * 2 + 1)
        go_wp2
        go_roundw
        case rel =>
          refine ⟨k + 1, upd (upd A k (.slice fo F.1.length fc)) k (.slice so (atI V.boxs ([], .none) x).1.length sc), upd (upd B k uf) k x', by omega, by go_num, ?_, ?_, grown_trans (grown_trans HG2.out (grown_setCell _ ⟨(w.heap.size + 1), k * 2, Option.none⟩ _)) (grown_setCell _ ⟨(w.heap.size + 1), k * 2 + 1, Option.none⟩ _)⟩
          · have q1 := (World.ownsRow.stored HO2.out (k * 2) (.slice so (atI V.boxs ([], .none) x).1.length sc)).1
            have q2 := (World.ownsRow.stored q1 (k * 2 + 1) x').1
            rw [pairL_set1, pairL_set2] at q2
            exact q2
          · intro i p hi hp
            have kk : ∀ a y, Kept (fun b => (ok b ∧ b < w.heap.size) ∨ (w.heap.size + 1) < b) w2 ((w2.setCell ⟨(w.heap.size + 1), k * 2, Option.none⟩ a).setCell ⟨(w.heap.size + 1), k * 2 + 1, Option.none⟩ y) := fun a y => (Kept.setCell _ _ _ (by simp)).trans (Kept.setCell _ _ _ (by simp))
            by_cases e : i = k
            · subst e
              simp only [upd, if_true]
              rw [HLK.out] at hp
              obtain rfl := Option.some.inj hp
              rw [atI_in (d := F) (e := ([], VV.none)) (by rw [HCL.out]; exact HIN.out)]
              exact (HAR.out.keep (ok' := fun b => (ok b ∧ b < w.heap.size) ∨ w.heap.size + 1 < b) (Kept.refl _ _) (fun b _ h => by
                rcases h with h | h
                · exact Or.inl h.1
                · exact Or.inr (by simp at h; omega))).keep (kk _ _) (fun _ _ h => h)
            · simp only [upd, if_neg e]
              exact (HA2.out i p (by omega) hp).keep (kk _ _) (fun _ _ h => h)
        case measure => simp [intOf]; omega
      · have HZ := Lib.hid (atI_neg (d := F) (l := V.boxs) (by rw [HCL.out]; exact hin))
        have hn : ¬ (0 ≤ x) ∨ (0 ≤ x ∧ ¬ (x < (V.len : Int))) := by omega
        clear hin
        rcases hn with hn | ⟨hn, hn2⟩
        all_goals
          go_wp2_with fail
          go_roundw
          case rel =>
            refine ⟨k + 1, _, _, by omega, by go_num, HS.out, ?_, HGS.out⟩
            intro i p hi hp
            by_cases e : i = k
            · subst e
              simp only [upd, if_true]
              rw [HLK.out, HZ.out] at hp
              obtain rfl := Option.some.inj hp
              exact HFF.out.keep (Kept.below (HBX.out _ HBS.out)) (fun b _ h => .inl h)
            · simp only [upd, if_neg e]
              exact HAS.out i p (by omega) hp
          case measure => simp [intOf]; omega
    · have hkl : k = at_.length := by omega
      have HK := Lib.hid hkl
      clear hown hA hgr hkl
      go_wp2
      go_ret
      refine ⟨_, rfl, ?_, HB1.out.trans (HB.out.mono (Nat.le_succ _))⟩
      have := HO.out
      rw [← HLL.out] at this ⊢
      refine arrs_of (by rw [HLL.out]; exact hm) this (.inr (Nat.le_succ _)) (fun i p hp => (HA.out i p ?_ hp).keep (Kept.refl _ _) (fun b _ h => by rcases h with h | h; exact .inl h.1; exact .inr (by omega)))
      have := List.getElem?_eq_some_iff.1 hp
      obtain ⟨h, _⟩ := this
      rw [HK.out, ← HLL.out]; exact h
end Go.Proofs.YtbfcdpabjailcaaGreatDoor

/- Package flat, walked: Blank, clamp, selected, Pick. -/
namespace Go.Proofs.YtbfcdpabjailcaaGreatDoor
set_option maxRecDepth 100000
open Go.RowKit Fl
set_option linter.unusedVariables false

def blankA : List Int × VV := ([0], .bits [])

set_option maxHeartbeats 4000000 in
theorem fblank_calls (w : World) : Calls Tryz.prog 90 #[] w (ArrNew blankA w) := by
  obtain ⟨W1, hW1⟩ : ∃ W1, W1 = (w.alloc (.cells #[.slice none 0 0, .nilIface] 31)).alloc (.cells #[.int .i64 0] 3) := ⟨_, rfl⟩
  have HB := Lib.hid (show Below w.heap.size w W1 by rw [hW1]; exact (below_new _ _).alloc (by simp) _)
  have HR := Lib.hid (show At2 W1 w.heap.size (.slice none 0 0) .nilIface by rw [hW1]; exact (At2.new w _ _ _).below (below_new _ _))
  have HSZ := Lib.hid (show W1.heap.size = w.heap.size + 2 by rw [hW1]; simp)
  have HL := Lib.hid (show Slc W1 (fun b => b = w.heap.size + 1) (.slice (some ⟨w.heap.size + 1, 0, none⟩) 1 1) 1 (ints [0]) by
    have h := Slc.owned (World.ownsRow_lit (base := w.heap.size + 1) (e := 3) (size := 1) (w.alloc (.cells #[.slice none 0 0, .nilIface] 31)) #[.int .i64 0] 1 (by simp) (by unfold maxLen; omega) rfl)
    rw [hW1]
    simp only [World.size_alloc] at h
    refine Slc.keep (ok := fun b => w.heap.size + 1 ≤ b) (Kept.refl _ _) (fun b hb h => ?_) h
    simp at hb
    omega)
  have hfold := hW1.symm
  clear hW1
  go_enter Tryz.func90, Tryz.ntmps90
  go_wp2_with fail
  clear hfold
  refine (vnone_calls 0 _).mono ?_
  rintro e W2 ⟨u', rfl, hu, hB2⟩
  have hsu := hu.store
  have HU := Lib.hid (show IsV W2 (fun b => W1.heap.size ≤ b) u' (.bits []) from hu)
  have HL2 := Lib.hid (HL.out.below hB2)
  have HR2 := Lib.hid (HR.out.below hB2)
  have HB2 := Lib.hid (HB.out.trans (hB2.mono HB.out.size))
  have c0 := HR2.out.2.1
  have c1 := HR2.out.2.2.1
  have z0 := HR2.out.2.2.2 0
  have z1 := HR2.out.2.2.2 1
  have HSW := Lib.hid HR.out.1
  clear hB2 hu
  go_wp2_with fail
  refine bodyPost_ret (v := .agg #[.slice (some ⟨w.heap.size + 1, 0, none⟩) 1 1, u']) (by simp [results, Tryz.results90, go_sem, c0, c1]) rfl ⟨_, 1, u', rfl, ⟨?_, ?_⟩, (HB2.out.setCell (Nat.le_refl _) _).setCell (Nat.le_refl _) _⟩
  · exact HL2.out.keep ((Kept.setCell _ _ _ (by simp)).trans (Kept.setCell _ _ _ (by simp))) (fun b _ (h : b = w.heap.size + 1) => by omega)
  · exact HU.out.keep ((Kept.setCell _ _ _ (by have := HSW.out; simp <;> omega)).trans (Kept.setCell _ _ _ (by have := HSW.out; simp <;> omega))) (fun b _ (h : W1.heap.size ≤ b) => by have := HSZ.out; omega)

theorem fnumbers_calls {ok : Nat → Prop} (v : Value) (l : List Nat) (w : World) (hv : Slc w ok v l.length (f64s l)) (hm : l.length ≤ 1048576) (hf : ∀ x ∈ l, Fnt x) (hT : TabAt w) :
    Calls Tryz.prog 91 #[v] w fun e w' => ∃ u, e = .returned (.agg #[u]) ∧ IsV w' (fun b => w.heap.size ≤ b) u (VV.floats (l.map ze)).sq ∧ Below w.heap.size w w' := by
  have HV := Lib.hid hv
  have HF := Lib.hid hf
  have HT := Lib.hid hT
  obtain ⟨ao, cap, rfl, _⟩ := hv.opened
  clear hv hf hT
  obtain ⟨W1, hW1⟩ : ∃ W1, W1 = w.alloc (.cells #[.nilIface] 29) := ⟨_, rfl⟩
  have HB := Lib.hid (show Below w.heap.size w W1 by rw [hW1]; exact below_new _ _)
  have HR := Lib.hid (show At1 W1 w.heap.size .nilIface by rw [hW1]; exact At1.new w _ _)
  have hfold := hW1.symm
  clear hW1
  go_enter Tryz.func91, Tryz.ntmps91
  go_wp2_with fail
  clear hfold
  refine (numbers_yes _ l _ (HV.out.below HB.out) hm HF.out (fun j hj => keep_below HB.out _ _ (HT.out j hj))).mono ?_
  rintro e W2 ⟨u', rfl, hu, hB2⟩
  have hsu := hu.store
  have HU := Lib.hid (show IsV W2 (fun b => W1.heap.size ≤ b) u' _ from hu)
  obtain ⟨W3, hW3⟩ : ∃ W3, W3 = W2.alloc (.cells #[u'] 29) := ⟨_, rfl⟩
  have HN := Lib.hid (show Below W2.heap.size W2 W3 by rw [hW3]; exact below_new _ _)
  have HU3 := Lib.hid (HU.out.grow HN.out)
  have HV := Lib.hid (show At1 W3 W2.heap.size u' by rw [hW3]; exact At1.new _ _ _)
  have HB3 := Lib.hid ((HB.out.trans (hB2.mono HB.out.size)).trans (HN.out.mono (Nat.le_trans HB.out.size hB2.size)))
  obtain ⟨_, r0, rf⟩ := (HR.out.below hB2).below HN.out
  have rf0 := rf 0
  have HSZ := Lib.hid HR.out.1
  obtain ⟨_, v0, _⟩ := HV.out
  have HFW := Lib.hid hW3.symm
  clear hu hB2 hW3 rf
  have hfold := HFW.out
  go_wp2_with fail
  refine bodyPost_ret (v := .agg #[u']) (by simp [results, Tryz.results91, go_sem, r0]) rfl ⟨_, rfl, ?_, HB3.out.setCell (Nat.le_refl _) _⟩
  exact HU3.out.keep (Kept.setCell _ _ _ (by have := HSZ.out; simp <;> omega)) (fun b _ (h : W1.heap.size ≤ b) => by have := HSZ.out; have := HB.out.size; omega)
theorem fclamp_calls (n most : Int) (w : World) :
    Calls Tryz.prog 58 #[.int .i64 n, .int .i64 most] w fun e w' => e = .returned (.int .i64 (min (max n 0) most)) ∧ w = w' := by
  by_cases h : n < 0
  · by_cases h2 : most < 0
    · go_enter Tryz.func58, Tryz.ntmps58
      go_wp2
      all_goals (go_ret; exact ⟨ret_i (by first | rfl | omega), rfl⟩)
    · go_enter Tryz.func58, Tryz.ntmps58
      go_wp2
      all_goals (go_ret; exact ⟨ret_i (by first | rfl | omega), rfl⟩)
  · by_cases h2 : most < n
    · go_enter Tryz.func58, Tryz.ntmps58
      go_wp2
      all_goals (go_ret; exact ⟨ret_i (by first | rfl | omega), rfl⟩)
    · go_enter Tryz.func58, Tryz.ntmps58
      go_wp2
      all_goals (go_ret; exact ⟨ret_i (by first | rfl | omega), rfl⟩)

/-- Elements at some places. -/
noncomputable def VV.sel (V : VV) (at_ : List Int) : VV :=
  match V with
  | .bits l => .bits (at_.map (sqI l)) | .chars l => .chars (at_.map (atI l 32)) | .boxes l => .boxes (at_.map (atI l blankA))
  | V => (VV.floats (at_.map (atI V.nums 0))).sq
theorem VV.sel_bits {V : VV} (h : V.isBit = true) (at_ : List Int) : V.sel at_ = .bits (at_.map (sqI V.packed)) := by cases V <;> simp_all [VV.isBit, VV.sel, VV.packed]
theorem VV.sel_chars {V : VV} (h : V.cls = 1) (at_ : List Int) : V.sel at_ = .chars (at_.map (atI V.text 32)) := by cases V <;> simp_all [VV.cls, VV.sel, VV.text]
theorem VV.sel_boxes {V : VV} (h : V.cls = 2) (at_ : List Int) : V.sel at_ = .boxes (at_.map (atI V.boxs blankA)) := by cases V <;> simp_all [VV.cls, VV.sel, VV.boxs]
theorem VV.sel_nums {V : VV} (h : V.cls = 0) (h2 : V.isBit = false) (at_ : List Int) : V.sel at_ = (VV.floats (at_.map (atI V.nums 0))).sq := by cases V <;> simp_all [VV.cls, VV.sel, VV.isBit]
theorem VV.text_len {V : VV} (h : V.cls = 1) : V.text.length = V.len := by cases V <;> simp_all [VV.cls, VV.text, VV.len]
theorem atI_num {l : List Nat} {i : Int} (h : ∀ x ∈ l, Num x) : Num (atI l 0 i) := by
  by_cases hin : 0 ≤ i ∧ i < (l.length : Int)
  · obtain ⟨k, rfl⟩ := Int.eq_ofNat_of_zero_le hin.1
    have hk : k < l.length := by omega
    rw [show atI l 0 (k : Int) = l[k] from atI_nat hk]
    exact h _ (List.getElem_mem hk)
  · rw [atI_neg hin]; exact ⟨fin_zero, fun _ => rfl⟩
theorem map_atI_num {l : List Nat} {at_ : List Int} (h : ∀ x ∈ l, Num x) : ∀ x ∈ at_.map (atI l 0), Num x := by
  intro x hx
  obtain ⟨i, _, rfl⟩ := List.mem_map.1 hx
  exact atI_num h
theorem VV.packed_ok {V : VV} (h : V.ok) : V.packed.length ≤ 1048576 := by
  cases V <;> simp_all [VV.ok, VV.packed]
end Go.Proofs.YtbfcdpabjailcaaGreatDoor

/- Package flat, walked: selected, Pick. -/
namespace Go.Proofs.YtbfcdpabjailcaaGreatDoor
set_option maxRecDepth 100000
open Go.RowKit Fl
set_option linter.unusedVariables false

theorem VV.cls_cases (V : VV) : V.cls = 0 ∨ V.cls = 1 ∨ V.cls = 2 := by cases V <;> simp [VV.cls]
theorem atI_boxs {l : List (List Int × VV)} {at_ : List Int} (h : ∀ a ∈ l, a.1.length ≤ 1048576) : ∀ p ∈ at_.map (atI l blankA), p.1.length ≤ 1048576 := by
  intro p hp
  obtain ⟨i, _, rfl⟩ := List.mem_map.1 hp
  by_cases hin : 0 ≤ i ∧ i < (l.length : Int)
  · obtain ⟨k, rfl⟩ := Int.eq_ofNat_of_zero_le hin.1
    have hk : k < l.length := by omega
    rw [show atI l blankA (k : Int) = l[k] from atI_nat hk]
    exact h _ (List.getElem_mem hk)
  · rw [atI_neg hin]; simp [blankA]
set_option maxHeartbeats 4000000 in
theorem selected_calls {ok ok2 : Nat → Prop} (u : Value) (V : VV) (v : Value) (at_ : List Int) (w : World) (hu : IsV w ok u V) (hok : V.ok) (hn : V.nm) (hb : ∀ a ∈ V.boxs, a.1.length ≤ 1048576) (hv : Slc w ok2 v at_.length (ints at_)) (hm : at_.length ≤ 1048576) (hT : TabAt w) :
    Calls Tryz.prog 56 #[.agg #[u], v] w fun e w' => ∃ u', e = .returned (.agg #[u']) ∧ IsV w' (fun b => (ok b ∧ b < w.heap.size) ∨ w.heap.size ≤ b) u' (V.sel at_) ∧ Below w.heap.size w w' := by
  obtain ⟨ao, cap, rfl, _⟩ := hv.opened
  have hsu := hu.store
  obtain ⟨W1, hW1⟩ : ∃ W1, W1 = (w.alloc (.cells #[u] 29)).alloc (.cells #[.nilIface] 29) := ⟨_, rfl⟩
  have HB := Lib.hid (show Below w.heap.size w W1 by rw [hW1]; exact (below_new _ _).alloc (by simp) _)
  have HSZ := Lib.hid (show W1.heap.size = w.heap.size + 2 by rw [hW1]; simp)
  have HA := Lib.hid (show At1 W1 w.heap.size u by rw [hW1]; exact (At1.new w _ _).below (below_new _ _))
  have HR := Lib.hid (show At1 W1 (w.heap.size + 1) .nilIface by rw [hW1]; have := At1.new (w.alloc (.cells #[u] 29)) .nilIface 29; simpa using this)
  have HU := Lib.hid (show IsV W1 (fun b => ok b ∧ b < w.heap.size) u V from hu.lt.grow HB.out)
  have HV := Lib.hid (show Slc W1 (fun b => b < w.heap.size) (.slice ao at_.length cap) at_.length (ints at_) from (hv.keep (Kept.refl _ _) (fun b h _ => h)).below HB.out)
  have HT := Lib.hid (show TabAt W1 from fun j hj => keep_below HB.out _ _ (hT j hj))
  have HOK := Lib.hid hok
  have HN := Lib.hid hn
  have HBX := Lib.hid hb
  have HW1 := Lib.hid (Below.refl W1.heap.size W1)
  have hfold := hW1.symm
  clear hu hv hT hok hn hb hW1
  have cHA0 := HA.out.2.1
  have cHR0 := HR.out.2.1
  go_enter Tryz.func56, Tryz.ntmps56
  go_wp2_with fail
  clear hfold
  refine (vpacked_calls _ V _ HU.out).mono ?_
  rintro e W11 ⟨vb, rfl, hbt, hB⟩
  clear cHA0 cHR0
  replace HA := Lib.hid (HA.out.below hB)
  replace HR := Lib.hid (HR.out.below hB)
  replace HB := Lib.hid (HB.out.trans (hB.mono HB.out.size))
  replace HW1 := Lib.hid (HW1.out.trans (hB.mono HW1.out.size))
  replace HU := Lib.hid (HU.out.grow hB)
  replace HV := Lib.hid (HV.out.below hB)
  replace HT := Lib.hid (fun j hj => keep_below hB _ _ (HT.out j hj))
  have HBT := Lib.hid hbt
  obtain ⟨so, sc, rfl, _⟩ := hbt.opened
  clear hbt
  clear hB
  have HNE := Lib.hid HW1.out.size
  have hmf : ∀ (fn : Fn) (first cap : Array Value) (w : World), (Instr.makeFunc fn first cap).run Tryz.prog w = .ok (.func fn first cap) w := fun _ _ _ _ => rfl
  by_cases hbit : V.isBit = true
  · have HBI := Lib.hid hbit
    rw [hbit]
    clear hbit
    obtain ⟨W12, hWn⟩ : ∃ xw9, W11.alloc (.cells #[.int .i64 (V.packed.length : Int), .slice so ((V.packed.length + 63) / 64) sc] 78) = xw9 := ⟨_, rfl⟩
    have hB : Below W11.heap.size W11 W12 := by rw [← hWn]; exact below_new _ _
    have hNB : At2 W12 W11.heap.size (.int .i64 (V.packed.length : Int)) (.slice so ((V.packed.length + 63) / 64) sc) := by rw [← hWn]; exact At2.new _ _ _ _
    replace HA := Lib.hid (HA.out.below hB)
    replace HR := Lib.hid (HR.out.below hB)
    replace HB := Lib.hid (HB.out.trans (hB.mono HB.out.size))
    replace HW1 := Lib.hid (HW1.out.trans (hB.mono HW1.out.size))
    replace HU := Lib.hid (HU.out.grow hB)
    replace HV := Lib.hid (HV.out.below hB)
    replace HT := Lib.hid (fun j hj => keep_below hB _ _ (HT.out j hj))
    replace HBT := Lib.hid (HBT.out.keep (keep_below hB))
    have HVB := Lib.hid hNB
    clear hNB hB
    have cHA0 := HA.out.2.1
    have cHR0 := HR.out.2.1
    have cHVB0 := HVB.out.2.1
    have cHVB1 := HVB.out.2.2.1
    go_wp2_with fail
    clear hWn
    obtain ⟨L, hL⟩ : ∃ L, L = at_.map (sqI V.packed) := ⟨_, rfl⟩
    have HLE := Lib.hid hL
    have HLL := Lib.hid (show L.length = at_.length by rw [hL]; simp)
    obtain ⟨QV, hQV⟩ : ∃ QV, QV = VV.bits L := ⟨_, rfl⟩
    have HQV := Lib.hid hQV
    clear hQV hL
    obtain ⟨W13, hWD⟩ : ∃ xw9, W12.drew = xw9 := ⟨_, rfl⟩
    have hB : Below W12.heap.size W12 W13 := by rw [← hWD]; exact Below.drewN' (Below.refl _ _) 1
    clear cHA0 cHR0 cHVB0 cHVB1
    replace HA := Lib.hid (HA.out.below hB)
    replace HR := Lib.hid (HR.out.below hB)
    replace HB := Lib.hid (HB.out.trans (hB.mono HB.out.size))
    replace HW1 := Lib.hid (HW1.out.trans (hB.mono HW1.out.size))
    replace HU := Lib.hid (HU.out.grow hB)
    replace HV := Lib.hid (HV.out.below hB)
    replace HT := Lib.hid (fun j hj => keep_below hB _ _ (HT.out j hj))
    replace HBT := Lib.hid (HBT.out.keep (keep_below hB))
    replace HVB := Lib.hid (HVB.out.below hB)
    clear hB
    refine wp_region_held_drew (S := fun w' => w'.cell? ⟨W11.heap.size, 0, none⟩ = some (.int .i64 (V.packed.length : Int)) ∧ w'.cell? ⟨W11.heap.size, 1, none⟩ = some (.slice so ((V.packed.length + 63) / 64) sc)) (by kernel_rfl) (by rw [hWD]; exact ⟨HVB.out.2.1, HVB.out.2.2.1⟩) (fun hHeld => ?_)
    rw [hWD] at hHeld ⊢
    clear hWD
    refine wpAnyH_take (i := 0) (v := ?_) rfl (by kernel_rfl) (by kernel_rfl) (by kernel_rfl) (fun _ _ _ h => h) (Or.inl ⟨by rfl, ?_⟩) (by assumption) ?_
    rotate_left
    · (intro w hSw; (try dsimp only at hSw); go_simp; try with_reducible rfl)
    simp only [Act.put, List.getElem_toArray, List.getElem_cons_zero, List.setIfInBounds_toArray, List.set_cons_zero, List.set_cons_succ]
    refine wpAnyH_take (i := 2) (v := ?_) rfl (by kernel_rfl) (by kernel_rfl) (by kernel_rfl) (fun _ _ _ h => h) (Or.inl ⟨by rfl, ?_⟩) (by assumption) ?_
    rotate_left
    · (intro w hSw; (try dsimp only at hSw); go_simp; try with_reducible rfl)
    simp only [Act.put, List.getElem_toArray, List.getElem_cons_succ, List.getElem_cons_zero, List.setIfInBounds_toArray, List.set_cons_zero, List.set_cons_succ]
    refine wpAnyH_take (i := 3) (v := ?_) rfl (by kernel_rfl) (by kernel_rfl) (by kernel_rfl) (fun _ _ _ h => h) (Or.inl ⟨by rfl, ?_⟩) (by assumption) ?_
    rotate_left
    · (intro w hSw; (try dsimp only at hSw); go_simp; try with_reducible rfl)
    simp only [Act.put, List.getElem_toArray, List.getElem_cons_succ, List.getElem_cons_zero, List.setIfInBounds_toArray, List.set_cons_zero, List.set_cons_succ]
    refine wpAnyH_take (i := 4) (v := ?_) rfl (by kernel_rfl) (by kernel_rfl) (by kernel_rfl) (fun _ _ _ h => h) (Or.inl ⟨by rfl, ?_⟩) (by assumption) ?_
    rotate_left
    · (intro w hSw; (try dsimp only at hSw); go_simp; try with_reducible rfl)
    simp only [Act.put, List.getElem_toArray, List.getElem_cons_succ, List.getElem_cons_zero, List.setIfInBounds_toArray, List.set_cons_zero, List.set_cons_succ]
    refine wpAnyH_ready (rs := [1]) (by kernel_rfl) (by simp) ?_
    refine AllReadyH.cons (o := _) rfl (fun K hK => ?_) ?_
    · clear hHeld
      go_simp
      refine (len_calls _ V.packed _ HBT.out).mono ?_
      rintro e W14 ⟨rfl, hB⟩
      replace HA := Lib.hid (HA.out.below hB)
      replace HR := Lib.hid (HR.out.below hB)
      replace HB := Lib.hid (HB.out.trans (hB.mono HB.out.size))
      replace HW1 := Lib.hid (HW1.out.trans (hB.mono HW1.out.size))
      replace HU := Lib.hid (HU.out.grow hB)
      replace HV := Lib.hid (HV.out.below hB)
      replace HT := Lib.hid (fun j hj => keep_below hB _ _ (HT.out j hj))
      replace HBT := Lib.hid (HBT.out.keep (keep_below hB))
      replace HVB := Lib.hid (HVB.out.below hB)
      clear hB
      refine hK.out _ _ ?_ (fun hHeld => ?_)
      · exact ⟨HVB.out.2.1, HVB.out.2.2.1⟩
      clear hK K
      refine wpAnyH_ready (rs := [5]) (by kernel_rfl) (by simp) ?_
      refine AllReadyH.cons (o := _) rfl (fun K hK => ?_) ?_
      · clear hHeld
        go_simp
        have HO := HW1.out.size
        refine (chB_calls _ V.packed _ at_ _ HBT.out HV.out (by omega) (VV.packed_ok HOK.out)).mono ?_
        rintro e W15 ⟨vc, rfl, hvc, hB⟩
        replace HA := Lib.hid (HA.out.below hB)
        replace HR := Lib.hid (HR.out.below hB)
        replace HB := Lib.hid (HB.out.trans (hB.mono HB.out.size))
        replace HW1 := Lib.hid (HW1.out.trans (hB.mono HW1.out.size))
        replace HU := Lib.hid (HU.out.grow hB)
        replace HV := Lib.hid (HV.out.below hB)
        replace HT := Lib.hid (fun j hj => keep_below hB _ _ (HT.out j hj))
        replace HBT := Lib.hid (HBT.out.keep (keep_below hB))
        replace HVB := Lib.hid (HVB.out.below hB)
        rw [← HLE.out] at hvc
        have HVC := Lib.hid (show Slc W15 (fun b => w.heap.size + 2 ≤ b) vc L.length (bools L) by rw [HLL.out]; exact hvc.keep (Kept.refl _ _) (fun b _ (h : _ ≤ b) => Nat.le_trans (by have := HSZ.out; omega) h))
        obtain ⟨co, cc, rfl, _⟩ := HVC.out.opened
        clear hvc HO
        clear hB
        refine hK.out _ _ ?_ (fun hHeld => ?_)
        · exact ⟨HVB.out.2.1, HVB.out.2.2.1⟩
        clear hK K
        refine wpAnyH_ready (rs := [6]) (by kernel_rfl) (by simp) ?_
        refine AllReadyH.cons (o := _) rfl (fun K hK => ?_) ?_
        · clear hHeld
          go_simp
          have HO := HW1.out.size
          refine (pack_fresh _ L _ HVC.out.1.sl (by rw [HLL.out]; exact hm)).mono ?_
          rintro e W16 ⟨vp, rfl, hvp, hB⟩
          replace HA := Lib.hid (HA.out.below hB)
          replace HR := Lib.hid (HR.out.below hB)
          replace HB := Lib.hid (HB.out.trans (hB.mono HB.out.size))
          replace HW1 := Lib.hid (HW1.out.trans (hB.mono HW1.out.size))
          replace HU := Lib.hid (HU.out.grow hB)
          replace HV := Lib.hid (HV.out.below hB)
          replace HT := Lib.hid (fun j hj => keep_below hB _ _ (HT.out j hj))
          replace HBT := Lib.hid (HBT.out.keep (keep_below hB))
          replace HVB := Lib.hid (HVB.out.below hB)
          replace HVC := Lib.hid (HVC.out.below hB)
          have HVP := Lib.hid (show IsBitsX W16 (fun b => w.heap.size + 2 ≤ b) vp L from hvp.keep (Kept.refl _ _) (fun b _ (h : _ ≤ b) => Nat.le_trans (by have := HSZ.out; omega) h))
          clear hvp HO
          clear hB
          refine hK.out _ _ ?_ (fun hHeld => ?_)
          · exact ⟨HVB.out.2.1, HVB.out.2.2.1⟩
          clear hK K
          refine wpAnyH_ready (rs := [7]) (by kernel_rfl) (by simp) ?_
          refine AllReadyH.cons (o := _) rfl (fun K hK => ?_) ?_
          · clear hHeld
            go_simp
            refine (vbits_ok _ L _ HVP.out (by rw [HLL.out]; exact hm)).mono ?_
            rintro e W17 ⟨uq, rfl, huq, hB⟩
            replace HA := Lib.hid (HA.out.below hB)
            replace HR := Lib.hid (HR.out.below hB)
            replace HB := Lib.hid (HB.out.trans (hB.mono HB.out.size))
            replace HW1 := Lib.hid (HW1.out.trans (hB.mono HW1.out.size))
            replace HU := Lib.hid (HU.out.grow hB)
            replace HV := Lib.hid (HV.out.below hB)
            replace HT := Lib.hid (fun j hj => keep_below hB _ _ (HT.out j hj))
            replace HBT := Lib.hid (HBT.out.keep (keep_below hB))
            replace HVB := Lib.hid (HVB.out.below hB)
            replace HVC := Lib.hid (HVC.out.below hB)
            replace HVP := Lib.hid (HVP.out.keep (Kept.below hB) (fun _ _ h => h))
            have HQ := Lib.hid (show IsV W17 (fun b => (ok b ∧ b < w.heap.size) ∨ w.heap.size + 2 ≤ b) uq QV by rw [HQV.out]; exact huq.wide (fun b _ h => Or.inr h))
            have hsq := huq.store
            clear huq
            clear hB
            refine hK.out _ _ ?_ (fun hHeld => ?_)
            · exact ⟨HVB.out.2.1, HVB.out.2.2.1⟩
            clear hK K
            refine wpAnyH_ready (rs := [8]) (by kernel_rfl) (by simp) ?_
            refine AllReadyH.cons (o := _) rfl (fun K hK => ?_) ?_
            · clear hHeld
              have s0 := HR.out.2.1
              have t0 := HR.out.2.2 0
              go_simp
              clear s0 t0
              obtain ⟨W18, hWn⟩ : ∃ xw9, W17.setCell ⟨w.heap.size + 1, 0, none⟩ uq = xw9 := ⟨_, rfl⟩
              rw [hWn]
              replace HR := Lib.hid (show At1 W18 (w.heap.size + 1) uq by rw [← hWn]; exact At1.put1 HR.out _)
              replace HB := Lib.hid (show Below w.heap.size w W18 by rw [← hWn]; exact HB.out.setCell (Nat.le_succ _) _)
              replace HQ := Lib.hid (show IsV W18 (fun b => (ok b ∧ b < w.heap.size) ∨ w.heap.size + 2 ≤ b) uq QV by rw [← hWn]; exact HQ.out.keep (Kept.setCell _ _ _ (by simp)) (fun _ _ h => h))
              replace HVB := Lib.hid (show At2 W18 W11.heap.size _ _ by rw [← hWn]; exact HVB.out.grown (grown_setCell _ ⟨w.heap.size + 1, 0, none⟩ _) (by have := HNE.out; have := HSZ.out; simp; omega))
              clear hWn
              refine hK.out _ _ ?_ (fun hHeld => ?_)
              · exact ⟨HVB.out.2.1, HVB.out.2.2.1⟩
              clear hK K
              refine wpAnyH_done (by kernel_rfl) ?_ _
              clear hHeld
              have cHR0 := HR.out.2.1
              have cHVB0 := HVB.out.2.1
              have cHVB1 := HVB.out.2.2.1
              go_wp2_with fail
              refine bodyPost_ret (v := .agg #[uq]) (by simp [results, Tryz.results56, go_sem, cHR0]) rfl ⟨_, rfl, ?_, HB.out⟩
              rw [VV.sel_bits HBI.out, ← HLE.out, ← HQV.out]
              exact HQ.out.wide (fun b _ (h : (ok b ∧ b < w.heap.size) ∨ w.heap.size + 2 ≤ b) => h.imp id (fun h => by omega))
            exact AllReadyH.nil
          exact AllReadyH.nil
        exact AllReadyH.nil
      exact AllReadyH.nil
    exact AllReadyH.nil
  have hbit2 : V.isBit = false := by simpa using hbit
  have HBI := Lib.hid hbit2
  rw [hbit2]
  clear hbit hbit2
  obtain ⟨W12, hWn⟩ : ∃ xw9, W11.alloc (.cells #[.int .i64 (V.packed.length : Int), .slice so ((V.packed.length + 63) / 64) sc] 78) = xw9 := ⟨_, rfl⟩
  have hB : Below W11.heap.size W11 W12 := by rw [← hWn]; exact below_new _ _
  have hNB : At2 W12 W11.heap.size (.int .i64 (V.packed.length : Int)) (.slice so ((V.packed.length + 63) / 64) sc) := by rw [← hWn]; exact At2.new _ _ _ _
  replace HA := Lib.hid (HA.out.below hB)
  replace HR := Lib.hid (HR.out.below hB)
  replace HB := Lib.hid (HB.out.trans (hB.mono HB.out.size))
  replace HW1 := Lib.hid (HW1.out.trans (hB.mono HW1.out.size))
  replace HU := Lib.hid (HU.out.grow hB)
  replace HV := Lib.hid (HV.out.below hB)
  replace HT := Lib.hid (fun j hj => keep_below hB _ _ (HT.out j hj))
  replace HBT := Lib.hid (HBT.out.keep (keep_below hB))
  have HVB := Lib.hid hNB
  clear hNB hB
  have cHA0 := HA.out.2.1
  have cHR0 := HR.out.2.1
  have cHVB0 := HVB.out.2.1
  have cHVB1 := HVB.out.2.2.1
  go_wp2_with fail
  clear hWn
  refine (class_calls _ V _ HU.out).mono ?_
  rintro e W13 ⟨rfl, hB⟩
  clear cHA0 cHR0 cHVB0 cHVB1
  replace HA := Lib.hid (HA.out.below hB)
  replace HR := Lib.hid (HR.out.below hB)
  replace HB := Lib.hid (HB.out.trans (hB.mono HB.out.size))
  replace HW1 := Lib.hid (HW1.out.trans (hB.mono HW1.out.size))
  replace HU := Lib.hid (HU.out.grow hB)
  replace HV := Lib.hid (HV.out.below hB)
  replace HT := Lib.hid (fun j hj => keep_below hB _ _ (HT.out j hj))
  replace HBT := Lib.hid (HBT.out.keep (keep_below hB))
  replace HVB := Lib.hid (HVB.out.below hB)
  clear hB
  rcases VV.cls_cases V with hc | hc | hc
  · have HC := Lib.hid hc
    rw [hc]
    clear hc
    have cHA0 := HA.out.2.1
    have cHR0 := HR.out.2.1
    have cHVB0 := HVB.out.2.1
    have cHVB1 := HVB.out.2.2.1
    go_wp2_with fail
    obtain ⟨L, hL⟩ : ∃ L, L = at_.map (atI V.nums 0) := ⟨_, rfl⟩
    have HLE := Lib.hid hL
    have HLL := Lib.hid (show L.length = at_.length by rw [hL]; simp)
    obtain ⟨QV, hQV⟩ : ∃ QV, QV = (VV.floats L).sq := ⟨_, rfl⟩
    have HQV := Lib.hid hQV
    clear hQV hL
    have HNN := Lib.hid (show ∀ x ∈ L, Num x by rw [HLE.out]; exact map_atI_num (VV.nums_num HOK.out HN.out))
    obtain ⟨W14, hWD⟩ : ∃ xw9, W13.drew = xw9 := ⟨_, rfl⟩
    have hB : Below W13.heap.size W13 W14 := by rw [← hWD]; exact Below.drewN' (Below.refl _ _) 1
    clear cHA0 cHR0 cHVB0 cHVB1
    replace HA := Lib.hid (HA.out.below hB)
    replace HR := Lib.hid (HR.out.below hB)
    replace HB := Lib.hid (HB.out.trans (hB.mono HB.out.size))
    replace HW1 := Lib.hid (HW1.out.trans (hB.mono HW1.out.size))
    replace HU := Lib.hid (HU.out.grow hB)
    replace HV := Lib.hid (HV.out.below hB)
    replace HT := Lib.hid (fun j hj => keep_below hB _ _ (HT.out j hj))
    replace HBT := Lib.hid (HBT.out.keep (keep_below hB))
    replace HVB := Lib.hid (HVB.out.below hB)
    clear hB
    refine wp_region_held_drew (S := fun w' => w'.cell? ⟨w.heap.size, 0, none⟩ = some u) (by kernel_rfl) (by rw [hWD]; exact HA.out.2.1) (fun hHeld => ?_)
    rw [hWD] at hHeld ⊢
    clear hWD
    refine wpAnyH_take (i := 0) (v := ?_) rfl (by kernel_rfl) (by kernel_rfl) (by kernel_rfl) (fun _ _ _ h => h) (Or.inl ⟨by rfl, ?_⟩) (by assumption) ?_
    rotate_left
    · (intro w hSw; (try dsimp only at hSw); go_simp; try with_reducible rfl)
    simp only [Act.put, List.getElem_toArray, List.getElem_cons_zero, List.setIfInBounds_toArray, List.set_cons_zero, List.set_cons_succ]
    refine wpAnyH_take (i := 2) (v := ?_) rfl (by kernel_rfl) (by kernel_rfl) (by kernel_rfl) (fun _ _ _ h => h) (Or.inl ⟨by rfl, ?_⟩) (by assumption) ?_
    rotate_left
    · (intro w hSw; (try dsimp only at hSw); go_simp; try with_reducible rfl)
    simp only [Act.put, List.getElem_toArray, List.getElem_cons_succ, List.getElem_cons_zero, List.setIfInBounds_toArray, List.set_cons_zero, List.set_cons_succ]
    refine wpAnyH_take (i := 3) (v := ?_) rfl (by kernel_rfl) (by kernel_rfl) (by kernel_rfl) (fun _ _ _ h => h) (Or.inl ⟨by rfl, ?_⟩) (by assumption) ?_
    rotate_left
    · (intro w hSw; (try dsimp only at hSw); go_simp; try with_reducible rfl)
    simp only [Act.put, List.getElem_toArray, List.getElem_cons_succ, List.getElem_cons_zero, List.setIfInBounds_toArray, List.set_cons_zero, List.set_cons_succ]
    refine wpAnyH_take (i := 4) (v := ?_) rfl (by kernel_rfl) (by kernel_rfl) (by kernel_rfl) (fun _ _ _ h => h) (Or.inl ⟨by rfl, ?_⟩) (by assumption) ?_
    rotate_left
    · (intro w hSw; (try dsimp only at hSw); go_simp; try with_reducible rfl)
    simp only [Act.put, List.getElem_toArray, List.getElem_cons_succ, List.getElem_cons_zero, List.setIfInBounds_toArray, List.set_cons_zero, List.set_cons_succ]
    refine wpAnyH_ready (rs := [1]) (by kernel_rfl) (by simp) ?_
    refine AllReadyH.cons (o := _) rfl (fun K hK => ?_) ?_
    · clear hHeld
      go_simp
      refine (vlen_calls _ V _ HU.out).mono ?_
      rintro e W15 ⟨rfl, hB⟩
      replace HA := Lib.hid (HA.out.below hB)
      replace HR := Lib.hid (HR.out.below hB)
      replace HB := Lib.hid (HB.out.trans (hB.mono HB.out.size))
      replace HW1 := Lib.hid (HW1.out.trans (hB.mono HW1.out.size))
      replace HU := Lib.hid (HU.out.grow hB)
      replace HV := Lib.hid (HV.out.below hB)
      replace HT := Lib.hid (fun j hj => keep_below hB _ _ (HT.out j hj))
      replace HBT := Lib.hid (HBT.out.keep (keep_below hB))
      replace HVB := Lib.hid (HVB.out.below hB)
      clear hB
      refine hK.out _ _ ?_ (fun hHeld => ?_)
      · exact HA.out.2.1
      clear hK K
      refine wpAnyH_ready (rs := [5]) (by kernel_rfl) (by simp) ?_
      refine AllReadyH.cons (o := _) rfl (fun K hK => ?_) ?_
      · clear hHeld
        go_simp
        have HO := HW1.out.size
        refine (chF_calls _ V _ at_ _ HU.out HV.out (by omega)).mono ?_
        rintro e W16 ⟨vc, rfl, hvc, hB⟩
        replace HA := Lib.hid (HA.out.below hB)
        replace HR := Lib.hid (HR.out.below hB)
        replace HB := Lib.hid (HB.out.trans (hB.mono HB.out.size))
        replace HW1 := Lib.hid (HW1.out.trans (hB.mono HW1.out.size))
        replace HU := Lib.hid (HU.out.grow hB)
        replace HV := Lib.hid (HV.out.below hB)
        replace HT := Lib.hid (fun j hj => keep_below hB _ _ (HT.out j hj))
        replace HBT := Lib.hid (HBT.out.keep (keep_below hB))
        replace HVB := Lib.hid (HVB.out.below hB)
        rw [← HLE.out] at hvc
        have HVC := Lib.hid (show Slc W16 (fun b => w.heap.size + 2 ≤ b) vc L.length (f64s L) by rw [HLL.out]; exact hvc.keep (Kept.refl _ _) (fun b _ (h : _ ≤ b) => Nat.le_trans (by have := HSZ.out; omega) h))
        obtain ⟨co, cc, rfl, _⟩ := HVC.out.opened
        clear hvc HO
        clear hB
        refine hK.out _ _ ?_ (fun hHeld => ?_)
        · exact HA.out.2.1
        clear hK K
        refine wpAnyH_ready (rs := [6]) (by kernel_rfl) (by simp) ?_
        refine AllReadyH.cons (o := _) rfl (fun K hK => ?_) ?_
        · clear hHeld
          go_simp
          have HO := HW1.out.size
          refine (fnumbers_calls _ L _ HVC.out (by rw [HLL.out]; exact hm) (fun x hx => (HNN.out x hx).1) HT.out).mono ?_
          rintro e W17 ⟨uq, rfl, huq, hB⟩
          replace HA := Lib.hid (HA.out.below hB)
          replace HR := Lib.hid (HR.out.below hB)
          replace HB := Lib.hid (HB.out.trans (hB.mono HB.out.size))
          replace HW1 := Lib.hid (HW1.out.trans (hB.mono HW1.out.size))
          replace HU := Lib.hid (HU.out.grow hB)
          replace HV := Lib.hid (HV.out.below hB)
          replace HT := Lib.hid (fun j hj => keep_below hB _ _ (HT.out j hj))
          replace HBT := Lib.hid (HBT.out.keep (keep_below hB))
          replace HVB := Lib.hid (HVB.out.below hB)
          replace HVC := Lib.hid (HVC.out.below hB)
          rw [map_ze HNN.out] at huq
          have HQ := Lib.hid (show IsV W17 (fun b => (ok b ∧ b < w.heap.size) ∨ w.heap.size + 2 ≤ b) uq QV by rw [HQV.out]; exact huq.wide (fun b _ (h : _ ≤ b) => Or.inr (Nat.le_trans (by have := HSZ.out; omega) h)))
          have hsq := huq.store
          clear huq HO
          clear hB
          refine hK.out _ _ ?_ (fun hHeld => ?_)
          · exact HA.out.2.1
          clear hK K
          refine wpAnyH_ready (rs := [7]) (by kernel_rfl) (by simp) ?_
          refine AllReadyH.cons (o := _) rfl (fun K hK => ?_) ?_
          · clear hHeld
            have s0 := HR.out.2.1
            have t0 := HR.out.2.2 0
            go_simp
            clear s0 t0
            obtain ⟨W18, hWn⟩ : ∃ xw9, W17.setCell ⟨w.heap.size + 1, 0, none⟩ uq = xw9 := ⟨_, rfl⟩
            rw [hWn]
            replace HR := Lib.hid (show At1 W18 (w.heap.size + 1) uq by rw [← hWn]; exact At1.put1 HR.out _)
            replace HB := Lib.hid (show Below w.heap.size w W18 by rw [← hWn]; exact HB.out.setCell (Nat.le_succ _) _)
            replace HQ := Lib.hid (show IsV W18 (fun b => (ok b ∧ b < w.heap.size) ∨ w.heap.size + 2 ≤ b) uq QV by rw [← hWn]; exact HQ.out.keep (Kept.setCell _ _ _ (by simp)) (fun _ _ h => h))
            replace HA := Lib.hid (show At1 W18 w.heap.size u by rw [← hWn]; exact HA.out.grown (grown_setCell _ ⟨w.heap.size + 1, 0, none⟩ _) (by simp))
            clear hWn
            refine hK.out _ _ ?_ (fun hHeld => ?_)
            · exact HA.out.2.1
            clear hK K
            refine wpAnyH_done (by kernel_rfl) ?_ _
            clear hHeld
            have cHA0 := HA.out.2.1
            have cHR0 := HR.out.2.1
            go_wp2_with fail
            refine bodyPost_ret (v := .agg #[uq]) (by simp [results, Tryz.results56, go_sem, cHR0]) rfl ⟨_, rfl, ?_, HB.out⟩
            rw [VV.sel_nums HC.out HBI.out, ← HLE.out, ← HQV.out]
            exact HQ.out.wide (fun b _ (h : (ok b ∧ b < w.heap.size) ∨ w.heap.size + 2 ≤ b) => h.imp id (fun h => by omega))
          exact AllReadyH.nil
        exact AllReadyH.nil
      exact AllReadyH.nil
    exact AllReadyH.nil
  · have HC := Lib.hid hc
    rw [hc]
    clear hc
    have cHA0 := HA.out.2.1
    have cHR0 := HR.out.2.1
    have cHVB0 := HVB.out.2.1
    have cHVB1 := HVB.out.2.2.1
    go_wp2_with fail
    obtain ⟨L, hL⟩ : ∃ L, L = at_.map (atI V.text 32) := ⟨_, rfl⟩
    have HLE := Lib.hid hL
    have HLL := Lib.hid (show L.length = at_.length by rw [hL]; simp)
    obtain ⟨QV, hQV⟩ : ∃ QV, QV = VV.chars L := ⟨_, rfl⟩
    have HQV := Lib.hid hQV
    clear hQV hL
    obtain ⟨W14, hWD⟩ : ∃ xw9, W13.drew = xw9 := ⟨_, rfl⟩
    have hB : Below W13.heap.size W13 W14 := by rw [← hWD]; exact Below.drewN' (Below.refl _ _) 1
    clear cHA0 cHR0 cHVB0 cHVB1
    replace HA := Lib.hid (HA.out.below hB)
    replace HR := Lib.hid (HR.out.below hB)
    replace HB := Lib.hid (HB.out.trans (hB.mono HB.out.size))
    replace HW1 := Lib.hid (HW1.out.trans (hB.mono HW1.out.size))
    replace HU := Lib.hid (HU.out.grow hB)
    replace HV := Lib.hid (HV.out.below hB)
    replace HT := Lib.hid (fun j hj => keep_below hB _ _ (HT.out j hj))
    replace HBT := Lib.hid (HBT.out.keep (keep_below hB))
    replace HVB := Lib.hid (HVB.out.below hB)
    clear hB
    refine wp_region_held_drew (S := fun w' => w'.cell? ⟨w.heap.size, 0, none⟩ = some u) (by kernel_rfl) (by rw [hWD]; exact HA.out.2.1) (fun hHeld => ?_)
    rw [hWD] at hHeld ⊢
    clear hWD
    refine wpAnyH_take (i := 0) (v := ?_) rfl (by kernel_rfl) (by kernel_rfl) (by kernel_rfl) (fun _ _ _ h => h) (Or.inl ⟨by rfl, ?_⟩) (by assumption) ?_
    rotate_left
    · (intro w hSw; (try dsimp only at hSw); go_simp; try with_reducible rfl)
    simp only [Act.put, List.getElem_toArray, List.getElem_cons_zero, List.setIfInBounds_toArray, List.set_cons_zero, List.set_cons_succ]
    refine wpAnyH_take (i := 2) (v := ?_) rfl (by kernel_rfl) (by kernel_rfl) (by kernel_rfl) (fun _ _ _ h => h) (Or.inl ⟨by rfl, ?_⟩) (by assumption) ?_
    rotate_left
    · (intro w hSw; (try dsimp only at hSw); go_simp; try with_reducible rfl)
    simp only [Act.put, List.getElem_toArray, List.getElem_cons_succ, List.getElem_cons_zero, List.setIfInBounds_toArray, List.set_cons_zero, List.set_cons_succ]
    refine wpAnyH_take (i := 3) (v := ?_) rfl (by kernel_rfl) (by kernel_rfl) (by kernel_rfl) (fun _ _ _ h => h) (Or.inl ⟨by rfl, ?_⟩) (by assumption) ?_
    rotate_left
    · (intro w hSw; (try dsimp only at hSw); go_simp; try with_reducible rfl)
    simp only [Act.put, List.getElem_toArray, List.getElem_cons_succ, List.getElem_cons_zero, List.setIfInBounds_toArray, List.set_cons_zero, List.set_cons_succ]
    refine wpAnyH_take (i := 4) (v := ?_) rfl (by kernel_rfl) (by kernel_rfl) (by kernel_rfl) (fun _ _ _ h => h) (Or.inl ⟨by rfl, ?_⟩) (by assumption) ?_
    rotate_left
    · (intro w hSw; (try dsimp only at hSw); go_simp; try with_reducible rfl)
    simp only [Act.put, List.getElem_toArray, List.getElem_cons_succ, List.getElem_cons_zero, List.setIfInBounds_toArray, List.set_cons_zero, List.set_cons_succ]
    refine wpAnyH_ready (rs := [1]) (by kernel_rfl) (by simp) ?_
    refine AllReadyH.cons (o := _) rfl (fun K hK => ?_) ?_
    · clear hHeld
      go_simp
      refine (vlen_calls _ V _ HU.out).mono ?_
      rintro e W15 ⟨rfl, hB⟩
      replace HA := Lib.hid (HA.out.below hB)
      replace HR := Lib.hid (HR.out.below hB)
      replace HB := Lib.hid (HB.out.trans (hB.mono HB.out.size))
      replace HW1 := Lib.hid (HW1.out.trans (hB.mono HW1.out.size))
      replace HU := Lib.hid (HU.out.grow hB)
      replace HV := Lib.hid (HV.out.below hB)
      replace HT := Lib.hid (fun j hj => keep_below hB _ _ (HT.out j hj))
      replace HBT := Lib.hid (HBT.out.keep (keep_below hB))
      replace HVB := Lib.hid (HVB.out.below hB)
      clear hB
      refine hK.out _ _ ?_ (fun hHeld => ?_)
      · exact HA.out.2.1
      clear hK K
      refine wpAnyH_ready (rs := [5]) (by kernel_rfl) (by simp) ?_
      refine AllReadyH.cons (o := _) rfl (fun K hK => ?_) ?_
      · clear hHeld
        go_simp
        have HO := HW1.out.size
        refine (chC_calls _ V _ at_ _ HU.out HV.out (by omega) (VV.text_len HC.out)).mono ?_
        rintro e W16 ⟨vc, rfl, hvc, hB⟩
        replace HA := Lib.hid (HA.out.below hB)
        replace HR := Lib.hid (HR.out.below hB)
        replace HB := Lib.hid (HB.out.trans (hB.mono HB.out.size))
        replace HW1 := Lib.hid (HW1.out.trans (hB.mono HW1.out.size))
        replace HU := Lib.hid (HU.out.grow hB)
        replace HV := Lib.hid (HV.out.below hB)
        replace HT := Lib.hid (fun j hj => keep_below hB _ _ (HT.out j hj))
        replace HBT := Lib.hid (HBT.out.keep (keep_below hB))
        replace HVB := Lib.hid (HVB.out.below hB)
        rw [← HLE.out] at hvc
        have HVC := Lib.hid (show Slc W16 (fun b => w.heap.size + 2 ≤ b) vc L.length (i32s L) by rw [HLL.out]; exact hvc.keep (Kept.refl _ _) (fun b _ (h : _ ≤ b) => Nat.le_trans (by have := HSZ.out; omega) h))
        obtain ⟨co, cc, rfl, _⟩ := HVC.out.opened
        clear hvc HO
        clear hB
        refine hK.out _ _ ?_ (fun hHeld => ?_)
        · exact HA.out.2.1
        clear hK K
        refine wpAnyH_ready (rs := [6]) (by kernel_rfl) (by simp) ?_
        refine AllReadyH.cons (o := _) rfl (fun K hK => ?_) ?_
        · clear hHeld
          go_simp
          have HO := HW1.out.size
          refine (vchars_calls _ L _ HVC.out (by rw [HLL.out]; omega)).mono ?_
          rintro e W17 ⟨uq, rfl, huq, hB⟩
          replace HA := Lib.hid (HA.out.below hB)
          replace HR := Lib.hid (HR.out.below hB)
          replace HB := Lib.hid (HB.out.trans (hB.mono HB.out.size))
          replace HW1 := Lib.hid (HW1.out.trans (hB.mono HW1.out.size))
          replace HU := Lib.hid (HU.out.grow hB)
          replace HV := Lib.hid (HV.out.below hB)
          replace HT := Lib.hid (fun j hj => keep_below hB _ _ (HT.out j hj))
          replace HBT := Lib.hid (HBT.out.keep (keep_below hB))
          replace HVB := Lib.hid (HVB.out.below hB)
          replace HVC := Lib.hid (HVC.out.below hB)
          have HQ := Lib.hid (show IsV W17 (fun b => (ok b ∧ b < w.heap.size) ∨ w.heap.size + 2 ≤ b) uq QV by rw [HQV.out]; exact huq.wide (fun b _ (h : _ ≤ b) => Or.inr (Nat.le_trans (by have := HSZ.out; omega) h)))
          have hsq := huq.store
          clear huq HO
          clear hB
          refine hK.out _ _ ?_ (fun hHeld => ?_)
          · exact HA.out.2.1
          clear hK K
          refine wpAnyH_ready (rs := [7]) (by kernel_rfl) (by simp) ?_
          refine AllReadyH.cons (o := _) rfl (fun K hK => ?_) ?_
          · clear hHeld
            have s0 := HR.out.2.1
            have t0 := HR.out.2.2 0
            go_simp
            clear s0 t0
            obtain ⟨W18, hWn⟩ : ∃ xw9, W17.setCell ⟨w.heap.size + 1, 0, none⟩ uq = xw9 := ⟨_, rfl⟩
            rw [hWn]
            replace HR := Lib.hid (show At1 W18 (w.heap.size + 1) uq by rw [← hWn]; exact At1.put1 HR.out _)
            replace HB := Lib.hid (show Below w.heap.size w W18 by rw [← hWn]; exact HB.out.setCell (Nat.le_succ _) _)
            replace HQ := Lib.hid (show IsV W18 (fun b => (ok b ∧ b < w.heap.size) ∨ w.heap.size + 2 ≤ b) uq QV by rw [← hWn]; exact HQ.out.keep (Kept.setCell _ _ _ (by simp)) (fun _ _ h => h))
            replace HA := Lib.hid (show At1 W18 w.heap.size u by rw [← hWn]; exact HA.out.grown (grown_setCell _ ⟨w.heap.size + 1, 0, none⟩ _) (by simp))
            clear hWn
            refine hK.out _ _ ?_ (fun hHeld => ?_)
            · exact HA.out.2.1
            clear hK K
            refine wpAnyH_done (by kernel_rfl) ?_ _
            clear hHeld
            have cHA0 := HA.out.2.1
            have cHR0 := HR.out.2.1
            go_wp2_with fail
            refine bodyPost_ret (v := .agg #[uq]) (by simp [results, Tryz.results56, go_sem, cHR0]) rfl ⟨_, rfl, ?_, HB.out⟩
            rw [VV.sel_chars HC.out, ← HLE.out, ← HQV.out]
            exact HQ.out.wide (fun b _ (h : (ok b ∧ b < w.heap.size) ∨ w.heap.size + 2 ≤ b) => h.imp id (fun h => by omega))
          exact AllReadyH.nil
        exact AllReadyH.nil
      exact AllReadyH.nil
    exact AllReadyH.nil
  · have HC := Lib.hid hc
    rw [hc]
    clear hc
    have cHA0 := HA.out.2.1
    have cHR0 := HR.out.2.1
    have cHVB0 := HVB.out.2.1
    have cHVB1 := HVB.out.2.2.1
    go_wp2_with fail
    obtain ⟨L, hL⟩ : ∃ L, L = at_.map (atI V.boxs blankA) := ⟨_, rfl⟩
    have HLE := Lib.hid hL
    have HLL := Lib.hid (show L.length = at_.length by rw [hL]; simp)
    obtain ⟨QV, hQV⟩ : ∃ QV, QV = VV.boxes L := ⟨_, rfl⟩
    have HQV := Lib.hid hQV
    clear hQV hL
    obtain ⟨W14, hWD⟩ : ∃ xw9, W13.drew = xw9 := ⟨_, rfl⟩
    have hB : Below W13.heap.size W13 W14 := by rw [← hWD]; exact Below.drewN' (Below.refl _ _) 1
    clear cHA0 cHR0 cHVB0 cHVB1
    replace HA := Lib.hid (HA.out.below hB)
    replace HR := Lib.hid (HR.out.below hB)
    replace HB := Lib.hid (HB.out.trans (hB.mono HB.out.size))
    replace HW1 := Lib.hid (HW1.out.trans (hB.mono HW1.out.size))
    replace HU := Lib.hid (HU.out.grow hB)
    replace HV := Lib.hid (HV.out.below hB)
    replace HT := Lib.hid (fun j hj => keep_below hB _ _ (HT.out j hj))
    replace HBT := Lib.hid (HBT.out.keep (keep_below hB))
    replace HVB := Lib.hid (HVB.out.below hB)
    clear hB
    refine wp_region_held_drew (S := fun w' => w'.cell? ⟨w.heap.size, 0, none⟩ = some u) (by kernel_rfl) (by rw [hWD]; exact HA.out.2.1) (fun hHeld => ?_)
    rw [hWD] at hHeld ⊢
    clear hWD
    refine wpAnyH_take (i := 0) (v := ?_) rfl (by kernel_rfl) (by kernel_rfl) (by kernel_rfl) (fun _ _ _ h => h) (Or.inl ⟨by rfl, ?_⟩) (by assumption) ?_
    rotate_left
    · (intro w hSw; (try dsimp only at hSw); go_simp; try with_reducible rfl)
    simp only [Act.put, List.getElem_toArray, List.getElem_cons_zero, List.setIfInBounds_toArray, List.set_cons_zero, List.set_cons_succ]
    refine wpAnyH_take (i := 2) (v := ?_) rfl (by kernel_rfl) (by kernel_rfl) (by kernel_rfl) (fun _ _ _ h => h) (Or.inl ⟨by rfl, ?_⟩) (by assumption) ?_
    rotate_left
    · (intro w hSw; (try dsimp only at hSw); go_simp; try with_reducible rfl)
    simp only [Act.put, List.getElem_toArray, List.getElem_cons_succ, List.getElem_cons_zero, List.setIfInBounds_toArray, List.set_cons_zero, List.set_cons_succ]
    refine wpAnyH_take (i := 3) (v := ?_) rfl (by kernel_rfl) (by kernel_rfl) (by kernel_rfl) (fun _ _ _ h => h) (Or.inl ⟨by rfl, ?_⟩) (by assumption) ?_
    rotate_left
    · (intro w hSw; (try dsimp only at hSw); go_simp; try with_reducible rfl)
    simp only [Act.put, List.getElem_toArray, List.getElem_cons_succ, List.getElem_cons_zero, List.setIfInBounds_toArray, List.set_cons_zero, List.set_cons_succ]
    refine wpAnyH_take (i := 4) (v := ?_) rfl (by kernel_rfl) (by kernel_rfl) (by kernel_rfl) (fun _ _ _ h => h) (Or.inl ⟨by rfl, ?_⟩) (by assumption) ?_
    rotate_left
    · (intro w hSw; (try dsimp only at hSw); go_simp; try with_reducible rfl)
    simp only [Act.put, List.getElem_toArray, List.getElem_cons_succ, List.getElem_cons_zero, List.setIfInBounds_toArray, List.set_cons_zero, List.set_cons_succ]
    refine wpAnyH_ready (rs := [1]) (by kernel_rfl) (by simp) ?_
    refine AllReadyH.cons (o := _) rfl (fun K hK => ?_) ?_
    · clear hHeld
      go_simp
      refine (vlen_calls _ V _ HU.out).mono ?_
      rintro e W15 ⟨rfl, hB⟩
      replace HA := Lib.hid (HA.out.below hB)
      replace HR := Lib.hid (HR.out.below hB)
      replace HB := Lib.hid (HB.out.trans (hB.mono HB.out.size))
      replace HW1 := Lib.hid (HW1.out.trans (hB.mono HW1.out.size))
      replace HU := Lib.hid (HU.out.grow hB)
      replace HV := Lib.hid (HV.out.below hB)
      replace HT := Lib.hid (fun j hj => keep_below hB _ _ (HT.out j hj))
      replace HBT := Lib.hid (HBT.out.keep (keep_below hB))
      replace HVB := Lib.hid (HVB.out.below hB)
      clear hB
      refine hK.out _ _ ?_ (fun hHeld => ?_)
      · exact HA.out.2.1
      clear hK K
      refine wpAnyH_ready (rs := [5]) (by kernel_rfl) (by simp) ?_
      refine AllReadyH.cons (o := _) rfl (fun K hK => ?_) ?_
      · clear hHeld
        go_simp
        have HO := HW1.out.size
        refine (fblank_calls _).mono ?_
        rintro e W16 ⟨bo, bc, ub, rfl, hbl, hB⟩
        replace HA := Lib.hid (HA.out.below hB)
        replace HR := Lib.hid (HR.out.below hB)
        replace HB := Lib.hid (HB.out.trans (hB.mono HB.out.size))
        replace HW1 := Lib.hid (HW1.out.trans (hB.mono HW1.out.size))
        replace HU := Lib.hid (HU.out.grow hB)
        replace HV := Lib.hid (HV.out.below hB)
        replace HT := Lib.hid (fun j hj => keep_below hB _ _ (HT.out j hj))
        replace HBT := Lib.hid (HBT.out.keep (keep_below hB))
        replace HVB := Lib.hid (HVB.out.below hB)
        have HBL := Lib.hid (show IsArr W16 (fun b => (ok b ∧ b < w.heap.size) ∨ w.heap.size + 2 ≤ b) (.slice bo blankA.1.length bc) ub blankA from hbl.keep (Kept.refl _ _) (fun b _ (h : _ ≤ b) => Or.inr (Nat.le_trans (by have := HSZ.out; omega) h)))
        have hsb := hbl.2.store
        clear hbl HO
        clear hB
        refine hK.out _ _ ?_ (fun hHeld => ?_)
        · exact HA.out.2.1
        clear hK K
        refine wpAnyH_ready (rs := [6]) (by kernel_rfl) (by simp) ?_
        refine AllReadyH.cons (o := _) rfl (fun K hK => ?_) ?_
        · clear hHeld
          go_simp
          have HO := HW1.out.size
          refine (chA_calls _ V _ _ _ blankA at_ _ (HU.out.wide (fun b _ h => Or.inl h)) HOK.out (VV.boxs_len HC.out) HBL.out HV.out (by omega)).mono ?_
          rintro e W17 ⟨vc, rfl, hvc, hB⟩
          replace HA := Lib.hid (HA.out.below hB)
          replace HR := Lib.hid (HR.out.below hB)
          replace HB := Lib.hid (HB.out.trans (hB.mono HB.out.size))
          replace HW1 := Lib.hid (HW1.out.trans (hB.mono HW1.out.size))
          replace HU := Lib.hid (HU.out.grow hB)
          replace HV := Lib.hid (HV.out.below hB)
          replace HT := Lib.hid (fun j hj => keep_below hB _ _ (HT.out j hj))
          replace HBT := Lib.hid (HBT.out.keep (keep_below hB))
          replace HVB := Lib.hid (HVB.out.below hB)
          replace HBL := Lib.hid (HBL.out.grow hB)
          rw [← HLE.out] at hvc
          have HVC := Lib.hid (show Arrs W17 (fun b => (ok b ∧ b < w.heap.size) ∨ w.heap.size + 2 ≤ b) vc L from hvc.keep (Kept.refl _ _) (fun b _ h => by rcases h with h | h; exact h; exact Or.inr (Nat.le_trans (by have := HSZ.out; omega) h)))
          obtain ⟨co, cc, rfl, _⟩ := HVC.out.len
          clear hvc HO
          clear hB
          refine hK.out _ _ ?_ (fun hHeld => ?_)
          · exact HA.out.2.1
          clear hK K
          refine wpAnyH_ready (rs := [7]) (by kernel_rfl) (by simp) ?_
          refine AllReadyH.cons (o := _) rfl (fun K hK => ?_) ?_
          · clear hHeld
            go_simp
            have HO := HW1.out.size
            refine (vboxes_calls _ L _ HVC.out (by rw [HLL.out]; exact hm) (by rw [HLE.out]; exact atI_boxs HBX.out)).mono ?_
            rintro e W18 ⟨uq, rfl, huq, hB⟩
            replace HA := Lib.hid (HA.out.below hB)
            replace HR := Lib.hid (HR.out.below hB)
            replace HB := Lib.hid (HB.out.trans (hB.mono HB.out.size))
            replace HW1 := Lib.hid (HW1.out.trans (hB.mono HW1.out.size))
            replace HU := Lib.hid (HU.out.grow hB)
            replace HV := Lib.hid (HV.out.below hB)
            replace HT := Lib.hid (fun j hj => keep_below hB _ _ (HT.out j hj))
            replace HBT := Lib.hid (HBT.out.keep (keep_below hB))
            replace HVB := Lib.hid (HVB.out.below hB)
            replace HBL := Lib.hid (HBL.out.grow hB)
            replace HVC := Lib.hid (HVC.out.grow hB)
            have HQ := Lib.hid (show IsV W18 (fun b => (ok b ∧ b < w.heap.size) ∨ w.heap.size + 2 ≤ b) uq QV by rw [HQV.out]; exact huq.wide (fun b _ h => by rcases h with h | h; exact h.1; exact Or.inr (Nat.le_trans (by have := HSZ.out; omega) h)))
            have hsq := huq.store
            clear huq HO
            clear hB
            refine hK.out _ _ ?_ (fun hHeld => ?_)
            · exact HA.out.2.1
            clear hK K
            refine wpAnyH_ready (rs := [8]) (by kernel_rfl) (by simp) ?_
            refine AllReadyH.cons (o := _) rfl (fun K hK => ?_) ?_
            · clear hHeld
              have s0 := HR.out.2.1
              have t0 := HR.out.2.2 0
              go_simp
              clear s0 t0
              obtain ⟨W19, hWn⟩ : ∃ xw9, W18.setCell ⟨w.heap.size + 1, 0, none⟩ uq = xw9 := ⟨_, rfl⟩
              rw [hWn]
              replace HR := Lib.hid (show At1 W19 (w.heap.size + 1) uq by rw [← hWn]; exact At1.put1 HR.out _)
              replace HB := Lib.hid (show Below w.heap.size w W19 by rw [← hWn]; exact HB.out.setCell (Nat.le_succ _) _)
              replace HQ := Lib.hid (show IsV W19 (fun b => (ok b ∧ b < w.heap.size) ∨ w.heap.size + 2 ≤ b) uq QV by rw [← hWn]; exact HQ.out.keep (Kept.setCell _ _ _ (by simp)) (fun _ _ h => h))
              replace HA := Lib.hid (show At1 W19 w.heap.size u by rw [← hWn]; exact HA.out.grown (grown_setCell _ ⟨w.heap.size + 1, 0, none⟩ _) (by simp))
              clear hWn
              refine hK.out _ _ ?_ (fun hHeld => ?_)
              · exact HA.out.2.1
              clear hK K
              refine wpAnyH_done (by kernel_rfl) ?_ _
              clear hHeld
              have cHA0 := HA.out.2.1
              have cHR0 := HR.out.2.1
              go_wp2_with fail
              refine bodyPost_ret (v := .agg #[uq]) (by simp [results, Tryz.results56, go_sem, cHR0]) rfl ⟨_, rfl, ?_, HB.out⟩
              rw [VV.sel_boxes HC.out, ← HLE.out, ← HQV.out]
              exact HQ.out.wide (fun b _ (h : (ok b ∧ b < w.heap.size) ∨ w.heap.size + 2 ≤ b) => h.imp id (fun h => by omega))
            exact AllReadyH.nil
          exact AllReadyH.nil
        exact AllReadyH.nil
      exact AllReadyH.nil
    exact AllReadyH.nil
end Go.Proofs.YtbfcdpabjailcaaGreatDoor

/- Package flat, walked: Pick; the rules of places. -/
namespace Go.Proofs.YtbfcdpabjailcaaGreatDoor
set_option maxRecDepth 100000
open Go.RowKit Fl
set_option linter.unusedVariables false

theorem againR_calls (b : Nat) (x i : Int) (w : World) (hb : w.cell? ⟨b, 0, none⟩ = some (.int .i64 x)) (h1 : 0 < x) (h2 : x ≤ 4000000) (h3 : 0 ≤ i) (h4 : i ≤ 4000000) :
    Calls Tryz.prog 59 #[.int .i64 i, .pointer (some ⟨b, 0, none⟩)] w fun e w' => e = .returned (.int .i64 (i % x)) ∧ w = w' := by
  go_enter Tryz.func59, Tryz.ntmps59
  go_wp2_with fail
  go_ret
  exact ⟨rfl, rfl⟩
set_option maxHeartbeats 4000000 in
theorem pick_calls {ok ok2 : Nat → Prop} (u : Value) (V : VV) (v : Value) (at_ : List Int) (w : World) (hu : IsV w ok u V) (hok : V.ok) (hn : V.nm) (hb : ∀ a ∈ V.boxs, a.1.length ≤ 1048576) (hv : Slc w ok2 v at_.length (ints at_)) (hm : at_.length ≤ 1048576) (hT : TabAt w) :
    Calls Tryz.prog 63 #[.agg #[u], v] w fun e w' => ∃ u', e = .returned (.agg #[u']) ∧ IsV w' (fun b => (ok b ∧ b < w.heap.size) ∨ w.heap.size ≤ b) u' (V.sel at_) ∧ Below w.heap.size w w' := by
  obtain ⟨ao, cap, rfl, hc1, hc2, _⟩ := hv.opened
  have hsu := hu.store
  obtain ⟨W1, hW1⟩ : ∃ W1, W1 = (w.alloc (.cells #[u] 29)).alloc (.cells #[.nilIface] 29) := ⟨_, rfl⟩
  have HB := Lib.hid (show Below w.heap.size w W1 by rw [hW1]; exact (below_new _ _).alloc (by simp) _)
  have HSZ := Lib.hid (show W1.heap.size = w.heap.size + 2 by rw [hW1]; simp)
  have HA := Lib.hid (show At1 W1 w.heap.size u by rw [hW1]; exact (At1.new w _ _).below (below_new _ _))
  have HR := Lib.hid (show At1 W1 (w.heap.size + 1) .nilIface by rw [hW1]; have := At1.new (w.alloc (.cells #[u] 29)) .nilIface 29; simpa using this)
  have HU := Lib.hid (show IsV W1 (fun b => ok b ∧ b < w.heap.size) u V from hu.lt.grow HB.out)
  have HV := Lib.hid (show Slc W1 (fun b => b < w.heap.size) (.slice ao at_.length cap) at_.length (ints at_) from (hv.keep (Kept.refl _ _) (fun b h _ => h)).below HB.out)
  have HT := Lib.hid (show TabAt W1 from fun j hj => keep_below HB.out _ _ (hT j hj))
  have HOK := Lib.hid hok
  have HN := Lib.hid hn
  have HBX := Lib.hid hb
  have HW1 := Lib.hid (Below.refl W1.heap.size W1)
  have hfold := hW1.symm
  have hmin : ¬ ((1048576 : Int) < (at_.length : Int)) := by omega
  obtain ⟨QV, hQV⟩ : ∃ QV, QV = V.sel at_ := ⟨_, rfl⟩
  have HQV := Lib.hid hQV
  clear hu hv hT hok hn hb hW1 hQV
  have cHA0 := HA.out.2.1
  have cHR0 := HR.out.2.1
  go_enter Tryz.func63, Tryz.ntmps63
  go_wp2_with fail
  clear hfold
  obtain ⟨W11, hWD⟩ : ∃ xw9, W1.drew = xw9 := ⟨_, rfl⟩
  have hB : Below W1.heap.size W1 W11 := by rw [← hWD]; exact Below.drewN' (Below.refl _ _) 1
  clear cHA0 cHR0
  replace HA := Lib.hid (HA.out.below hB)
  replace HR := Lib.hid (HR.out.below hB)
  replace HB := Lib.hid (HB.out.trans (hB.mono HB.out.size))
  replace HW1 := Lib.hid (HW1.out.trans (hB.mono HW1.out.size))
  replace HU := Lib.hid (HU.out.grow hB)
  replace HV := Lib.hid (HV.out.below hB)
  replace HT := Lib.hid (fun j hj => keep_below hB _ _ (HT.out j hj))
  clear hB
  refine wp_region_held_drew (S := fun w' => w'.cell? ⟨w.heap.size, 0, none⟩ = some u) (by kernel_rfl) (by rw [hWD]; exact HA.out.2.1) (fun hHeld => ?_)
  rw [hWD] at hHeld ⊢
  clear hWD
  refine wpAnyH_take (i := 0) (v := ?_) rfl (by kernel_rfl) (by kernel_rfl) (by kernel_rfl) (fun _ _ _ h => h) (Or.inl ⟨by rfl, ?_⟩) (by assumption) ?_
  rotate_left
  · (intro w hSw; (try dsimp only at hSw); go_simp; try with_reducible rfl)
  simp only [Act.put, List.getElem_toArray, List.getElem_cons_zero, List.setIfInBounds_toArray, List.set_cons_zero, List.set_cons_succ]
  refine wpAnyH_take (i := 1) (v := ?_) rfl (by kernel_rfl) (by kernel_rfl) (by kernel_rfl) (fun _ _ _ h => h) (Or.inl ⟨by rfl, ?_⟩) (by assumption) ?_
  rotate_left
  · (intro w hSw; (try dsimp only at hSw); go_simp; try with_reducible rfl)
  simp only [Act.put, List.getElem_toArray, List.getElem_cons_succ, List.getElem_cons_zero, List.setIfInBounds_toArray, List.set_cons_zero, List.set_cons_succ]
  refine wpAnyH_take (i := 2) (v := ?_) rfl (by kernel_rfl) (by kernel_rfl) (by kernel_rfl) (fun _ _ _ h => h) (Or.inl ⟨by rfl, ?_⟩) (by assumption) ?_
  rotate_left
  · (intro w hSw; (try dsimp only at hSw); go_simp; try with_reducible rfl)
  simp only [Act.put, List.getElem_toArray, List.getElem_cons_succ, List.getElem_cons_zero, List.setIfInBounds_toArray, List.set_cons_zero, List.set_cons_succ]
  refine wpAnyH_take (i := 3) (v := ?_) rfl (by kernel_rfl) (by kernel_rfl) (by kernel_rfl) (fun _ _ _ h => h) (Or.inl ⟨by rfl, ?_⟩) (by assumption) ?_
  rotate_left
  · (intro w hSw; (try dsimp only at hSw); go_simp; try with_reducible rfl)
  simp only [Act.put, List.getElem_toArray, List.getElem_cons_succ, List.getElem_cons_zero, List.setIfInBounds_toArray, List.set_cons_zero, List.set_cons_succ]
  refine wpAnyH_take (i := 4) (v := (.int .i64 (at_.length : Int))) rfl (by kernel_rfl) (by kernel_rfl) (by kernel_rfl) (fun _ _ _ h => h) (Or.inl ⟨by rfl, ?_⟩) (by assumption) ?_
  · (intro w hSw; (try dsimp only at hSw); go_simp; intro h; omega)
  simp only [Act.put, List.getElem_toArray, List.getElem_cons_succ, List.getElem_cons_zero, List.setIfInBounds_toArray, List.set_cons_zero, List.set_cons_succ]
  refine wpAnyH_take (i := 5) (v := (.slice ao at_.length cap)) rfl (by kernel_rfl) (by kernel_rfl) (by kernel_rfl) (fun _ _ _ h => h) (Or.inl ⟨by rfl, ?_⟩) (by assumption) ?_
  · (intro w hSw; (try dsimp only at hSw); go_simp; skip)
  simp only [Act.put, List.getElem_toArray, List.getElem_cons_succ, List.getElem_cons_zero, List.setIfInBounds_toArray, List.set_cons_zero, List.set_cons_succ]
  refine wpAnyH_ready (rs := [6]) (by kernel_rfl) (by simp) ?_
  refine AllReadyH.cons (o := _) rfl (fun K hK => ?_) ?_
  · clear hHeld
    go_simp
    have HO := HW1.out.size
    refine (selected_calls _ V _ at_ _ HU.out HOK.out HN.out HBX.out HV.out hm HT.out).mono ?_
    rintro e W12 ⟨uq, rfl, huq, hB⟩
    replace HA := Lib.hid (HA.out.below hB)
    replace HR := Lib.hid (HR.out.below hB)
    replace HB := Lib.hid (HB.out.trans (hB.mono HB.out.size))
    replace HW1 := Lib.hid (HW1.out.trans (hB.mono HW1.out.size))
    replace HU := Lib.hid (HU.out.grow hB)
    replace HV := Lib.hid (HV.out.below hB)
    replace HT := Lib.hid (fun j hj => keep_below hB _ _ (HT.out j hj))
    have HQ := Lib.hid (show IsV W12 (fun b => (ok b ∧ b < w.heap.size) ∨ w.heap.size + 2 ≤ b) uq QV by rw [HQV.out]; exact huq.wide (fun b _ h => by rcases h with h | h; exact Or.inl h.1; exact Or.inr (Nat.le_trans (by have := HSZ.out; omega) h)))
    have hsq := huq.store
    clear huq HO
    clear hB
    refine hK.out _ _ ?_ (fun hHeld => ?_)
    · exact HA.out.2.1
    clear hK K
    refine wpAnyH_ready (rs := [7]) (by kernel_rfl) (by simp) ?_
    refine AllReadyH.cons (o := _) rfl (fun K hK => ?_) ?_
    · clear hHeld
      have s0 := HR.out.2.1
      have t0 := HR.out.2.2 0
      go_simp
      clear s0 t0
      obtain ⟨W13, hWn⟩ : ∃ xw9, W12.setCell ⟨w.heap.size + 1, 0, none⟩ uq = xw9 := ⟨_, rfl⟩
      rw [hWn]
      replace HR := Lib.hid (show At1 W13 (w.heap.size + 1) uq by rw [← hWn]; exact At1.put1 HR.out _)
      replace HB := Lib.hid (show Below w.heap.size w W13 by rw [← hWn]; exact HB.out.setCell (Nat.le_succ _) _)
      replace HQ := Lib.hid (show IsV W13 (fun b => (ok b ∧ b < w.heap.size) ∨ w.heap.size + 2 ≤ b) uq QV by rw [← hWn]; exact HQ.out.keep (Kept.setCell _ _ _ (by simp)) (fun _ _ h => h))
      replace HA := Lib.hid (show At1 W13 w.heap.size u by rw [← hWn]; exact HA.out.grown (grown_setCell _ ⟨w.heap.size + 1, 0, none⟩ _) (by simp))
      clear hWn
      refine hK.out _ _ ?_ (fun hHeld => ?_)
      · exact HA.out.2.1
      clear hK K
      refine wpAnyH_done (by kernel_rfl) ?_ _
      clear hHeld
      have cHA0 := HA.out.2.1
      have cHR0 := HR.out.2.1
      go_wp2_with fail
      refine bodyPost_ret (v := .agg #[uq]) (by simp [results, Tryz.results63, go_sem, cHR0]) rfl ⟨_, rfl, ?_, HB.out⟩
      rw [← HQV.out]
      exact HQ.out.wide (fun b _ (h : (ok b ∧ b < w.heap.size) ∨ w.heap.size + 2 ≤ b) => h.imp id (fun h => by omega))
    exact AllReadyH.nil
  exact AllReadyH.nil
end Go.Proofs.YtbfcdpabjailcaaGreatDoor

/- Elements at some places, as items: plain. -/
namespace Go.Proofs.YtbfcdpabjailcaaGreatDoor
set_option maxRecDepth 100000
open Go.RowKit Fl
set_option linter.unusedVariables false

def gV (d : Nat) (V : VV) : Prop := V.ok ∧ V.nm ∧ V.kind = V.least ∧ ∀ a ∈ V.boxs, gA d a
/-- The items of a vector. -/
def itsA (d : Nat) (V : VV) : List PI := (List.range V.len).map (itA (plA d) V)
theorem itsA_len (d : Nat) (V : VV) : (itsA d V).length = V.len := by simp [itsA]
theorem itsA_get {d : Nat} {V : VV} {k : Nat} (h : k < V.len) : (itsA d V)[k]? = some (itA (plA d) V k) := by simp [itsA, h]
theorem gA_gV {d : Nat} {A : List Int × VV} (h : gA (d + 1) A) : gV d A.2 := ⟨h.2.1, h.2.2.1, h.2.2.2.1, h.2.2.2.2⟩
theorem gV_gA {d : Nat} {V : VV} (h : gV d V) : gA (d + 1) ([(V.len : Int)], V) := by
  refine ⟨?_, h.1, h.2.1, h.2.2.1, h.2.2.2⟩
  have := nums_prod (List.replicate V.len 0) (by simpa using VV.ok_len h.1)
  simpa using this
theorem gA_blank (d : Nat) : gA (d + 1) blankA := by
  refine ⟨by decide, by simp [blankA, VV.ok], by simp [blankA, VV.nm], rfl, ?_⟩
  intro a ha
  simp [blankA, VV.boxs] at ha
theorem gV_box {d : Nat} {V : VV} (h : gV d V) : ∀ a ∈ V.boxs, a.1.length ≤ 1048576 := by
  intro a ha
  cases V <;> simp [VV.boxs] at ha
  exact h.1.2 _ ha
theorem VV.nums_length {V : VV} (h : V.cls = 0) : V.nums.length = V.len := by cases V <;> simp_all [VV.cls, VV.nums, VV.len]
theorem atI_or {α : Type} (l : List α) (d : α) (i : Int) : (∃ k : Nat, i = (k : Int) ∧ ∃ h : k < l.length, atI l d i = l[k]) ∨ (¬ (0 ≤ i ∧ i < (l.length : Int)) ∧ atI l d i = d) := by
  by_cases h : 0 ≤ i ∧ i < (l.length : Int)
  · obtain ⟨k, rfl⟩ := Int.eq_ofNat_of_zero_le h.1
    exact Or.inl ⟨k, rfl, by omega, atI_nat (by omega)⟩
  · exact Or.inr ⟨h, atI_neg h⟩
theorem sqI_nat {l : List Bool} {k : Nat} (h : k < l.length) : sqI l (k : Int) = l[k] := sqI_some (by simp [h])
theorem flagW_sqI {l : List Bool} {i : Int} : flagW (sqI l i) = atI (l.map flagW) 0 i := by
  by_cases h : 0 ≤ i ∧ i < (l.length : Int)
  · obtain ⟨k, rfl⟩ := Int.eq_ofNat_of_zero_le h.1
    have hk : k < l.length := by omega
    rw [sqI_nat hk, atI_nat (by simpa using hk)]
    simp
  · rw [sqI_out h, atI_neg (by simpa using h)]; rfl
theorem VV.sel_len (V : VV) (at_ : List Int) (hn : ∀ x ∈ V.nums, Num x) (hm : at_.length ≤ 1048576) : (V.sel at_).len = at_.length := by
  have hf : (VV.floats (at_.map (atI V.nums 0))).sq.len = at_.length := by
    have := (VV.sq_spec (V := VV.floats (at_.map (atI V.nums 0))) (by simpa [VV.ok] using hm) (map_atI_num hn)).2.2.2.2.2
    rw [this]; simp [VV.len]
  cases V <;> first | exact hf | simp [VV.sel, VV.len]
theorem VV.sel_cls (V : VV) (at_ : List Int) (hn : ∀ x ∈ V.nums, Num x) (hm : at_.length ≤ 1048576) : (V.sel at_).cls = V.cls := by
  have hf : (VV.floats (at_.map (atI V.nums 0))).sq.cls = 0 := (VV.sq_spec (V := VV.floats (at_.map (atI V.nums 0))) (by simpa [VV.ok] using hm) (map_atI_num hn)).2.2.1
  cases V <;> first | exact hf | rfl
theorem VV.sel_numbers {V : VV} (at_ : List Int) (hn : ∀ x ∈ V.nums, Num x) (hm : at_.length ≤ 1048576) (hc : V.cls = 0) : (V.sel at_).nums = at_.map (atI V.nums 0) := by
  by_cases hb : V.isBit = true
  · rw [VV.sel_bits hb]
    cases V <;> simp [VV.isBit] at hb
    simp only [VV.nums, VV.packed, List.map_map]
    apply List.map_congr_left
    intro i _
    exact flagW_sqI
  · rw [VV.sel_nums hc (by simpa using hb)]
    exact (VV.sq_spec (V := VV.floats (at_.map (atI V.nums 0))) (by simpa [VV.ok] using hm) (map_atI_num hn)).2.1
theorem gV_sel {d : Nat} {V : VV} {at_ : List Int} (h : gV (d + 1) V) (hm : at_.length ≤ 1048576) : gV (d + 1) (V.sel at_) := by
  have hn := VV.nums_num h.1 h.2.1
  by_cases hb : V.isBit = true
  · rw [VV.sel_bits hb]
    exact ⟨by simpa [VV.ok] using hm, trivial, rfl, fun a ha => by simp [VV.boxs] at ha⟩
  · rcases VV.cls_cases V with hc | hc | hc
    · rw [VV.sel_nums hc (by simpa using hb)]
      have hok : (VV.floats (at_.map (atI V.nums 0))).ok := by simpa [VV.ok] using hm
      have hnm : (VV.floats (at_.map (atI V.nums 0))).nm := map_atI_num hn
      obtain ⟨h1, h2, h3, h4, h5, h6⟩ := VV.sq_spec hok hnm
      refine ⟨h4, h5, ?_, fun a ha => by rw [boxs_of_cls (by rw [h3]; simp [VV.cls])] at ha; simp at ha⟩
      rw [h1, VV.least_eq hok hnm rfl, VV.least_eq h4 h5 h3, h2]
    · rw [VV.sel_chars hc]
      exact ⟨by simpa [VV.ok] using hm, trivial, rfl, fun a ha => by simp [VV.boxs] at ha⟩
    · rw [VV.sel_boxes hc]
      refine ⟨⟨by simpa using hm, atI_boxs (gV_box h)⟩, trivial, rfl, fun a ha => ?_⟩
      have ha : a ∈ at_.map (atI V.boxs blankA) := ha
      obtain ⟨i, _, rfl⟩ := List.mem_map.1 ha
      rcases atI_or V.boxs blankA i with ⟨k, rfl, hk, e⟩ | ⟨_, e⟩
      · rw [e]; exact h.2.2.2 _ (List.getElem_mem hk)
      · rw [e]; exact gA_blank d
theorem nice_plA (d : Nat) : ∀ A, gA d A → nice d (plA d A) := by
  induction d with
  | zero => intro A h; exact h.elim
  | succ d ih =>
    intro A h x hx
    have hx : x ∈ (List.range A.2.len).map (itA (plA d) A.2) := hx
    obtain ⟨k, hk, rfl⟩ := List.mem_map.1 hx
    have hk : k < A.2.len := by simpa using hk
    unfold itA
    rcases VV.cls_cases A.2 with c | c | c
    · rw [if_neg (by omega), if_neg (by omega)]
      exact ⟨(by show Num (atI A.2.nums 0 (k : Int)); exact atI_num (VV.nums_num h.2.1 h.2.2.1)), fun q hq => by simp at hq⟩
    · rw [if_pos c]
      exact ⟨⟨fin_zero, fun _ => rfl⟩, fun q hq => by simp at hq⟩
    · rw [if_neg (by omega), if_pos c]
      refine ⟨⟨fin_zero, fun _ => rfl⟩, fun q hq => ?_⟩
      simp only [List.mem_singleton] at hq
      subst hq
      have hkb : k < A.2.boxs.length := by rw [VV.boxs_len c]; exact hk
      rw [atI_nat hkb]
      exact ih _ (h.2.2.2.2 _ (List.getElem_mem hkb))
/-- Of a good plain array. -/
theorem its_arrP {d : Nat} {p : PA} (h : chk (d + 1) p = 0) : itsA d (arrP (d + 1) p).2 = (tidyP (d + 1) p).l := by
  have e := plA_arrP (d + 1) p h
  have : (plA (d + 1) (arrP (d + 1) p)).l = (tidyP (d + 1) p).l := by rw [e]
  exact this
end Go.Proofs.YtbfcdpabjailcaaGreatDoor

/- The reference of layer 8: Blank, Pick. -/
namespace Go.Proofs.YtbfcdpabjailcaaGreatDoor
set_option maxRecDepth 100000
open Go.RowKit Fl
set_option linter.unusedVariables false

/-- A row of items in the making. -/
def OutRel (w0 : World) (ok : Nat → Prop) (k : Nat) (v : Value) (L : List QI) (l : List PI) (wr : World) : Prop :=
  wr.ownsRow w0.heap.size 48 4 v k (flatI L) ∧ Quad wr (fun b => ok b ∧ v.ownBlock ≠ some b) L l ∧ Below w0.heap.size w0 wr
theorem OutRel.start (w0 : World) (ok : Nat → Prop) : OutRel w0 ok 0 (.slice none 0 0) [] [] w0 := ⟨World.ownsRow_nil _ _ _ _, Quad.nil _ _, Below.refl _ _⟩
theorem OutRel.step {w0 wr W4 w5 : World} {ok : Nat → Prop} {k : Nat} {v v' bx : Value} {L : List QI} {l : List PI} {x : PI} (h : OutRel w0 ok k v L l wr) (hr4 : Below wr.heap.size wr W4)
    (hx : IsB W4 (fun b => ok b ∧ v.ownBlock ≠ some b) bx x.2.2.2)
    (hown : w5.ownsRow w0.heap.size 48 4 v' (k + 1) (flatI L ++ quadV (x.1, x.2.1, x.2.2.1, bx))) (hg : W4.grownBy w5 v.ownBlock)
    (hk : ∀ j, v'.ownBlock = some j → v.ownBlock = some j ∨ W4.heap.size ≤ j) : OutRel w0 ok (k + 1) v' (L ++ [(x.1, x.2.1, x.2.2.1, bx)]) (l ++ [x]) w5 := by
  obtain ⟨h1, h2, h7⟩ := h
  have hq : Quad W4 (fun b => ok b ∧ v.ownBlock ≠ some b) (L ++ [(x.1, x.2.1, x.2.2.1, bx)]) (l ++ [x]) := (h2.keep (Kept.below hr4) (fun _ _ h => h)).snoc hx
  refine ⟨by rw [flatI_snoc]; exact hown, ?_, ?_⟩
  · refine Quad.keep (w := W4) (ok := fun b => ok b ∧ v.ownBlock ≠ some b) (Kept.grown hg (fun b hb e => hb.2 e.symm)) (fun b hb ho => ⟨ho.1, fun e => ?_⟩) hq
    rcases hk b e with e2 | e2
    · exact ho.2 e2
    · omega
  · exact (h7.trans (hr4.mono h7.size)).grown hg (by have := hr4.size; have := h7.size; omega) (fun j hj => (h1.lt j hj).1)
theorem OutRel.its {w0 wr : World} {ok : Nat → Prop} {k : Nat} {v : Value} {L : List QI} {l : List PI} (h : OutRel w0 ok k v L l wr) : Its wr (fun b => ok b ∨ w0.heap.size ≤ b) v l :=
  Its.of_own (ok := ok) h.1 (h.2.1.keep (Kept.refl _ _) (fun b _ h => h.1))

end Go.Proofs.YtbfcdpabjailcaaGreatDoor

/- Package flat, walked: places. -/
namespace Go.Proofs.YtbfcdpabjailcaaGreatDoor
set_option maxRecDepth 100000
open Go.RowKit Fl
set_option linter.unusedVariables false

theorem info_int2 : (Tryz.prog.info? 3).map (fun i => (i.zero, i.size, i.bytes)) = some (some (.int .i64 0), 1, 8) := by kernel_rfl
theorem run_mkI2 (n : Nat) (hn : n ≤ 2000000) (w : World) : (Instr.makeSlice 22 (.int .i64 (n : Int)) (.int .i64 (n : Int))).run Tryz.prog w = .ok (.slice (some ⟨w.heap.size, 0, none⟩) n n) (w.alloc (.cells (zerosV (.int .i64 0) n) 3)) := by
  obtain ⟨i0, hi, hz0, hz1, hz2⟩ := info_parts info_int2
  have hr := run_make (P := Tryz.prog) w 22 3 i0 _ Tryz.underlying22 hi hz0 .i64 .i64 n n (by omega) (Int.le_refl _) (by rw [hz2]; omega) (by omega)
  simp only [Int.toNat_natCast, hz1] at hr
  exact hr


set_option maxHeartbeats 4000000 in
/-- n places, by a rule that tells each of them out of one variable. -/
theorem placesAgain_calls (b : Nat) (x : Int) (F : Nat → Int) (n : Nat) (w : World) (hn : n ≤ 2000000) (hx : At1 w b (.int .i64 x))
    (hR : ∀ (i : Nat) (w' : World), i < n → w'.cell? ⟨b, 0, none⟩ = some (.int .i64 x) → Calls Tryz.prog 59 #[.int .i64 (i : Int), .pointer (some ⟨b, 0, none⟩)] w' (fun e w'' => e = .returned (.int .i64 (F i)) ∧ w' = w'')) :
    Calls Tryz.prog 57 #[.int .i64 (n : Int), .func (.func 59) #[] #[.pointer (some ⟨b, 0, none⟩)]] w fun e w' => ∃ v, e = .returned v ∧ Slc w' (fun b => w.heap.size ≤ b) v ((List.range n).map F).length (ints ((List.range n).map F)) ∧ Below w.heap.size w w' := by
  have HRR := Lib.hid hR
  obtain ⟨xs, hxs⟩ : ∃ xs : List Value, xs = ints ((List.range n).map F) := ⟨_, rfl⟩
  have hxl : xs.length = n := by rw [hxs]; simp [ints]
  have hget : ∀ k (h : k < xs.length), xs[k]'h = .int .i64 (F k) := by intro k h; simp [hxs, ints]
  rw [← hxs, show ((List.range n).map F).length = n by simp]
  have HX := Lib.hid hget
  have HXL := Lib.hid hxl
  have HXC := Lib.hid hx
  have hmk := run_mkI2 n (by omega) w
  clear hxs hget hxl hR hx
  obtain ⟨W0, hW0⟩ : ∃ W0, W0 = w.alloc (.cells (zerosV (.int .i64 0) n) 3) := ⟨_, rfl⟩
  have HO0 : Hid (W0.ownsRow w.heap.size 3 1 (.slice (some ⟨w.heap.size, 0, none⟩) n n) n (List.replicate n (.int .i64 0))) := Lib.hid (by rw [hW0]; exact own_make1 _ _ _ (by omega) _ _ (Nat.le_refl _))
  have HW := Lib.hid (show Below w.heap.size w W0 by rw [hW0]; exact below_new _ _)
  go_enter Tryz.func57, Tryz.ntmps57
  go_wp2_with fail
  rw [← hW0]
  clear hW0 hmk
  go_loopw [11] (fun i wr => ∃ k : Nat, k ≤ n ∧ i = .int .i64 k ∧ wr.ownsRow w.heap.size 3 1 (.slice (some ⟨w.heap.size, 0, none⟩) n n) n (fillTo xs (.int .i64 0) k) ∧ W0.grownBy wr (some w.heap.size)) (fun i _ => n - (intOf i).toNat)
  case atStart => exact ⟨0, by omega, rfl, by rw [fillTo_zero, HXL.out]; exact HO0.out, grown_refl _ _⟩
  case round =>
    obtain ⟨k, hk, rfl, hown, hgr⟩ := hrel
    have HO := Lib.hid hown
    have HG := Lib.hid hgr
    have HB := Lib.hid (HW.out.grown hgr HW.out.size (fun j hj => by cases hj; omega))
    by_cases hlt : k < n
    · have hcw := owns_cell HO.out k (by rw [fillTo_len _ _ _ (by rw [HXL.out]; exact hk), HXL.out]; exact hlt)
      have hfr := World.ownsRow.frozenAt HO.out k
      have HXK := Lib.hid (HX.out k (by rw [HXL.out]; exact hlt))
      have HC := Lib.hid (HXC.out.below HB.out).2.1
      clear hown hgr
      go_wp2_with fail
      refine (HRR.out k _ hlt HC.out).mono ?_
      rintro e w2 ⟨rfl, rfl⟩
      go_wp2
      go_roundw
      case rel =>
        refine ⟨k + 1, by omega, by go_num, ?_, grown_trans HG.out (grown_setCell _ ⟨w.heap.size, k, none⟩ _)⟩
        have := (World.ownsRow.stored HO.out k (.int .i64 (F k))).1
        rw [← HXK.out, fillTo_set] at this
        rw [← HXK.out]
        exact this
      case measure => simp [intOf]; omega
    · have hkl : k = n := by omega
      have HK := Lib.hid hkl
      clear hown hgr hkl
      go_wp2
      go_ret
      refine ⟨_, rfl, ?_, HB.out⟩
      have := Slc.owned HO.out
      rwa [HK.out, ← HXL.out, fillTo_all, HXL.out] at this

end Go.Proofs.YtbfcdpabjailcaaGreatDoor

/- Package flat, walked: Turn, Again, Cut. -/
namespace Go.Proofs.YtbfcdpabjailcaaGreatDoor
set_option maxRecDepth 100000
open Go.RowKit Fl
set_option linter.unusedVariables false

def againL (c m : Nat) : List Int := (List.range m).map fun (i : Nat) => (i : Int) % (c : Int)
def cutL (x n : Nat) : List Int := (List.range n).map fun (i : Nat) => (x : Int) + (i : Int)
theorem againL_len (c m : Nat) : (againL c m).length = m := by simp [againL]
set_option maxHeartbeats 4000000 in
theorem again_calls {ok : Nat → Prop} (u : Value) (V : VV) (n : Int) (w : World) (hu : IsV w ok u V) (hok : V.ok) (hn : V.nm) (hb : ∀ a ∈ V.boxs, a.1.length ≤ 1048576) (hT : TabAt w) (hn2 : n ≤ 9223372036854775807) :
    Calls Tryz.prog 37 #[.agg #[u], .int .i64 n] w fun e w' => ∃ u', e = .returned (.agg #[u']) ∧ IsV w' (fun b => (ok b ∧ b < w.heap.size) ∨ w.heap.size ≤ b) u' (V.sel (againL (max V.len 1) (min (max n 0) 1048576).toNat)) ∧ Below w.heap.size w w' := by
  have hsu := hu.store
  obtain ⟨W1, hW1⟩ : ∃ W1, W1 = (w.alloc (.cells #[u] 29)).alloc (.cells #[.nilIface] 29) := ⟨_, rfl⟩
  have HB := Lib.hid (show Below w.heap.size w W1 by rw [hW1]; exact ((below_new _ _).alloc (by simp) _))
  have HSZ := Lib.hid (show W1.heap.size = w.heap.size + 2 by rw [hW1]; simp)
  have HA := Lib.hid (show At1 W1 w.heap.size u by rw [hW1]; exact (At1.new w _ _).below (below_new _ _))
  have HR := Lib.hid (show At1 W1 (w.heap.size + 1) .nilIface by rw [hW1]; have := At1.new (w.alloc (.cells #[u] 29)) .nilIface 29; simpa using this)
  have HU := Lib.hid (show IsV W1 (fun b => ok b ∧ b < w.heap.size) u V from hu.lt.grow HB.out)
  have HT := Lib.hid (show TabAt W1 from fun j hj => keep_below HB.out _ _ (hT j hj))
  have HOK := Lib.hid hok
  have HN := Lib.hid hn
  have HBX := Lib.hid hb
  have HW1 := Lib.hid (Below.refl W1.heap.size W1)
  have hfold := hW1.symm
  have hmf : ∀ (fn : Fn) (first cap : Array Value) (w : World), (Instr.makeFunc fn first cap).run Tryz.prog w = .ok (.func fn first cap) w := fun _ _ _ _ => rfl
  obtain ⟨QV, hQV⟩ : ∃ QV, QV = V.sel (againL (max V.len 1) (min (max n 0) 1048576).toNat) := ⟨_, rfl⟩
  have HQV := Lib.hid hQV
  have HLN := Lib.hid (VV.ok_len hok)
  clear hu hT hok hn hb hW1 hQV
  have cHA0 := HA.out.2.1
  have cHR0 := HR.out.2.1
  go_enter Tryz.func37, Tryz.ntmps37
  go_wp2_with fail
  clear hfold
  refine (vlen_calls _ V _ HU.out).mono ?_
  rintro e W11 ⟨rfl, hB⟩
  clear cHA0 cHR0
  replace HA := Lib.hid (HA.out.below hB)
  replace HR := Lib.hid (HR.out.below hB)
  replace HB := Lib.hid (HB.out.trans (hB.mono HB.out.size))
  replace HW1 := Lib.hid (HW1.out.trans (hB.mono HW1.out.size))
  replace HU := Lib.hid (HU.out.grow hB)
  replace HT := Lib.hid (fun j hj => keep_below hB _ _ (HT.out j hj))
  clear hB
  have HNE := Lib.hid HW1.out.size
  obtain ⟨m, hm⟩ : ∃ m : Nat, (m : Int) = min (max n 0) 1048576 := ⟨(min (max n 0) 1048576).toNat, by omega⟩
  have HM := Lib.hid hm
  have HMM := Lib.hid (show m ≤ 1048576 by omega)
  obtain ⟨c, hc⟩ : ∃ c, c = max V.len 1 := ⟨_, rfl⟩
  have HC := Lib.hid hc
  have HCB := Lib.hid (show 0 < c ∧ c ≤ 1048576 by have := HLN.out; omega)
  obtain ⟨L, hL⟩ : ∃ L, L = againL (max V.len 1) (min (max n 0) 1048576).toNat := ⟨_, rfl⟩
  have HLE0 := Lib.hid hL
  have HLE := Lib.hid (show L = againL c m by rw [hL, hc, ← hm]; rfl)
  rw [← hL] at HQV
  have HLL := Lib.hid (show L.length = m by rw [HLE.out, againL_len])
  clear hL hm
  by_cases h0 : (V.len : Int) < 1
  · have HCV := Lib.hid (show (c : Int) = 1 by have := HC.out; omega)
    clear hc
    obtain ⟨W12, hWn⟩ : ∃ xw9, W11.alloc (.cells #[.int .i64 1] 3) = xw9 := ⟨_, rfl⟩
    have hB : Below W11.heap.size W11 W12 := by rw [← hWn]; exact below_new _ _
    have hNB : At1 W12 W11.heap.size (.int .i64 1) := by rw [← hWn]; exact At1.new _ _ _
    replace HA := Lib.hid (HA.out.below hB)
    replace HR := Lib.hid (HR.out.below hB)
    replace HB := Lib.hid (HB.out.trans (hB.mono HB.out.size))
    replace HW1 := Lib.hid (HW1.out.trans (hB.mono HW1.out.size))
    replace HU := Lib.hid (HU.out.grow hB)
    replace HT := Lib.hid (fun j hj => keep_below hB _ _ (HT.out j hj))
    have HNV := Lib.hid hNB
    clear hNB hB
    have cHA0 := HA.out.2.1
    have cHR0 := HR.out.2.1
    have cHNV0 := HNV.out.2.1
    go_wp2_with fail
    clear hWn
    skip
    obtain ⟨W13, hWD⟩ : ∃ xw9, W12.drew = xw9 := ⟨_, rfl⟩
    have hB : Below W12.heap.size W12 W13 := by rw [← hWD]; exact Below.drewN' (Below.refl _ _) 1
    clear cHA0 cHR0 cHNV0
    replace HA := Lib.hid (HA.out.below hB)
    replace HR := Lib.hid (HR.out.below hB)
    replace HB := Lib.hid (HB.out.trans (hB.mono HB.out.size))
    replace HW1 := Lib.hid (HW1.out.trans (hB.mono HW1.out.size))
    replace HU := Lib.hid (HU.out.grow hB)
    replace HT := Lib.hid (fun j hj => keep_below hB _ _ (HT.out j hj))
    replace HNV := Lib.hid (HNV.out.below hB)
    clear hB
    refine wp_region_held_drew (S := fun w' => w'.cell? ⟨w.heap.size, 0, none⟩ = some u ∧ w'.cell? ⟨W11.heap.size, 0, none⟩ = some (.int .i64 1)) (by kernel_rfl) (by rw [hWD]; exact ⟨HA.out.2.1, HNV.out.2.1⟩) (fun hHeld => ?_)
    rw [hWD] at hHeld ⊢
    clear hWD
    refine wpAnyH_take (i := 0) (v := ?_) rfl (by kernel_rfl) (by kernel_rfl) (by kernel_rfl) (fun _ _ _ h => h) (Or.inl ⟨by rfl, ?_⟩) (by assumption) ?_
    rotate_left
    · (intro w hSw; (try dsimp only at hSw); go_simp; try with_reducible rfl)
    simp only [Act.put, List.getElem_toArray, List.getElem_cons_zero, List.setIfInBounds_toArray, List.set_cons_zero, List.set_cons_succ]
    refine wpAnyH_take (i := 1) (v := ?_) rfl (by kernel_rfl) (by kernel_rfl) (by kernel_rfl) (fun _ _ _ h => h) (Or.inl ⟨by rfl, ?_⟩) (by assumption) ?_
    rotate_left
    · (intro w hSw; (try dsimp only at hSw); go_simp; try with_reducible rfl)
    simp only [Act.put, List.getElem_toArray, List.getElem_cons_succ, List.getElem_cons_zero, List.setIfInBounds_toArray, List.set_cons_zero, List.set_cons_succ]
    refine wpAnyH_take (i := 3) (v := ?_) rfl (by kernel_rfl) (by kernel_rfl) (by kernel_rfl) (fun _ _ _ h => h) (Or.inl ⟨by rfl, ?_⟩) (by assumption) ?_
    rotate_left
    · (intro w hSw; (try dsimp only at hSw); go_simp; try with_reducible rfl)
    simp only [Act.put, List.getElem_toArray, List.getElem_cons_succ, List.getElem_cons_zero, List.setIfInBounds_toArray, List.set_cons_zero, List.set_cons_succ]
    refine wpAnyH_ready (rs := [2]) (by kernel_rfl) (by simp) ?_
    refine AllReadyH.cons (o := _) rfl (fun K hK => ?_) ?_
    · clear hHeld
      go_simp
      refine (Calls.grow_same (fclamp_calls n 1048576 _)).mono ?_
      rintro e W14 ⟨rfl, hB⟩
      replace HA := Lib.hid (HA.out.below hB)
      replace HR := Lib.hid (HR.out.below hB)
      replace HB := Lib.hid (HB.out.trans (hB.mono HB.out.size))
      replace HW1 := Lib.hid (HW1.out.trans (hB.mono HW1.out.size))
      replace HU := Lib.hid (HU.out.grow hB)
      replace HT := Lib.hid (fun j hj => keep_below hB _ _ (HT.out j hj))
      replace HNV := Lib.hid (HNV.out.below hB)
      rw [← HM.out]
      clear hB
      refine hK.out _ _ ?_ (fun hHeld => ?_)
      · exact ⟨HA.out.2.1, HNV.out.2.1⟩
      clear hK K
      refine wpAnyH_ready (rs := [4]) (by kernel_rfl) (by simp) ?_
      refine AllReadyH.cons (o := _) rfl (fun K hK => ?_) ?_
      · clear hHeld
        go_simp
        refine ((placesAgain_calls W11.heap.size (c : Int) (fun i => (i : Int) % (c : Int)) m _ (by have := HMM.out; omega) (by rw [HCV.out]; exact HNV.out) (fun i w' hi hc => againR_calls _ _ _ _ hc (by have := HCB.out; omega) (by have := HCB.out; omega) (by omega) (by have := HMM.out; omega)))).mono ?_
        rintro e W15 ⟨vp, rfl, hvp, hB⟩
        replace HA := Lib.hid (HA.out.below hB)
        replace HR := Lib.hid (HR.out.below hB)
        replace HB := Lib.hid (HB.out.trans (hB.mono HB.out.size))
        replace HW1 := Lib.hid (HW1.out.trans (hB.mono HW1.out.size))
        replace HU := Lib.hid (HU.out.grow hB)
        replace HT := Lib.hid (fun j hj => keep_below hB _ _ (HT.out j hj))
        replace HNV := Lib.hid (HNV.out.below hB)
        have HVP := Lib.hid (show Slc W15 (fun _ => True) vp (L).length (ints (L)) by rw [HLE.out]; exact hvp.keep (Kept.refl _ _) (fun _ _ _ => trivial))
        obtain ⟨po, pc, rfl, _⟩ := HVP.out.opened
        clear hvp
        clear hB
        refine hK.out _ _ ?_ (fun hHeld => ?_)
        · exact ⟨HA.out.2.1, HNV.out.2.1⟩
        clear hK K
        refine wpAnyH_ready (rs := [5]) (by kernel_rfl) (by simp) ?_
        refine AllReadyH.cons (o := _) rfl (fun K hK => ?_) ?_
        · clear hHeld
          go_simp
          have HO := HW1.out.size
          refine (selected_calls _ V _ (L) _ HU.out HOK.out HN.out HBX.out HVP.out (by rw [HLL.out]; exact HMM.out) HT.out).mono ?_
          rintro e W16 ⟨uq, rfl, huq, hB⟩
          replace HA := Lib.hid (HA.out.below hB)
          replace HR := Lib.hid (HR.out.below hB)
          replace HB := Lib.hid (HB.out.trans (hB.mono HB.out.size))
          replace HW1 := Lib.hid (HW1.out.trans (hB.mono HW1.out.size))
          replace HU := Lib.hid (HU.out.grow hB)
          replace HT := Lib.hid (fun j hj => keep_below hB _ _ (HT.out j hj))
          replace HNV := Lib.hid (HNV.out.below hB)
          replace HVP := Lib.hid (HVP.out.below hB)
          have HQ := Lib.hid (show IsV W16 (fun b => (ok b ∧ b < w.heap.size) ∨ w.heap.size + 1 < b) uq QV by rw [HQV.out]; exact huq.wide (fun b _ h => by rcases h with h | h; exact Or.inl h.1; exact Or.inr (Nat.lt_of_lt_of_le (by have := HSZ.out; omega) h)))
          have hsq := huq.store
          clear huq HO
          clear hB
          refine hK.out _ _ ?_ (fun hHeld => ?_)
          · exact ⟨HA.out.2.1, HNV.out.2.1⟩
          clear hK K
          refine wpAnyH_ready (rs := [6]) (by kernel_rfl) (by simp) ?_
          refine AllReadyH.cons (o := _) rfl (fun K hK => ?_) ?_
          · clear hHeld
            have s0 := HR.out.2.1
            have t0 := HR.out.2.2 0
            go_simp
            clear s0 t0
            obtain ⟨W17, hWn⟩ : ∃ xw9, W16.setCell ⟨w.heap.size + 1, 0, none⟩ uq = xw9 := ⟨_, rfl⟩
            rw [hWn]
            replace HR := Lib.hid (show At1 W17 (w.heap.size + 1) uq by rw [← hWn]; exact At1.put1 HR.out _)
            replace HB := Lib.hid (show Below w.heap.size w W17 by rw [← hWn]; exact HB.out.setCell (Nat.le_succ _) _)
            replace HQ := Lib.hid (show IsV W17 (fun b => (ok b ∧ b < w.heap.size) ∨ w.heap.size + 1 < b) uq QV by rw [← hWn]; exact HQ.out.keep (Kept.setCell _ _ _ (by simp <;> (intros; omega))) (fun _ _ h => h))
            replace HA := Lib.hid (show At1 W17 (w.heap.size) u by rw [← hWn]; exact HA.out.grown (grown_setCell _ ⟨w.heap.size + 1, 0, none⟩ _) (by simp))
            replace HNV := Lib.hid (show At1 W17 (W11.heap.size) (.int .i64 1) by rw [← hWn]; exact HNV.out.grown (grown_setCell _ ⟨w.heap.size + 1, 0, none⟩ _) (by have := HNE.out; have := HSZ.out; simp; omega))
            clear hWn
            refine hK.out _ _ ?_ (fun hHeld => ?_)
            · exact ⟨HA.out.2.1, HNV.out.2.1⟩
            clear hK K
            refine wpAnyH_done (by kernel_rfl) ?_ _
            clear hHeld
            have cHA0 := HA.out.2.1
            have cHR0 := HR.out.2.1
            have cHNV0 := HNV.out.2.1
            go_wp2_with fail
            refine bodyPost_ret (v := .agg #[uq]) (by simp [results, Tryz.results37, go_sem, cHR0]) rfl ⟨_, rfl, ?_, HB.out⟩
            rw [← HLE0.out, ← HQV.out]
            exact HQ.out.wide (fun b _ (h : (ok b ∧ b < w.heap.size) ∨ w.heap.size + 1 < b) => h.imp id (fun h => by omega))
          exact AllReadyH.nil
        exact AllReadyH.nil
      exact AllReadyH.nil
    exact AllReadyH.nil
  · have HCV := Lib.hid (show (c : Int) = V.len by have := HC.out; omega)
    clear hc
    obtain ⟨W12, hWn⟩ : ∃ xw9, W11.alloc (.cells #[.int .i64 (V.len : Int)] 3) = xw9 := ⟨_, rfl⟩
    have hB : Below W11.heap.size W11 W12 := by rw [← hWn]; exact below_new _ _
    have hNB : At1 W12 W11.heap.size (.int .i64 (V.len : Int)) := by rw [← hWn]; exact At1.new _ _ _
    replace HA := Lib.hid (HA.out.below hB)
    replace HR := Lib.hid (HR.out.below hB)
    replace HB := Lib.hid (HB.out.trans (hB.mono HB.out.size))
    replace HW1 := Lib.hid (HW1.out.trans (hB.mono HW1.out.size))
    replace HU := Lib.hid (HU.out.grow hB)
    replace HT := Lib.hid (fun j hj => keep_below hB _ _ (HT.out j hj))
    have HNV := Lib.hid hNB
    clear hNB hB
    have cHA0 := HA.out.2.1
    have cHR0 := HR.out.2.1
    have cHNV0 := HNV.out.2.1
    go_wp2_with fail
    clear hWn
    skip
    obtain ⟨W13, hWD⟩ : ∃ xw9, W12.drew = xw9 := ⟨_, rfl⟩
    have hB : Below W12.heap.size W12 W13 := by rw [← hWD]; exact Below.drewN' (Below.refl _ _) 1
    clear cHA0 cHR0 cHNV0
    replace HA := Lib.hid (HA.out.below hB)
    replace HR := Lib.hid (HR.out.below hB)
    replace HB := Lib.hid (HB.out.trans (hB.mono HB.out.size))
    replace HW1 := Lib.hid (HW1.out.trans (hB.mono HW1.out.size))
    replace HU := Lib.hid (HU.out.grow hB)
    replace HT := Lib.hid (fun j hj => keep_below hB _ _ (HT.out j hj))
    replace HNV := Lib.hid (HNV.out.below hB)
    clear hB
    refine wp_region_held_drew (S := fun w' => w'.cell? ⟨w.heap.size, 0, none⟩ = some u ∧ w'.cell? ⟨W11.heap.size, 0, none⟩ = some (.int .i64 (V.len : Int))) (by kernel_rfl) (by rw [hWD]; exact ⟨HA.out.2.1, HNV.out.2.1⟩) (fun hHeld => ?_)
    rw [hWD] at hHeld ⊢
    clear hWD
    refine wpAnyH_take (i := 0) (v := ?_) rfl (by kernel_rfl) (by kernel_rfl) (by kernel_rfl) (fun _ _ _ h => h) (Or.inl ⟨by rfl, ?_⟩) (by assumption) ?_
    rotate_left
    · (intro w hSw; (try dsimp only at hSw); go_simp; try with_reducible rfl)
    simp only [Act.put, List.getElem_toArray, List.getElem_cons_zero, List.setIfInBounds_toArray, List.set_cons_zero, List.set_cons_succ]
    refine wpAnyH_take (i := 1) (v := ?_) rfl (by kernel_rfl) (by kernel_rfl) (by kernel_rfl) (fun _ _ _ h => h) (Or.inl ⟨by rfl, ?_⟩) (by assumption) ?_
    rotate_left
    · (intro w hSw; (try dsimp only at hSw); go_simp; try with_reducible rfl)
    simp only [Act.put, List.getElem_toArray, List.getElem_cons_succ, List.getElem_cons_zero, List.setIfInBounds_toArray, List.set_cons_zero, List.set_cons_succ]
    refine wpAnyH_take (i := 3) (v := ?_) rfl (by kernel_rfl) (by kernel_rfl) (by kernel_rfl) (fun _ _ _ h => h) (Or.inl ⟨by rfl, ?_⟩) (by assumption) ?_
    rotate_left
    · (intro w hSw; (try dsimp only at hSw); go_simp; try with_reducible rfl)
    simp only [Act.put, List.getElem_toArray, List.getElem_cons_succ, List.getElem_cons_zero, List.setIfInBounds_toArray, List.set_cons_zero, List.set_cons_succ]
    refine wpAnyH_ready (rs := [2]) (by kernel_rfl) (by simp) ?_
    refine AllReadyH.cons (o := _) rfl (fun K hK => ?_) ?_
    · clear hHeld
      go_simp
      refine (Calls.grow_same (fclamp_calls n 1048576 _)).mono ?_
      rintro e W14 ⟨rfl, hB⟩
      replace HA := Lib.hid (HA.out.below hB)
      replace HR := Lib.hid (HR.out.below hB)
      replace HB := Lib.hid (HB.out.trans (hB.mono HB.out.size))
      replace HW1 := Lib.hid (HW1.out.trans (hB.mono HW1.out.size))
      replace HU := Lib.hid (HU.out.grow hB)
      replace HT := Lib.hid (fun j hj => keep_below hB _ _ (HT.out j hj))
      replace HNV := Lib.hid (HNV.out.below hB)
      rw [← HM.out]
      clear hB
      refine hK.out _ _ ?_ (fun hHeld => ?_)
      · exact ⟨HA.out.2.1, HNV.out.2.1⟩
      clear hK K
      refine wpAnyH_ready (rs := [4]) (by kernel_rfl) (by simp) ?_
      refine AllReadyH.cons (o := _) rfl (fun K hK => ?_) ?_
      · clear hHeld
        go_simp
        refine ((placesAgain_calls W11.heap.size (c : Int) (fun i => (i : Int) % (c : Int)) m _ (by have := HMM.out; omega) (by rw [HCV.out]; exact HNV.out) (fun i w' hi hc => againR_calls _ _ _ _ hc (by have := HCB.out; omega) (by have := HCB.out; omega) (by omega) (by have := HMM.out; omega)))).mono ?_
        rintro e W15 ⟨vp, rfl, hvp, hB⟩
        replace HA := Lib.hid (HA.out.below hB)
        replace HR := Lib.hid (HR.out.below hB)
        replace HB := Lib.hid (HB.out.trans (hB.mono HB.out.size))
        replace HW1 := Lib.hid (HW1.out.trans (hB.mono HW1.out.size))
        replace HU := Lib.hid (HU.out.grow hB)
        replace HT := Lib.hid (fun j hj => keep_below hB _ _ (HT.out j hj))
        replace HNV := Lib.hid (HNV.out.below hB)
        have HVP := Lib.hid (show Slc W15 (fun _ => True) vp (L).length (ints (L)) by rw [HLE.out]; exact hvp.keep (Kept.refl _ _) (fun _ _ _ => trivial))
        obtain ⟨po, pc, rfl, _⟩ := HVP.out.opened
        clear hvp
        clear hB
        refine hK.out _ _ ?_ (fun hHeld => ?_)
        · exact ⟨HA.out.2.1, HNV.out.2.1⟩
        clear hK K
        refine wpAnyH_ready (rs := [5]) (by kernel_rfl) (by simp) ?_
        refine AllReadyH.cons (o := _) rfl (fun K hK => ?_) ?_
        · clear hHeld
          go_simp
          have HO := HW1.out.size
          refine (selected_calls _ V _ (L) _ HU.out HOK.out HN.out HBX.out HVP.out (by rw [HLL.out]; exact HMM.out) HT.out).mono ?_
          rintro e W16 ⟨uq, rfl, huq, hB⟩
          replace HA := Lib.hid (HA.out.below hB)
          replace HR := Lib.hid (HR.out.below hB)
          replace HB := Lib.hid (HB.out.trans (hB.mono HB.out.size))
          replace HW1 := Lib.hid (HW1.out.trans (hB.mono HW1.out.size))
          replace HU := Lib.hid (HU.out.grow hB)
          replace HT := Lib.hid (fun j hj => keep_below hB _ _ (HT.out j hj))
          replace HNV := Lib.hid (HNV.out.below hB)
          replace HVP := Lib.hid (HVP.out.below hB)
          have HQ := Lib.hid (show IsV W16 (fun b => (ok b ∧ b < w.heap.size) ∨ w.heap.size + 1 < b) uq QV by rw [HQV.out]; exact huq.wide (fun b _ h => by rcases h with h | h; exact Or.inl h.1; exact Or.inr (Nat.lt_of_lt_of_le (by have := HSZ.out; omega) h)))
          have hsq := huq.store
          clear huq HO
          clear hB
          refine hK.out _ _ ?_ (fun hHeld => ?_)
          · exact ⟨HA.out.2.1, HNV.out.2.1⟩
          clear hK K
          refine wpAnyH_ready (rs := [6]) (by kernel_rfl) (by simp) ?_
          refine AllReadyH.cons (o := _) rfl (fun K hK => ?_) ?_
          · clear hHeld
            have s0 := HR.out.2.1
            have t0 := HR.out.2.2 0
            go_simp
            clear s0 t0
            obtain ⟨W17, hWn⟩ : ∃ xw9, W16.setCell ⟨w.heap.size + 1, 0, none⟩ uq = xw9 := ⟨_, rfl⟩
            rw [hWn]
            replace HR := Lib.hid (show At1 W17 (w.heap.size + 1) uq by rw [← hWn]; exact At1.put1 HR.out _)
            replace HB := Lib.hid (show Below w.heap.size w W17 by rw [← hWn]; exact HB.out.setCell (Nat.le_succ _) _)
            replace HQ := Lib.hid (show IsV W17 (fun b => (ok b ∧ b < w.heap.size) ∨ w.heap.size + 1 < b) uq QV by rw [← hWn]; exact HQ.out.keep (Kept.setCell _ _ _ (by simp <;> (intros; omega))) (fun _ _ h => h))
            replace HA := Lib.hid (show At1 W17 (w.heap.size) u by rw [← hWn]; exact HA.out.grown (grown_setCell _ ⟨w.heap.size + 1, 0, none⟩ _) (by simp))
            replace HNV := Lib.hid (show At1 W17 (W11.heap.size) (.int .i64 (V.len : Int)) by rw [← hWn]; exact HNV.out.grown (grown_setCell _ ⟨w.heap.size + 1, 0, none⟩ _) (by have := HNE.out; have := HSZ.out; simp; omega))
            clear hWn
            refine hK.out _ _ ?_ (fun hHeld => ?_)
            · exact ⟨HA.out.2.1, HNV.out.2.1⟩
            clear hK K
            refine wpAnyH_done (by kernel_rfl) ?_ _
            clear hHeld
            have cHA0 := HA.out.2.1
            have cHR0 := HR.out.2.1
            have cHNV0 := HNV.out.2.1
            go_wp2_with fail
            refine bodyPost_ret (v := .agg #[uq]) (by simp [results, Tryz.results37, go_sem, cHR0]) rfl ⟨_, rfl, ?_, HB.out⟩
            rw [← HLE0.out, ← HQV.out]
            exact HQ.out.wide (fun b _ (h : (ok b ∧ b < w.heap.size) ∨ w.heap.size + 1 < b) => h.imp id (fun h => by omega))
          exact AllReadyH.nil
        exact AllReadyH.nil
      exact AllReadyH.nil
    exact AllReadyH.nil

/-- A number brought between 0 and another one. -/
def cl8 (a : Int) (n : Nat) : Nat := (min (max a 0) (n : Int)).toNat
noncomputable def VV.cut (V : VV) (a b : Int) : VV := if V.isBit = true then .bits ((V.packed.take (cl8 b V.len)).drop (cl8 a V.len)) else V.sel (cutL (cl8 a V.len) (cl8 b V.len - cl8 a V.len))

end Go.Proofs.YtbfcdpabjailcaaGreatDoor

/- Layer 8's law, its parts: List, good, shows. -/
namespace Go.Proofs.YtbfcdpabjailcaaGreatDoor
set_option maxRecDepth 100000
open Go.RowKit Fl
set_option linter.unusedVariables false

end Go.Proofs.YtbfcdpabjailcaaGreatDoor

/- slices.Grow, slices.Concat of lists of numbers, of characters and of booleans. -/
namespace Go.Proofs.YtbfcdpabjailcaaGreatDoor
set_option maxRecDepth 100000
open Go.RowKit
set_option linter.unusedVariables false

/-- v is a slice of slices, those of L. -/
def RowsG {α : Type} (f : α → Value) (w : World) (ok : Nat → Prop) (v : Value) (L : List (List α)) : Prop :=
  ∃ ao cap, v = .slice ao L.length cap ∧ ∀ i (h : i < L.length), ∃ b off u, ao = some ⟨b, off, none⟩ ∧ w.cell? ⟨b, off + i, none⟩ = some u ∧ Slc w ok u L[i].length (L[i].map f)
theorem RowsG.below {α : Type} {f : α → Value} {w w' : World} {ok : Nat → Prop} {v : Value} {L : List (List α)} (h : RowsG f w ok v L) (hb : Below w.heap.size w w') : RowsG f w' ok v L := by
  obtain ⟨ao, cap, rfl, hc⟩ := h
  refine ⟨ao, cap, rfl, fun i hi => ?_⟩
  obtain ⟨b, off, u, e, h1, h2⟩ := hc i hi
  exact ⟨b, off, u, e, keep_below hb _ _ h1, h2.below hb⟩
end Go.Proofs.YtbfcdpabjailcaaGreatDoor

/- Package flat, walked: Join's parts: withElements, firstClass, commonKind, fit. -/
namespace Go.Proofs.YtbfcdpabjailcaaGreatDoor
set_option maxRecDepth 100000
open Go.RowKit Fl
set_option linter.unusedVariables false

/-- v is a slice of vectors: their values and what they hold. -/
def VecsZ (w : World) (ok : Nat → Prop) (v : Value) (Z : List (Value × VV)) : Prop := Slc w ok v Z.length (Z.map Prod.fst) ∧ ∀ p ∈ Z, IsV w ok p.1 p.2
theorem VecsZ.keep {w w' : World} {ok ok' : Nat → Prop} {v : Value} {Z : List (Value × VV)} (hk : Kept ok w w') (hm : ∀ b, b < w.heap.size → ok b → ok' b) (h : VecsZ w ok v Z) : VecsZ w' ok' v Z := ⟨h.1.keep hk hm, fun p hp => (h.2 p hp).keep hk hm⟩
theorem VecsZ.go {w w' : World} {ok : Nat → Prop} {v : Value} {Z : List (Value × VV)} (h : VecsZ w ok v Z) (hB : Below w.heap.size w w') : Hid (VecsZ w' ok v Z) := Lib.hid (h.keep (Kept.below hB) (fun _ _ h => h))
theorem IsV.one {w : World} {ok : Nat → Prop} {u : Value} {V : VV} (h : IsV w ok u V) : u.oneCell' = true := by
  rcases h.shape with rfl | ⟨t, x, rfl⟩ <;> rfl
theorem VecsZ.at {w : World} {ok : Nat → Prop} {ao : Option Addr} {n cap : Nat} {Z : List (Value × VV)} (h : VecsZ w ok (.slice ao n cap) Z) {k : Nat} (hk : k < Z.length) :
    ∃ b off p, ao = some ⟨b, off, none⟩ ∧ Z[k]? = some p ∧ w.cell? ⟨b, off + k, none⟩ = some p.1 ∧ IsV w ok p.1 p.2 := by
  obtain ⟨ao', cap', e, _, _, _, hc⟩ := h.1.opened
  cases e
  obtain ⟨b, off, e, _, hcell⟩ := hc k (by simpa using hk)
  refine ⟨b, off, Z[k], e, List.getElem?_eq_getElem hk, by simpa using hcell, h.2 _ (List.getElem_mem hk)⟩
end Go.Proofs.YtbfcdpabjailcaaGreatDoor

/- Package flat, walked: Join's parts: firstClass, commonKind, fit. -/
namespace Go.Proofs.YtbfcdpabjailcaaGreatDoor
set_option maxRecDepth 100000
open Go.RowKit Fl
set_option linter.unusedVariables false

end Go.Proofs.YtbfcdpabjailcaaGreatDoor

/- Package flat, walked: flags, joined. -/
namespace Go.Proofs.YtbfcdpabjailcaaGreatDoor
set_option maxRecDepth 100000
open Go.RowKit Fl
set_option linter.unusedVariables false

end Go.Proofs.YtbfcdpabjailcaaGreatDoor

/- slices.Grow, slices.Concat of lists of arrays. -/
namespace Go.Proofs.YtbfcdpabjailcaaGreatDoor
set_option maxRecDepth 100000
open Go.RowKit Fl
set_option linter.unusedVariables false

def flatP (P : List (Value × Value)) : List Value := P.flatMap fun p => [p.1, p.2]
theorem flatP_len (P : List (Value × Value)) : (flatP P).length = P.length * 2 := by
  induction P with
  | nil => rfl
  | cons t L ih => simp only [flatP, List.flatMap_cons, List.length_append] at ih ⊢; rw [ih]; simp; omega
theorem flatP_at {P : List (Value × Value)} {i : Nat} {p : Value × Value} (h : P[i]? = some p) : (flatP P)[i * 2]? = some p.1 ∧ (flatP P)[i * 2 + 1]? = some p.2 := by
  obtain ⟨hk, e⟩ := List.getElem?_eq_some_iff.1 h
  have hl : P = P.take i ++ ([p] ++ P.drop (i + 1)) := by rw [← e]; simp
  have hlen : (flatP (P.take i)).length = i * 2 := by rw [flatP_len, List.length_take]; omega
  have hf : flatP P = flatP (P.take i) ++ ([p.1, p.2] ++ flatP (P.drop (i + 1))) := by
    conv => lhs; rw [hl]
    simp [flatP]
  rw [hf]
  exact ⟨by rw [List.getElem?_append_right (by omega), hlen]; simp, by rw [List.getElem?_append_right (by omega), hlen, Nat.add_sub_cancel_left]; rfl⟩
theorem flatP_get {P : List (Value × Value)} {j : Nat} {u : Value} (h : (flatP P)[j]? = some u) : ∃ p, P[j / 2]? = some p ∧ u = if j % 2 = 0 then p.1 else p.2 := by
  have hj := (List.getElem?_eq_some_iff.1 h).1
  rw [flatP_len] at hj
  have hk : j / 2 < P.length := by omega
  refine ⟨P[j / 2], List.getElem?_eq_getElem hk, ?_⟩
  obtain ⟨h0, h1⟩ := flatP_at (List.getElem?_eq_getElem hk)
  by_cases e : j % 2 = 0
  · rw [if_pos e]
    rw [show j / 2 * 2 = j by omega, h] at h0
    exact Option.some.inj h0
  · rw [if_neg e]
    rw [show j / 2 * 2 + 1 = j by omega, h] at h1
    exact Option.some.inj h1
/-- P are the cells of the arrays l. -/
def PairsOK (w : World) (ok : Nat → Prop) (P : List (Value × Value)) (l : List (List Int × VV)) : Prop :=
  P.length = l.length ∧ ∀ (i : Nat) p q, P[i]? = some p → l[i]? = some q → IsArr w ok p.1 p.2 q
/-- The cells of a slice of arrays that is not empty. -/
theorem Arrs.cells {w : World} {ok : Nat → Prop} {v : Value} {l : List (List Int × VV)} (h : Arrs w ok v l) (hl : 0 < l.length) :
    ∃ ad cap P, v = .slice (some ad) l.length cap ∧ PairsOK w ok P l ∧ (flatP P).length = l.length * 2 ∧ (∀ j u, (flatP P)[j]? = some u → w.cell? (ad.add j) = some u) ∧ (∀ u ∈ flatP P, u.oneCell' = true) := by
  obtain ⟨ao, cap, f, g, rfl, h1, h2, hc, hs, hv⟩ := h
  obtain ⟨b, off, rfl, _, _, _⟩ := hc 0 hl
  have hok : PairsOK w ok ((List.range l.length).map fun i => (f i, g i)) l := by
    refine ⟨by simp, fun i p q hp hq => ?_⟩
    obtain ⟨hi, e⟩ := List.getElem?_eq_some_iff.1 hq
    rw [List.getElem?_map, List.getElem?_range hi] at hp
    obtain rfl := Option.some.inj hp
    rw [← e]
    exact ⟨hs i hi, hv i hi⟩
  have hsome : ∀ j u, (flatP ((List.range l.length).map fun i => (f i, g i)))[j]? = some u → ∃ i, i < l.length ∧ i = j / 2 ∧ u = if j % 2 = 0 then f i else g i := by
    intro j u hu
    obtain ⟨p, hp, e⟩ := flatP_get hu
    have hi := (List.getElem?_eq_some_iff.1 hp).1
    have hi : j / 2 < l.length := by simpa using hi
    rw [List.getElem?_map, List.getElem?_range hi] at hp
    obtain rfl := Option.some.inj hp
    exact ⟨j / 2, hi, rfl, e⟩
  refine ⟨⟨b, off, none⟩, cap, _, rfl, hok, by rw [flatP_len]; simp, fun j u hu => ?_, fun u hu => ?_⟩
  · obtain ⟨i, hi, e, rfl⟩ := hsome j u hu
    obtain ⟨b', off', e2, _, c0, c1⟩ := hc i hi
    cases e2
    rw [Go.WideShapes.add_plain]
    by_cases hj : j % 2 = 0
    · rw [if_pos hj, show off + j = off + i * 2 by omega]; exact c0
    · rw [if_neg hj, show off + j = off + i * 2 + 1 by omega]; exact c1
  · obtain ⟨j, hj⟩ := List.getElem?_of_mem hu
    obtain ⟨i, hi, e, rfl⟩ := hsome j u hj
    by_cases hj : j % 2 = 0
    · rw [if_pos hj]; obtain ⟨o, c, e, _⟩ := (hs i hi).opened; rw [e]; rfl
    · rw [if_neg hj]; exact (hv i hi).one
def RowsA (w : World) (ok : Nat → Prop) (v : Value) (L : List (List (List Int × VV))) : Prop :=
  ∃ ao cap, v = .slice ao L.length cap ∧ ∀ i (h : i < L.length), ∃ b off u, ao = some ⟨b, off, none⟩ ∧ w.cell? ⟨b, off + i, none⟩ = some u ∧ Arrs w ok u L[i]
theorem RowsA.keep {w w' : World} {ok ok' : Nat → Prop} {v : Value} {L : List (List (List Int × VV))} (hb : Below w.heap.size w w') (hm : ∀ b, b < w.heap.size → ok b → ok' b) (h : RowsA w ok v L) : RowsA w' ok' v L := by
  obtain ⟨ao, cap, rfl, hc⟩ := h
  refine ⟨ao, cap, rfl, fun i hi => ?_⟩
  obtain ⟨b, off, u, e, h1, h2⟩ := hc i hi
  exact ⟨b, off, u, e, keep_below hb _ _ h1, h2.keep (Kept.below hb) hm⟩

end Go.Proofs.YtbfcdpabjailcaaGreatDoor

/- Package flat, walked: joined, of arrays. -/
namespace Go.Proofs.YtbfcdpabjailcaaGreatDoor
set_option maxRecDepth 100000
open Go.RowKit Fl
set_option linter.unusedVariables false

end Go.Proofs.YtbfcdpabjailcaaGreatDoor

/- Package flat, walked: Join. -/
namespace Go.Proofs.YtbfcdpabjailcaaGreatDoor
set_option maxRecDepth 100000
open Go.RowKit Fl
set_option linter.unusedVariables false

end Go.Proofs.YtbfcdpabjailcaaGreatDoor

/- The reference of layer 8: Again, Turn. -/
namespace Go.Proofs.YtbfcdpabjailcaaGreatDoor
set_option maxRecDepth 100000
open Go.RowKit Fl
set_option linter.unusedVariables false

end Go.Proofs.YtbfcdpabjailcaaGreatDoor

/- What flat's functions make, as items: plain. -/
namespace Go.Proofs.YtbfcdpabjailcaaGreatDoor
set_option maxRecDepth 100000
open Go.RowKit Fl
set_option linter.unusedVariables false

end Go.Proofs.YtbfcdpabjailcaaGreatDoor

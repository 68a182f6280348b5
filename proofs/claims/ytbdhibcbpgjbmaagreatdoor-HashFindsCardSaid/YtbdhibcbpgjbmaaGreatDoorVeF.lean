/- Slices made and filled; package vec, walked: Floats, flags, converted. -/
import Derived.Test.YtbdhibcbpgjbmaaGreatDoorVeE
import Derived.Test.YtbdhibcbpgjbmaaGreatDoorBvO
namespace Go.Proofs.YtbdhibcbpgjbmaaGreatDoor
open Go.RowKit
set_option linter.unusedVariables false
set_option maxRecDepth 100000

theorem run_store_float (w : World) (a : Addr) (k : FloatKind) (n : Nat) (m : Mode) : (store a (.float k n) m).run Tryz.prog w = stored Tryz.prog w a (.float k n) m := run_store Tryz.prog w a _ m rfl
/-- n cells z. -/
def zerosV (z : Value) (n : Nat) : Array Value := madeCells #[z] (n * 1)
theorem own_make1 (z : Value) (e : TypeId) (n : Nat) (hn : n ≤ 2000000) (w : World) (base : Nat) (hb : base ≤ w.heap.size) : (w.alloc (.cells (zerosV z n) e)).ownsRow base e 1 (.slice (some ⟨w.heap.size, 0, none⟩) n n) n (List.replicate n z) := by
 have ho := World.ownsRow_lit (e := e) (size := 1) w (zerosV z n) n hb (by unfold maxLen; omega) (size_madeCells _ _)
 have e : (zerosV z n).toList = List.replicate n z := by rw [zerosV, toList_madeCells_one]; simp
 rw [← e]; exact ho
/-- The first k of xs, z behind. -/
def fillTo (xs : List Value) (z : Value) (k : Nat) : List Value := xs.take k ++ List.replicate (xs.length - k) z
theorem fillTo_zero (xs : List Value) (z : Value) : fillTo xs z 0 = List.replicate xs.length z := by simp [fillTo]
theorem fillTo_all (xs : List Value) (z : Value) : fillTo xs z xs.length = xs := by simp [fillTo]
theorem fillTo_len (xs : List Value) (z : Value) (k : Nat) (h : k ≤ xs.length) : (fillTo xs z k).length = xs.length := by simp [fillTo]; omega
theorem fillTo_set (xs : List Value) (z : Value) (k : Nat) (h : k < xs.length) : (fillTo xs z k).set k xs[k] = fillTo xs z (k + 1) := by
 have e : xs.length - k = (xs.length - (k + 1)) + 1 := by omega
 have ht : (xs.take k).length = k := by simp; omega
 unfold fillTo
 rw [List.set_append_right _ _ (by omega), ht, Nat.sub_self, e, List.replicate_succ, List.set_cons_zero, List.take_succ_eq_append_getElem h, List.append_assoc]
 rfl
theorem run_mkF1 (n : Nat) (hn : n ≤ 2000000) (w : World) : (Instr.makeSlice 52 (.int .i64 (n : Int)) (.int .i64 (n : Int))).run Tryz.prog w = .ok (.slice (some ⟨w.heap.size, 0, none⟩) n n) (w.alloc (.cells (zerosV (.float .f64 0) n) 31)) := by
 obtain ⟨i0, hi, hz0, hz1, hz2⟩ := info_parts info_f64
 have hr := run_make (P := Tryz.prog) w 52 31 i0 _ Tryz.underlying52 hi hz0 .i64 .i64 n n (by omega) (Int.le_refl _) (by rw [hz2]; omega) (by omega)
 simp only [Int.toNat_natCast, hz1] at hr
 exact hr
theorem run_mkI1 (n : Nat) (hn : n ≤ 2000000) (w : World) : (Instr.makeSlice 89 (.int .i64 (n : Int)) (.int .i64 (n : Int))).run Tryz.prog w = .ok (.slice (some ⟨w.heap.size, 0, none⟩) n n) (w.alloc (.cells (zerosV (.int .i64 0) n) 2)) := by
 obtain ⟨i0, hi, hz0, hz1, hz2⟩ := info_parts info_i64
 have hr := run_make (P := Tryz.prog) w 89 2 i0 _ Tryz.underlying89 hi hz0 .i64 .i64 n n (by omega) (Int.le_refl _) (by rw [hz2]; omega) (by omega)
 simp only [Int.toNat_natCast, hz1] at hr
 exact hr

set_option maxHeartbeats 1000000 in
theorem ConvFI8_calls {ok : Nat → Prop} (v : Value) (l : List Int) (w : World) (hv : Slc w ok v l.length (i8s l)) (hm : l.length ≤ 2000000) :
  Calls Tryz.prog 84 #[v] w fun e w' => ∃ v, e = .returned v ∧ Slc w' (fun b => w.heap.size ≤ b) v l.length (f64s (l.map (floatOfInt .f64))) ∧ Below w.heap.size w w' := by
 obtain ⟨ao, cap, rfl, _, _, _, hc⟩ := hv.opened
 have HC := Lib.hid hc; clear hv hc
 have hcv : ∀ n w, (convert 87 31 (.int .i8 n)).run Tryz.prog w = .ok (.float .f64 (floatOfInt .f64 n)) w := fun n w => run_convert_int_float w 87 31 .i8 .f64 n (by kernel_rfl) (by kernel_rfl)
 have hst := run_store_float
 obtain ⟨xs, hxs⟩ : ∃ xs : List Value, xs = (f64s (l.map (floatOfInt .f64))) := ⟨_, rfl⟩
 have hxl : xs.length = l.length := by rw [hxs]; simp [f64s]
 have hget : ∀ k (h : k < xs.length) (h2 : k < l.length), ∃ x : Int, x = l[k]'h2 ∧ xs[k]'h = .float .f64 (floatOfInt .f64 x) := by intro k h h2; refine ⟨_, rfl, ?_⟩; simp [hxs, f64s]
 rw [← hxs]
 have HX := Lib.hid hget; have HXL := Lib.hid hxl
 have hmk := run_mkF1 l.length (by omega) w
 clear hxs hget hxl
 obtain ⟨W0, hW0⟩ : ∃ W0, W0 = w.alloc (.cells (zerosV (.float .f64 0) l.length) 31) := ⟨_, rfl⟩
 have HO0 : Hid (W0.ownsRow w.heap.size 31 1 (.slice (some ⟨w.heap.size, 0, none⟩) l.length l.length) l.length (List.replicate l.length (.float .f64 0))) := Lib.hid (by rw [hW0]; exact own_make1 _ _ _ (by omega) _ _ (Nat.le_refl _))
 have HW := Lib.hid (show Below w.heap.size w W0 by rw [hW0]; exact below_new _ _)
 go_enter Tryz.func84, Tryz.ntmps84
 go_wp2
 rw [← hW0]
 clear hW0 hmk
 go_loopw [11] (fun i wr => ∃ k : Nat, k ≤ l.length ∧ i = .int .i64 k ∧ wr.ownsRow w.heap.size 31 1 (.slice (some ⟨w.heap.size, 0, none⟩) l.length l.length) l.length (fillTo xs (.float .f64 0) k) ∧ W0.grownBy wr (some w.heap.size)) (fun i _ => l.length - (intOf i).toNat)
 case atStart => exact ⟨0, by omega, rfl, by rw [fillTo_zero, HXL.out]; exact HO0.out, grown_refl _ _⟩
 case round =>
  obtain ⟨k, hk, rfl, hown, hgr⟩ := hrel
  have HO := Lib.hid hown; have HG := Lib.hid hgr
  have HB := Lib.hid (HW.out.grown hgr HW.out.size (fun j hj => by cases hj; omega))
  by_cases hlt : k < l.length
  ·obtain ⟨b, off, rfl, _, hcl0⟩ := HC.out k (by rw [i8s_len]; exact hlt)
   have hcl := keep_below HB.out _ _ hcl0
   rw [i8s_get] at hcl
   obtain ⟨x, hx, hxk⟩ := HX.out k (by rw [HXL.out]; exact hlt) hlt
   have hcw := owns_cell HO.out k (by rw [fillTo_len _ _ _ (by rw [HXL.out]; exact hk), HXL.out]; exact hlt)
   have hfr := World.ownsRow.frozenAt HO.out k
   rw [← hx] at hcl
   have HXK := Lib.hid hxk; clear hown hgr hcl0 hx hxk
   go_wp2
   go_roundw
   case rel =>
    refine ⟨k + 1, by omega, by go_num, ?_, grown_trans HG.out (grown_setCell _ ⟨w.heap.size, k, none⟩ _)⟩
    have := (World.ownsRow.stored HO.out k (.float .f64 (floatOfInt .f64 x))).1
    rw [← HXK.out, fillTo_set] at this
    rw [← HXK.out]
    exact this
   case measure => simp [intOf]; omega
  ·have hkl : k = l.length := by omega
   have HK := Lib.hid hkl; clear hown hgr hkl
   go_wp2
   go_ret
   refine ⟨_, rfl, ?_, HB.out⟩
   have := Slc.owned HO.out
   rwa [HK.out, ← HXL.out, fillTo_all, HXL.out] at this

set_option maxHeartbeats 1000000 in
theorem ConvFI_calls {ok : Nat → Prop} (v : Value) (l : List Int) (w : World) (hv : Slc w ok v l.length (ints l)) (hm : l.length ≤ 2000000) :
  Calls Tryz.prog 85 #[v] w fun e w' => ∃ v, e = .returned v ∧ Slc w' (fun b => w.heap.size ≤ b) v l.length (f64s (l.map (floatOfInt .f64))) ∧ Below w.heap.size w w' := by
 obtain ⟨ao, cap, rfl, _, _, _, hc⟩ := hv.opened
 have HC := Lib.hid hc; clear hv hc
 have hcv : ∀ n w, (convert 2 31 (.int .i64 n)).run Tryz.prog w = .ok (.float .f64 (floatOfInt .f64 n)) w := fun n w => run_convert_int_float w 2 31 .i64 .f64 n (by kernel_rfl) (by kernel_rfl)
 have hst := run_store_float
 obtain ⟨xs, hxs⟩ : ∃ xs : List Value, xs = (f64s (l.map (floatOfInt .f64))) := ⟨_, rfl⟩
 have hxl : xs.length = l.length := by rw [hxs]; simp [f64s]
 have hget : ∀ k (h : k < xs.length) (h2 : k < l.length), ∃ x : Int, x = l[k]'h2 ∧ xs[k]'h = .float .f64 (floatOfInt .f64 x) := by intro k h h2; refine ⟨_, rfl, ?_⟩; simp [hxs, f64s]
 rw [← hxs]
 have HX := Lib.hid hget; have HXL := Lib.hid hxl
 have hmk := run_mkF1 l.length (by omega) w
 clear hxs hget hxl
 obtain ⟨W0, hW0⟩ : ∃ W0, W0 = w.alloc (.cells (zerosV (.float .f64 0) l.length) 31) := ⟨_, rfl⟩
 have HO0 : Hid (W0.ownsRow w.heap.size 31 1 (.slice (some ⟨w.heap.size, 0, none⟩) l.length l.length) l.length (List.replicate l.length (.float .f64 0))) := Lib.hid (by rw [hW0]; exact own_make1 _ _ _ (by omega) _ _ (Nat.le_refl _))
 have HW := Lib.hid (show Below w.heap.size w W0 by rw [hW0]; exact below_new _ _)
 go_enter Tryz.func85, Tryz.ntmps85
 go_wp2
 rw [← hW0]
 clear hW0 hmk
 go_loopw [11] (fun i wr => ∃ k : Nat, k ≤ l.length ∧ i = .int .i64 k ∧ wr.ownsRow w.heap.size 31 1 (.slice (some ⟨w.heap.size, 0, none⟩) l.length l.length) l.length (fillTo xs (.float .f64 0) k) ∧ W0.grownBy wr (some w.heap.size)) (fun i _ => l.length - (intOf i).toNat)
 case atStart => exact ⟨0, by omega, rfl, by rw [fillTo_zero, HXL.out]; exact HO0.out, grown_refl _ _⟩
 case round =>
  obtain ⟨k, hk, rfl, hown, hgr⟩ := hrel
  have HO := Lib.hid hown; have HG := Lib.hid hgr
  have HB := Lib.hid (HW.out.grown hgr HW.out.size (fun j hj => by cases hj; omega))
  by_cases hlt : k < l.length
  ·obtain ⟨b, off, rfl, _, hcl0⟩ := HC.out k (by rw [ints_len]; exact hlt)
   have hcl := keep_below HB.out _ _ hcl0
   rw [ints_get] at hcl
   obtain ⟨x, hx, hxk⟩ := HX.out k (by rw [HXL.out]; exact hlt) hlt
   have hcw := owns_cell HO.out k (by rw [fillTo_len _ _ _ (by rw [HXL.out]; exact hk), HXL.out]; exact hlt)
   have hfr := World.ownsRow.frozenAt HO.out k
   rw [← hx] at hcl
   have HXK := Lib.hid hxk; clear hown hgr hcl0 hx hxk
   go_wp2
   go_roundw
   case rel =>
    refine ⟨k + 1, by omega, by go_num, ?_, grown_trans HG.out (grown_setCell _ ⟨w.heap.size, k, none⟩ _)⟩
    have := (World.ownsRow.stored HO.out k (.float .f64 (floatOfInt .f64 x))).1
    rw [← HXK.out, fillTo_set] at this
    rw [← HXK.out]
    exact this
   case measure => simp [intOf]; omega
  ·have hkl : k = l.length := by omega
   have HK := Lib.hid hkl; clear hown hgr hkl
   go_wp2
   go_ret
   refine ⟨_, rfl, ?_, HB.out⟩
   have := Slc.owned HO.out
   rwa [HK.out, ← HXL.out, fillTo_all, HXL.out] at this
end Go.Proofs.YtbdhibcbpgjbmaaGreatDoor

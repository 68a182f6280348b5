/- Package flat, walked: places. -/
import Derived.Test.YtbdhibcbpgjbmaaGreatDoorFlE
namespace Go.Proofs.YtbdhibcbpgjbmaaGreatDoor
set_option maxRecDepth 100000
open Go.RowKit Fl
set_option linter.unusedVariables false

theorem info_int2 : (Tryz.prog.info? 3).map (fun i => (i.zero, i.size, i.bytes)) = some (some (.int .i64 0), 1, 8) := by kernel_rfl
theorem run_mkI2 (n : Nat) (hn : n ≤ 2000000) (w : World) : (Instr.makeSlice 22 (.int .i64 (n : Int)) (.int .i64 (n : Int))).run Tryz.prog w = .ok (.slice (some ⟨w.heap.size, 0, none⟩) n n) (w.alloc (.cells (zerosV (.int .i64 0) n) 3)) := by
 obtain ⟨i0, hi, hz0, hz1, hz2⟩ := info_parts info_int2
 have hr := run_make (P := Tryz.prog) w 22 3 i0 _ Tryz.underlying22 hi hz0 .i64 .i64 n n (by omega) (Int.le_refl _) (by rw [hz2]; omega) (by omega)
 simp only [Int.toNat_natCast, hz1] at hr
 exact hr


set_option maxHeartbeats 4000000 in
/-- n places, by a rule that tells each of them out of one variable. -/
theorem placesCut_calls (b : Nat) (x : Int) (F : Nat → Int) (n : Nat) (w : World) (hn : n ≤ 2000000) (hx : At1 w b (.int .i64 x))
  (hR : ∀ (i : Nat) (w' : World), i < n → w'.cell? ⟨b, 0, none⟩ = some (.int .i64 x) → Calls Tryz.prog 108 #[.int .i64 (i : Int), .pointer (some ⟨b, 0, none⟩)] w' (fun e w'' => e = .returned (.int .i64 (F i)) ∧ w' = w'')) :
  Calls Tryz.prog 107 #[.int .i64 (n : Int), .func (.func 108) #[] #[.pointer (some ⟨b, 0, none⟩)]] w fun e w' => ∃ v, e = .returned v ∧ Slc w' (fun b => w.heap.size ≤ b) v ((List.range n).map F).length (ints ((List.range n).map F)) ∧ Below w.heap.size w w' := by
 have HRR := Lib.hid hR
 obtain ⟨xs, hxs⟩ : ∃ xs : List Value, xs = ints ((List.range n).map F) := ⟨_, rfl⟩
 have hxl : xs.length = n := by rw [hxs]; simp [ints]
 have hget : ∀ k (h : k < xs.length), xs[k]'h = .int .i64 (F k) := by intro k h; simp [hxs, ints]
 rw [← hxs, show ((List.range n).map F).length = n by simp]
 have HX := Lib.hid hget; have HXL := Lib.hid hxl; have HXC := Lib.hid hx
 have hmk := run_mkI2 n (by omega) w
 clear hxs hget hxl hR hx
 obtain ⟨W0, hW0⟩ : ∃ W0, W0 = w.alloc (.cells (zerosV (.int .i64 0) n) 3) := ⟨_, rfl⟩
 have HO0 : Hid (W0.ownsRow w.heap.size 3 1 (.slice (some ⟨w.heap.size, 0, none⟩) n n) n (List.replicate n (.int .i64 0))) := Lib.hid (by rw [hW0]; exact own_make1 _ _ _ (by omega) _ _ (Nat.le_refl _))
 have HW := Lib.hid (show Below w.heap.size w W0 by rw [hW0]; exact below_new _ _)
 go_enter Tryz.func107, Tryz.ntmps107
 go_wp2_with fail
 rw [← hW0]
 clear hW0 hmk
 go_loopw [11] (fun i wr => ∃ k : Nat, k ≤ n ∧ i = .int .i64 k ∧ wr.ownsRow w.heap.size 3 1 (.slice (some ⟨w.heap.size, 0, none⟩) n n) n (fillTo xs (.int .i64 0) k) ∧ W0.grownBy wr (some w.heap.size)) (fun i _ => n - (intOf i).toNat)
 case atStart => exact ⟨0, by omega, rfl, by rw [fillTo_zero, HXL.out]; exact HO0.out, grown_refl _ _⟩
 case round =>
  obtain ⟨k, hk, rfl, hown, hgr⟩ := hrel
  have HO := Lib.hid hown; have HG := Lib.hid hgr
  have HB := Lib.hid (HW.out.grown hgr HW.out.size (fun j hj => by cases hj; omega))
  by_cases hlt : k < n
  ·have hcw := owns_cell HO.out k (by rw [fillTo_len _ _ _ (by rw [HXL.out]; exact hk), HXL.out]; exact hlt)
   have hfr := World.ownsRow.frozenAt HO.out k
   have HXK := Lib.hid (HX.out k (by rw [HXL.out]; exact hlt))
   have HC := Lib.hid (HXC.out.below HB.out).2.1
   clear hown hgr
   go_wp2_with fail
   refine (HRR.out k _ hlt HC.out).mono ?_
   rintro e w2 ⟨rfl, rfl⟩
   go_wp2
   go_roundw
   case rel =>
    refine ⟨k + 1, by omega, by go_num, ?_, grown_trans HG.out (grown_setCell _ ⟨w.heap.size, k, none⟩ _)⟩
    have := (World.ownsRow.stored HO.out k (.int .i64 (F k))).1
    rw [← HXK.out, fillTo_set] at this
    rw [← HXK.out]
    exact this
   case measure => simp [intOf]; omega
  ·have hkl : k = n := by omega
   have HK := Lib.hid hkl; clear hown hgr hkl
   go_wp2
   go_ret
   refine ⟨_, rfl, ?_, HB.out⟩
   have := Slc.owned HO.out
   rwa [HK.out, ← HXL.out, fillTo_all, HXL.out] at this

end Go.Proofs.YtbdhibcbpgjbmaaGreatDoor

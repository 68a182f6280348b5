/- Package squeeze, walked: numeric, Common, leastOf, packed, whole. -/
import Derived.Test.YtbdhibcbpgjbmaaGreatDoorSqA
import Derived.Test.YtbdhibcbpgjbmaaGreatDoorBvP
import Derived.Test.YtbdhibcbpgjbmaaGreatDoorBvD
namespace Go.Proofs.YtbdhibcbpgjbmaaGreatDoor
open Go.RowKit Fl
set_option linter.unusedVariables false
set_option maxRecDepth 100000

theorem numeric_calls (k : Int) (w : World) : Calls Tryz.prog 44 #[.int .i64 k] w fun e w' => e = .returned (.bool (decide (1 ≤ k ∧ k ≤ 4))) ∧ w = w' := by
 by_cases h1 : (1 : Int) ≤ k
 ·by_cases h2 : k ≤ (4 : Int)
  ·have HD := Lib.hid (decide_eq_true (show 1 ≤ k ∧ k ≤ 4 from ⟨h1, h2⟩))
   go_enter Tryz.func44, Tryz.ntmps44
   go_wp2
   go_ret
   exact ⟨ret_b (by first | rfl | (rw [HD.out]; done) | (rw [HD.out]; rfl) | (simp; omega)), rfl⟩
  ·have HD := Lib.hid (decide_eq_false (show ¬ (1 ≤ k ∧ k ≤ 4) from fun h => h2 h.2))
   go_enter Tryz.func44, Tryz.ntmps44
   go_wp2
   go_ret
   exact ⟨ret_b (by first | (simp; omega) | (simp; done) | (rw [HD.out]; rfl)), rfl⟩
 ·have HD := Lib.hid (decide_eq_false (show ¬ (1 ≤ k ∧ k ≤ 4) from fun h => h1 h.1))
  go_enter Tryz.func44, Tryz.ntmps44
  go_wp2
  go_ret
  exact ⟨ret_b (by first | (simp; omega) | (simp; done) | (rw [HD.out]; rfl)), rfl⟩
/-- The least kind that holds what two kinds hold. -/
def commonK (a b : Int) : Int := if a = b then a else if (1 ≤ a ∧ a ≤ 4) ∧ (1 ≤ b ∧ b ≤ 4) then max a b else 0
theorem kind_one {x : Nat} (h : Num x) (h1 : V x = 0 ∨ V x = pw 1074) : kindW x = 1 := by
 have hp := pw_pos 1074
 rcases h1 with h1 | h1
 ·rw [kindW_wh (x := x) (n := 0) ⟨h.1, by decide, by rw [h1]; simp⟩]; rfl
 ·rw [kindW_wh (x := x) (n := 1) ⟨h.1, by decide, by rw [h1]; simp⟩]; rfl
theorem kind_one' {x : Nat} (h : Num x) (h1 : kindW x = 1) : V x = 0 ∨ V x = pw 1074 := by
 obtain ⟨n, hn, e⟩ := kindW_lt (x := x) (by omega)
 rw [h1] at e
 have : n = 0 ∨ n = 1 := by unfold kindZ at e; split at e; assumption; split at e <;> omega
 have hv := hn.2.2
 rcases this with rfl | rfl
 ·left; rw [hv]; simp
 ·right; rw [hv]; simp
theorem ntruth_yes (x : Nat) (w : World) (h : Num x) (h1 : kindW x = 1) : Calls Tryz.prog 81 #[.float .f64 x] w fun e w' => e = .returned (.tuple #[.bool (decide (V x = pw 1074)), .bool true]) ∧ w = w' := by
 refine (truth_calls x w h.1).mono ?_
 rintro e w' ⟨rfl, rfl⟩
 have : (decide (V x = 0) || decide (V x = (pw 1074 : Int))) = true := by rcases kind_one' h h1 with h | h <;> simp [h]
 rw [this]; exact ⟨rfl, rfl⟩
theorem ntruth_no (x : Nat) (w : World) (h : Num x) (h1 : kindW x ≠ 1) : Calls Tryz.prog 81 #[.float .f64 x] w fun e w' => e = .returned (.tuple #[.bool false, .bool false]) ∧ w = w' := by
 refine (truth_calls x w h.1).mono ?_
 rintro e w' ⟨rfl, rfl⟩
 have e1 : decide (V x = (pw 1074 : Int)) = false := decide_eq_false fun hh => h1 (kind_one h (.inr hh))
 have e2 : decide (V x = 0) = false := decide_eq_false fun hh => h1 (kind_one h (.inl hh))
 rw [e1, e2]; exact ⟨rfl, rfl⟩
theorem leastof_calls (x : Nat) (w : World) (h : Num x) : Calls Tryz.prog 80 #[.float .f64 x] w fun e w' => e = .returned (.int .i64 (kindW x : Int)) ∧ w = w' := by
 have H := Lib.hid h; clear h
 by_cases h1 : kindW x = 1
 ·have H1 := Lib.hid h1; rw [h1]; clear h1
  go_enter Tryz.func80, Tryz.ntmps80
  go_wp2_with fail
  refine (ntruth_yes _ _ H.out H1.out).mono ?_
  rintro e w1 ⟨rfl, rfl⟩
  go_wp2
  go_ret
  exact ⟨rfl, rfl⟩
 ·have H1 := Lib.hid h1
  by_cases hw : ∃ n, Wh x n
  ·obtain ⟨n, hn⟩ := hw
   have HN := Lib.hid hn
   have hk := kindW_wh hn
   rw [hk] at h1 ⊢
   have HB := Lib.hid hn.2.1; clear hn hk
   by_cases h2 : -128 ≤ n
   ·by_cases h3 : n ≤ 127
    ·have HZ := Lib.hid (show kindZ n = 2 by unfold kindZ at h1 ⊢; split; rename_i hh; rw [if_pos hh] at h1; exact absurd rfl h1; rw [if_pos ⟨h2, h3⟩])
     rw [HZ.out]; clear h1
     go_enter Tryz.func80, Tryz.ntmps80
     go_wp2_with fail
     refine (ntruth_no _ _ H.out H1.out).mono ?_
     rintro e w1 ⟨rfl, rfl⟩
     go_wp2_with fail
     refine (whole_yes _ _ _ HN.out).mono ?_
     rintro e w1 ⟨rfl, rfl⟩
     go_wp2
     go_ret
     exact ⟨rfl, rfl⟩
    ·have HZ := Lib.hid (kz3 (n := n) (.inr (by omega)))
     rw [HZ.out]; clear h1
     go_enter Tryz.func80, Tryz.ntmps80
     go_wp2_with fail
     refine (ntruth_no _ _ H.out H1.out).mono ?_
     rintro e w1 ⟨rfl, rfl⟩
     go_wp2_with fail
     refine (whole_yes _ _ _ HN.out).mono ?_
     rintro e w1 ⟨rfl, rfl⟩
     go_wp2
     go_ret
     exact ⟨rfl, rfl⟩
   ·have HZ := Lib.hid (kz3 (n := n) (.inl (by omega)))
    rw [HZ.out]; clear h1
    go_enter Tryz.func80, Tryz.ntmps80
    go_wp2_with fail
    refine (ntruth_no _ _ H.out H1.out).mono ?_
    rintro e w1 ⟨rfl, rfl⟩
    go_wp2_with fail
    refine (whole_yes _ _ _ HN.out).mono ?_
    rintro e w1 ⟨rfl, rfl⟩
    go_wp2
    go_ret
    exact ⟨rfl, rfl⟩
  ·have HW := Lib.hid (show ∀ n, ¬ Wh x n from fun n hn => hw ⟨n, hn⟩)
   have HK := Lib.hid (kindW_no HW.out)
   rw [HK.out]; clear h1 hw
   go_enter Tryz.func80, Tryz.ntmps80
   go_wp2_with fail
   refine (ntruth_no _ _ H.out H1.out).mono ?_
   rintro e w1 ⟨rfl, rfl⟩
   go_wp2_with fail
   refine (whole_no _ _ H.out.1.1 HW.out).mono ?_
   rintro e w1 ⟨rfl, rfl⟩
   go_wp2
   go_ret
   exact ⟨rfl, rfl⟩
/-- A number of the least kind as a truth. -/
def bitW (x : Nat) : Bool := decide (V x = pw 1074)
theorem mkB1 (n : Nat) (hn : n ≤ 2000000) (w : World) : (Instr.makeSlice 29 (.int .i64 (n : Int)) (.int .i64 (n : Int))).run Tryz.prog w = .ok (.slice (some ⟨w.heap.size, 0, none⟩) n n) (w.alloc (.cells (zerosV (.bool false) n) 4)) := by
 obtain ⟨i0, hi, hz0, hz1, hz2⟩ := info_parts info_bool
 have hr := run_make (P := Tryz.prog) w 29 4 i0 _ Tryz.underlying29 hi hz0 .i64 .i64 n n (by omega) (Int.le_refl _) (by rw [hz2]; omega) (by omega)
 simp only [Int.toNat_natCast, hz1] at hr
 exact hr
theorem mkI8 (n : Nat) (hn : n ≤ 2000000) (w : World) : (Instr.makeSlice 85 (.int .i64 (n : Int)) (.int .i64 (n : Int))).run Tryz.prog w = .ok (.slice (some ⟨w.heap.size, 0, none⟩) n n) (w.alloc (.cells (zerosV (.int .i8 0) n) 87)) := by
 obtain ⟨i0, hi, hz0, hz1, hz2⟩ := info_parts info_i8
 have hr := run_make (P := Tryz.prog) w 85 87 i0 _ Tryz.underlying85 hi hz0 .i64 .i64 n n (by omega) (Int.le_refl _) (by rw [hz2]; omega) (by omega)
 simp only [Int.toNat_natCast, hz1] at hr
 exact hr
theorem wh_i8 {x : Nat} {n : Int} (h : Wh x n) (h1 : -128 ≤ n) (h2 : n ≤ 127) : floatToIntVal .f64 x .i8 = some n := by
 have h0 := wh_int x n h
 unfold floatToIntVal at h0 ⊢
 cases ht : (FloatKind.f64.decode x).toInt .zero with
 | none => rw [ht] at h0; cases h0
 | some m =>
  rw [ht] at h0
  simp only at h0 ⊢
  split at h0
  ·cases h0
   have hm : IntKind.i8.min = -128 ∧ IntKind.i8.max = 127 := by decide
   rw [if_pos ⟨by omega, by omega⟩]
  ·cases h0

set_option maxHeartbeats 1000000 in
theorem packed_fresh {ok : Nat → Prop} (v : Value) (l : List Nat) (w : World) (hv : Slc w ok v l.length (f64s l)) (hm : l.length ≤ 1048576) (hN : ∀ x ∈ l, Num x ∧ kindW x = 1) :
  Calls Tryz.prog 47 #[v] w fun e w' => ∃ v, e = .returned v ∧ IsBitsX w' (fun b => w.heap.size + 1 ≤ b) v (l.map bitW) ∧ Below w.heap.size w w' := by
 obtain ⟨ao, cap, rfl, _, _, _, hc⟩ := hv.opened
 have HC := Lib.hid hc; have HM := Lib.hid hm; clear hv hc; have HN := Lib.hid hN; clear hN
 obtain ⟨xs, hxs⟩ : ∃ xs : List Value, xs = l.map (fun x => .bool (bitW x)) := ⟨_, rfl⟩
 have HXS := Lib.hid hxs
 have hxl : xs.length = l.length := by rw [hxs]; simp
 have hget : ∀ k (h : k < xs.length) (h2 : k < l.length), ∃ x : Nat, x = l[k]'h2 ∧ xs[k]'h = .bool (bitW x) := by intro k h h2; refine ⟨_, rfl, ?_⟩; simp [hxs]
 have HX := Lib.hid hget; have HXL := Lib.hid hxl
 have hmk := mkB1 l.length (by omega) (w.alloc (.cells #[.int .i64 0, .slice none 0 0] 81))
 clear hxs hget hxl
 obtain ⟨W0, hW0⟩ : ∃ W0, W0 = (w.alloc (.cells #[.int .i64 0, .slice none 0 0] 81)).alloc (.cells (zerosV (.bool false) l.length) 4) := ⟨_, rfl⟩
 have HO0 : Hid (W0.ownsRow (w.heap.size + 1) 4 1 (.slice (some ⟨w.heap.size + 1, 0, none⟩) l.length l.length) l.length (List.replicate l.length (.bool false))) := Lib.hid (by have := own_make1 (.bool false) 4 l.length (by omega) (w.alloc (.cells #[.int .i64 0, .slice none 0 0] 81)) (w.heap.size + 1) (by simp); rw [hW0]; simpa using this)
 have HA := Lib.hid (show At2 W0 w.heap.size (.int .i64 0) (.slice none 0 0) by rw [hW0]; exact (At2.new _ _ _ _).alloc _)
 have HW := Lib.hid (show Below w.heap.size w W0 by rw [hW0]; exact (below_new _ _).alloc (by simp) _)
 go_enter Tryz.func47, Tryz.ntmps47
 go_wp2
 rw [← hW0]
 clear hW0 hmk
 go_loopw [11] (fun i wr => ∃ k : Nat, k ≤ l.length ∧ i = .int .i64 k ∧ wr.ownsRow (w.heap.size + 1) 4 1 (.slice (some ⟨w.heap.size + 1, 0, none⟩) l.length l.length) l.length (fillTo xs (.bool false) k) ∧ W0.grownBy wr (some (w.heap.size + 1))) (fun i _ => l.length - (intOf i).toNat)
 case atStart => exact ⟨0, by omega, rfl, by rw [fillTo_zero, HXL.out]; exact HO0.out, grown_refl _ _⟩
 case round =>
  obtain ⟨k, hk, rfl, hown, hgr⟩ := hrel
  have HO := Lib.hid hown; have HG := Lib.hid hgr
  have HB := Lib.hid (HW.out.grown hgr HW.out.size (fun j hj => by cases hj; omega))
  have hA2 := Lib.hid (HA.out.grown hgr (by simp))
  by_cases hlt : k < l.length
  ·obtain ⟨b, off, rfl, _, hcl0⟩ := HC.out k (by rw [f64s_len]; exact hlt)
   have hcl := keep_below HB.out _ _ hcl0
   rw [f64s_get] at hcl
   obtain ⟨x, hx, hxk⟩ := HX.out k (by rw [HXL.out]; exact hlt) hlt
   have hcw := owns_cell HO.out k (by rw [fillTo_len _ _ _ (by rw [HXL.out]; exact hk), HXL.out]; exact hlt)
   have hfr := World.ownsRow.frozenAt HO.out k
   rw [← hx] at hcl
   have HNX := Lib.hid (HN.out x (by rw [hx]; exact List.getElem_mem hlt))
   have HXK := Lib.hid hxk; clear hown hgr hcl0 hx hxk
   go_wp2_with fail
   refine (ntruth_yes _ _ HNX.out.1 HNX.out.2).mono ?_
   rintro e w2 ⟨rfl, rfl⟩
   rw [show decide (V x = (pw 1074 : Int)) = bitW x from rfl]
   go_wp2
   go_roundw
   case rel =>
    refine ⟨k + 1, by omega, by go_num, ?_, grown_trans HG.out (grown_setCell _ ⟨w.heap.size + 1, k, none⟩ _)⟩
    have := (World.ownsRow.stored HO.out k (.bool (bitW x))).1
    rw [← HXK.out, fillTo_set] at this
    rw [← HXK.out]
    exact this
   case measure => simp [intOf]; omega
  ·have hkl : k = l.length := by omega
   have HK := Lib.hid hkl
   have HOW := Lib.hid (show wr.ownsRow (w.heap.size + 1) 4 1 (.slice (some ⟨w.heap.size + 1, 0, none⟩) l.length l.length) l.length xs by
    have := HO.out
    rw [HK.out, ← HXL.out, fillTo_all, HXL.out] at this
    exact this)
   clear hown hgr hkl
   have HXB := Lib.hid (show xs = bools (l.map bitW) by rw [HXS.out]; simp [bools])
   have HLM := Lib.hid (show (l.map bitW).length = l.length by simp)
   have HS := Lib.hid (show Sl wr (.slice (some ⟨w.heap.size + 1, 0, none⟩) l.length l.length) (l.map bitW).length (bools (l.map bitW)) by rw [HLM.out, ← HXB.out]; exact Sl.owned HOW.out)
   go_wp2_with fail
   refine (pack_fresh _ (l.map bitW) _ HS.out (by rw [HLM.out]; exact HM.out)).mono ?_
   rintro e w2 ⟨v, rfl, hb, hB2⟩
   have HV := Lib.hid hb
   have HB3 := Lib.hid (HB.out.trans (hB2.mono HB.out.size))
   have hA3 := hA2.out.below hB2
   have HA3 := Lib.hid hA3
   have HGE := Lib.hid (show w.heap.size + 1 ≤ wr.heap.size from Nat.le_trans (Nat.le_of_lt (HO0.out.lt _ rfl).2) HG.out.size)
   obtain ⟨ao', cap', rfl, _⟩ := hb.bits.opened
   clear hb
   obtain ⟨_, a0, a1, af⟩ := hA3
   have af0 := af 0
   have af1 := af 1
   clear hB2 af
   go_wp2
   refine bodyPost_ret (v := .agg #[.int .i64 ((l.map bitW).length : Int), .slice ao' (((l.map bitW).length + 63) / 64 : Nat) cap']) (by simp [results, Tryz.results47, go_sem, a0, a1]) rfl ⟨_, rfl, HV.out.keep ((Kept.setCell _ _ _ (by simp; have := HGE.out; omega)).trans (Kept.setCell _ _ _ (by simp; have := HGE.out; omega))) (fun b _ h => by have := HGE.out; omega), below_set2 _ _ HB3.out (Nat.le_refl _)⟩

set_option maxHeartbeats 1000000 in
theorem whole8_calls {ok : Nat → Prop} (v : Value) (l : List Nat) (w : World) (hv : Slc w ok v l.length (f64s l)) (hm : l.length ≤ 2000000) (hN : ∀ x ∈ l, ∃ n, Wh x n ∧ -128 ≤ n ∧ n ≤ 127) :
  Calls Tryz.prog 50 #[v] w fun e w' => ∃ v, e = .returned v ∧ Slc w' (fun b => w.heap.size ≤ b) v l.length (i8s (l.map wnOf)) ∧ Below w.heap.size w w' := by
 obtain ⟨ao, cap, rfl, _, _, _, hc⟩ := hv.opened
 have HC := Lib.hid hc; have HM := Lib.hid hm; clear hv hc; have HN := Lib.hid hN; clear hN
 obtain ⟨xs, hxs⟩ : ∃ xs : List Value, xs = l.map (fun x => .int .i8 (wnOf x)) := ⟨_, rfl⟩
 have HXS := Lib.hid hxs
 have hxl : xs.length = l.length := by rw [hxs]; simp
 have hget : ∀ k (h : k < xs.length) (h2 : k < l.length), ∃ x : Nat, x = l[k]'h2 ∧ xs[k]'h = .int .i8 (wnOf x) := by intro k h h2; refine ⟨_, rfl, ?_⟩; simp [hxs]
 have HX := Lib.hid hget; have HXL := Lib.hid hxl
 have hmk := mkI8 l.length (by omega) w
 clear hxs hget hxl
 obtain ⟨W0, hW0⟩ : ∃ W0, W0 = w.alloc (.cells (zerosV (.int .i8 0) l.length) 87) := ⟨_, rfl⟩
 have HO0 : Hid (W0.ownsRow w.heap.size 87 1 (.slice (some ⟨w.heap.size, 0, none⟩) l.length l.length) l.length (List.replicate l.length (.int .i8 0))) := Lib.hid (by rw [hW0]; exact own_make1 _ _ _ (by omega) _ _ (Nat.le_refl _))
 have HW := Lib.hid (show Below w.heap.size w W0 by rw [hW0]; exact below_new _ _)
 go_enter Tryz.func50, Tryz.ntmps50
 go_wp2
 rw [← hW0]
 clear hW0 hmk
 go_loopw [11] (fun i wr => ∃ k : Nat, k ≤ l.length ∧ i = .int .i64 k ∧ wr.ownsRow w.heap.size 87 1 (.slice (some ⟨w.heap.size, 0, none⟩) l.length l.length) l.length (fillTo xs (.int .i8 0) k) ∧ W0.grownBy wr (some w.heap.size)) (fun i _ => l.length - (intOf i).toNat)
 case atStart => exact ⟨0, by omega, rfl, by rw [fillTo_zero, HXL.out]; exact HO0.out, grown_refl _ _⟩
 case round =>
  obtain ⟨k, hk, rfl, hown, hgr⟩ := hrel
  have HO := Lib.hid hown; have HG := Lib.hid hgr
  have HB := Lib.hid (HW.out.grown hgr HW.out.size (fun j hj => by cases hj; omega))
  by_cases hlt : k < l.length
  ·obtain ⟨b, off, rfl, _, hcl0⟩ := HC.out k (by rw [f64s_len]; exact hlt)
   have hcl := keep_below HB.out _ _ hcl0
   rw [f64s_get] at hcl
   obtain ⟨x, hx, hxk⟩ := HX.out k (by rw [HXL.out]; exact hlt) hlt
   have hcw := owns_cell HO.out k (by rw [fillTo_len _ _ _ (by rw [HXL.out]; exact hk), HXL.out]; exact hlt)
   have hfr := World.ownsRow.frozenAt HO.out k
   rw [← hx] at hcl
   have HNX := Lib.hid (HN.out x (by rw [hx]; exact List.getElem_mem hlt))
   have HXK := Lib.hid hxk; clear hown hgr hcl0 hx hxk
   obtain ⟨n, hn, hi⟩ := HNX.out
   have HNI := Lib.hid hi; have HNN := Lib.hid hn
   have HWN := Lib.hid (wnOf_wh hn)
   clear hn hi
   have hc : ∀ w, (convert 31 87 (.float .f64 x)).run Tryz.prog w = .ok (.int .i8 (wnOf x)) w := fun w => by rw [HWN.out]; exact run_convert_float_int w 31 87 .f64 .i8 x n (by kernel_rfl) (by kernel_rfl) (wh_i8 HNN.out HNI.out.1 HNI.out.2)
   go_wp2
   go_roundw
   case rel =>
    refine ⟨k + 1, by omega, by go_num, ?_, grown_trans HG.out (grown_setCell _ ⟨w.heap.size, k, none⟩ _)⟩
    have := (World.ownsRow.stored HO.out k (.int .i8 (wnOf x))).1
    rw [← HXK.out, fillTo_set] at this
    rw [← HXK.out]
    exact this
   case measure => simp [intOf]; omega
  ·have hkl : k = l.length := by omega
   have HK := Lib.hid hkl
   have HOW := Lib.hid (show wr.ownsRow w.heap.size 87 1 (.slice (some ⟨w.heap.size, 0, none⟩) l.length l.length) l.length xs by
    have := HO.out
    rw [HK.out, ← HXL.out, fillTo_all, HXL.out] at this
    exact this)
   clear hown hgr hkl
   go_wp2
   go_ret
   refine ⟨_, rfl, ?_, HB.out⟩
   have := Slc.owned HOW.out
   rw [show xs = i8s (l.map wnOf) by rw [HXS.out]; simp [i8s]] at this
   exact this

set_option maxHeartbeats 1000000 in
theorem whole64_calls {ok : Nat → Prop} (v : Value) (l : List Nat) (w : World) (hv : Slc w ok v l.length (f64s l)) (hm : l.length ≤ 2000000) (hN : ∀ x ∈ l, ∃ n, Wh x n) :
  Calls Tryz.prog 52 #[v] w fun e w' => ∃ v, e = .returned v ∧ Slc w' (fun b => w.heap.size ≤ b) v l.length (ints (l.map wnOf)) ∧ Below w.heap.size w w' := by
 obtain ⟨ao, cap, rfl, _, _, _, hc⟩ := hv.opened
 have HC := Lib.hid hc; have HM := Lib.hid hm; clear hv hc; have HN := Lib.hid hN; clear hN
 obtain ⟨xs, hxs⟩ : ∃ xs : List Value, xs = l.map (fun x => .int .i64 (wnOf x)) := ⟨_, rfl⟩
 have HXS := Lib.hid hxs
 have hxl : xs.length = l.length := by rw [hxs]; simp
 have hget : ∀ k (h : k < xs.length) (h2 : k < l.length), ∃ x : Nat, x = l[k]'h2 ∧ xs[k]'h = .int .i64 (wnOf x) := by intro k h h2; refine ⟨_, rfl, ?_⟩; simp [hxs]
 have HX := Lib.hid hget; have HXL := Lib.hid hxl
 have hmk := run_mkI1 l.length (by omega) w
 clear hxs hget hxl
 obtain ⟨W0, hW0⟩ : ∃ W0, W0 = w.alloc (.cells (zerosV (.int .i64 0) l.length) 2) := ⟨_, rfl⟩
 have HO0 : Hid (W0.ownsRow w.heap.size 2 1 (.slice (some ⟨w.heap.size, 0, none⟩) l.length l.length) l.length (List.replicate l.length (.int .i64 0))) := Lib.hid (by rw [hW0]; exact own_make1 _ _ _ (by omega) _ _ (Nat.le_refl _))
 have HW := Lib.hid (show Below w.heap.size w W0 by rw [hW0]; exact below_new _ _)
 go_enter Tryz.func52, Tryz.ntmps52
 go_wp2
 rw [← hW0]
 clear hW0 hmk
 go_loopw [11] (fun i wr => ∃ k : Nat, k ≤ l.length ∧ i = .int .i64 k ∧ wr.ownsRow w.heap.size 2 1 (.slice (some ⟨w.heap.size, 0, none⟩) l.length l.length) l.length (fillTo xs (.int .i64 0) k) ∧ W0.grownBy wr (some w.heap.size)) (fun i _ => l.length - (intOf i).toNat)
 case atStart => exact ⟨0, by omega, rfl, by rw [fillTo_zero, HXL.out]; exact HO0.out, grown_refl _ _⟩
 case round =>
  obtain ⟨k, hk, rfl, hown, hgr⟩ := hrel
  have HO := Lib.hid hown; have HG := Lib.hid hgr
  have HB := Lib.hid (HW.out.grown hgr HW.out.size (fun j hj => by cases hj; omega))
  by_cases hlt : k < l.length
  ·obtain ⟨b, off, rfl, _, hcl0⟩ := HC.out k (by rw [f64s_len]; exact hlt)
   have hcl := keep_below HB.out _ _ hcl0
   rw [f64s_get] at hcl
   obtain ⟨x, hx, hxk⟩ := HX.out k (by rw [HXL.out]; exact hlt) hlt
   have hcw := owns_cell HO.out k (by rw [fillTo_len _ _ _ (by rw [HXL.out]; exact hk), HXL.out]; exact hlt)
   have hfr := World.ownsRow.frozenAt HO.out k
   rw [← hx] at hcl
   have HNX := Lib.hid (HN.out x (by rw [hx]; exact List.getElem_mem hlt))
   have HXK := Lib.hid hxk; clear hown hgr hcl0 hx hxk
   obtain ⟨n, hn⟩ := HNX.out
   have HNN := Lib.hid hn
   have HWN := Lib.hid (wnOf_wh hn)
   clear hn
   have hc : ∀ w, (convert 31 2 (.float .f64 x)).run Tryz.prog w = .ok (.int .i64 (wnOf x)) w := fun w => by rw [HWN.out]; exact run_convert_float_int w 31 2 .f64 .i64 x n (by kernel_rfl) (by kernel_rfl) (wh_int _ _ HNN.out)
   go_wp2
   go_roundw
   case rel =>
    refine ⟨k + 1, by omega, by go_num, ?_, grown_trans HG.out (grown_setCell _ ⟨w.heap.size, k, none⟩ _)⟩
    have := (World.ownsRow.stored HO.out k (.int .i64 (wnOf x))).1
    rw [← HXK.out, fillTo_set] at this
    rw [← HXK.out]
    exact this
   case measure => simp [intOf]; omega
  ·have hkl : k = l.length := by omega
   have HK := Lib.hid hkl
   have HOW := Lib.hid (show wr.ownsRow w.heap.size 2 1 (.slice (some ⟨w.heap.size, 0, none⟩) l.length l.length) l.length xs by
    have := HO.out
    rw [HK.out, ← HXL.out, fillTo_all, HXL.out] at this
    exact this)
   clear hown hgr hkl
   go_wp2
   go_ret
   refine ⟨_, rfl, ?_, HB.out⟩
   have := Slc.owned HOW.out
   rw [show xs = ints (l.map wnOf) by rw [HXS.out]; simp [ints]] at this
   exact this
end Go.Proofs.YtbdhibcbpgjbmaaGreatDoor

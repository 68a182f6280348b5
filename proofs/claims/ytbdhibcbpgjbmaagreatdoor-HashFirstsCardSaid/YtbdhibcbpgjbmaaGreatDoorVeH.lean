/- Package vec, walked: Floats. -/
import Derived.Test.YtbdhibcbpgjbmaaGreatDoorVeG
namespace Go.Proofs.YtbdhibcbpgjbmaaGreatDoor
open Go.RowKit Fl
set_option linter.unusedVariables false
set_option maxRecDepth 100000


set_option maxHeartbeats 1000000 in
theorem vfloats_yes {ok : Nat → Prop} (v : Value) (l : List Nat) (w : World) (hv : Slc w ok v l.length (f64s l)) (hm : l.length ≤ 2000000) (hf : ∀ x ∈ l, Fnt x) :
  Calls Tryz.prog 41 #[v] w fun e w' => ∃ u, e = .returned (.tuple #[.agg #[u], .bool true]) ∧ IsV w' (fun b => w.heap.size ≤ b) u (.floats (l.map ze)) ∧ Below w.heap.size w w' := by
 have HF := Lib.hid hf
 obtain ⟨ao, cap, rfl, _, _, _, hc⟩ := hv.opened
 have HC := Lib.hid hc; clear hv hc hf
 obtain ⟨xs, hxs⟩ : ∃ xs : List Value, xs = f64s (l.map ze) := ⟨_, rfl⟩
 have hxl : xs.length = l.length := by rw [hxs]; simp [f64s]
 have hget : ∀ k (h : k < xs.length) (h2 : k < l.length), ∃ x : Nat, x = l[k]'h2 ∧ xs[k]'h = .float .f64 (ze x) := by intro k h h2; refine ⟨_, rfl, ?_⟩; simp [hxs, f64s]
 have HX := Lib.hid hget; have HXL := Lib.hid hxl; have HXS := Lib.hid hxs
 have hst := run_store_float
 have hmk := run_mkF1 l.length (by omega) (w.alloc (.cells #[.nilIface] 36))
 clear hxs hget hxl
 obtain ⟨W0, hW0⟩ : ∃ W0, W0 = (w.alloc (.cells #[.nilIface] 36)).alloc (.cells (zerosV (.float .f64 0) l.length) 31) := ⟨_, rfl⟩
 have HO0 : Hid (W0.ownsRow (w.heap.size + 1) 31 1 (.slice (some ⟨w.heap.size + 1, 0, none⟩) l.length l.length) l.length (List.replicate l.length (.float .f64 0))) := Lib.hid (by
  have := own_make1 (.float .f64 0) 31 l.length (by omega) (w.alloc (.cells #[.nilIface] 36)) (w.heap.size + 1) (by simp)
  rw [hW0]; simpa using this)
 have HA := Lib.hid (show At1 W0 w.heap.size .nilIface by rw [hW0]; exact (At1.new _ _ _).below (below_new _ _))
 have HW := Lib.hid (show Below w.heap.size w W0 by rw [hW0]; exact (below_new _ _).alloc (by simp) _)
 go_enter Tryz.func41, Tryz.ntmps41
 go_wp2
 rw [← hW0]
 clear hW0 hmk
 go_loopw [14] (fun i wr => ∃ k : Nat, k ≤ l.length ∧ i = .int .i64 k ∧ wr.ownsRow (w.heap.size + 1) 31 1 (.slice (some ⟨w.heap.size + 1, 0, none⟩) l.length l.length) l.length (fillTo xs (.float .f64 0) k) ∧ W0.grownBy wr (some (w.heap.size + 1))) (fun i _ => l.length - (intOf i).toNat)
 case atStart => exact ⟨0, by omega, rfl, by rw [fillTo_zero, HXL.out]; exact HO0.out, grown_refl _ _⟩
 case round =>
  obtain ⟨k, hk, rfl, hown, hgr⟩ := hrel
  have HO := Lib.hid hown; have HG := Lib.hid hgr
  have HB := Lib.hid (HW.out.grown hgr HW.out.size (fun j hj => by cases hj; omega))
  have hA2 := Lib.hid (HA.out.grown hgr (by simp))
  by_cases hlt : k < l.length
  ·obtain ⟨b, off, rfl, _, hcl0⟩ := HC.out k (by rw [f64s_len]; exact hlt)
   have hcl := keep_below HB.out _ _ hcl0
   rw [f64s_get] at hcl
   obtain ⟨x, hx, hxk⟩ := HX.out k (by rw [HXL.out]; exact hlt) hlt
   have hcw := owns_cell HO.out k (by rw [fillTo_len _ _ _ (by rw [HXL.out]; exact hk), HXL.out]; exact hlt)
   have hfr := World.ownsRow.frozenAt HO.out k
   rw [← hx] at hcl
   have HXE := Lib.hid hx; have HXK := Lib.hid hxk; clear hown hgr hcl0 hxk hx
   have HFx := Lib.hid (HF.out x (by rw [HXE.out]; exact List.getElem_mem hlt))
   go_wp2_with fail
   refine (tidy_fin _ _ HFx.out).mono ?_
   rintro e w2 ⟨rfl, rfl⟩
   go_wp2
   go_roundw
   case rel =>
    refine ⟨k + 1, by omega, by go_num, ?_, grown_trans HG.out (grown_setCell _ ⟨w.heap.size + 1, k, none⟩ _)⟩
    have := (World.ownsRow.stored HO.out k (.float .f64 (ze x))).1
    rw [← HXK.out, fillTo_set] at this
    rw [← HXK.out]
    exact this
   case measure => simp [intOf]; omega
  ·have hkl : k = l.length := by omega
   have HK := Lib.hid hkl
   obtain ⟨_, a0, af⟩ := hA2.out
   have af0 := af 0
   clear hown hgr hkl af
   go_wp2
   refine bodyPost_ret (v := .tuple #[.agg #[.iface 52 (.slice (some ⟨w.heap.size + 1, 0, none⟩) l.length l.length)], .bool true]) (by simp [results, Tryz.results41, go_sem, a0]) rfl ⟨_, rfl, ?_, below_set1 _ HB.out (Nat.le_refl _)⟩
   have := Slc.owned HO.out
   rw [HK.out, ← HXL.out, fillTo_all, HXL.out, HXS.out] at this
   have h2 := this.keep (Kept.setCell wr ⟨w.heap.size, 0, none⟩ (.iface 52 (.slice (some ⟨w.heap.size + 1, 0, none⟩) l.length l.length)) (by simp)) (ok' := fun b => w.heap.size ≤ b) (fun b _ h => by omega)
   have h3 := IsV.floats (l := l.map ze) (by rw [List.length_map]; exact h2)
   exact h3

set_option maxHeartbeats 1000000 in
theorem vfloats_no {ok : Nat → Prop} (v : Value) (l : List Nat) (w : World) (hv : Slc w ok v l.length (f64s l)) (hm : l.length ≤ 2000000) (hw : ∀ x ∈ l, x < 18446744073709551616) (hf : ∃ x ∈ l, ¬ Fnt x) :
  Calls Tryz.prog 41 #[v] w fun e w' => ∃ u, e = .returned (.tuple #[.agg #[u], .bool false]) ∧ IsV w' (fun b => w.heap.size ≤ b) u (.none) ∧ Below w.heap.size w w' := by
 have HF := Lib.hid hf; have HWF := Lib.hid hw
 obtain ⟨ao, cap, rfl, _, _, _, hc⟩ := hv.opened
 have HC := Lib.hid hc; clear hv hc hf hw
 obtain ⟨xs, hxs⟩ : ∃ xs : List Value, xs = f64s (l.map ze) := ⟨_, rfl⟩
 have hxl : xs.length = l.length := by rw [hxs]; simp [f64s]
 have hget : ∀ k (h : k < xs.length) (h2 : k < l.length), ∃ x : Nat, x = l[k]'h2 ∧ xs[k]'h = .float .f64 (ze x) := by intro k h h2; refine ⟨_, rfl, ?_⟩; simp [hxs, f64s]
 have HX := Lib.hid hget; have HXL := Lib.hid hxl; have HXS := Lib.hid hxs
 have hst := run_store_float
 have hmk := run_mkF1 l.length (by omega) (w.alloc (.cells #[.nilIface] 36))
 clear hxs hget hxl
 obtain ⟨W0, hW0⟩ : ∃ W0, W0 = (w.alloc (.cells #[.nilIface] 36)).alloc (.cells (zerosV (.float .f64 0) l.length) 31) := ⟨_, rfl⟩
 have HO0 : Hid (W0.ownsRow (w.heap.size + 1) 31 1 (.slice (some ⟨w.heap.size + 1, 0, none⟩) l.length l.length) l.length (List.replicate l.length (.float .f64 0))) := Lib.hid (by
  have := own_make1 (.float .f64 0) 31 l.length (by omega) (w.alloc (.cells #[.nilIface] 36)) (w.heap.size + 1) (by simp)
  rw [hW0]; simpa using this)
 have HA := Lib.hid (show At1 W0 w.heap.size .nilIface by rw [hW0]; exact (At1.new _ _ _).below (below_new _ _))
 have HW := Lib.hid (show Below w.heap.size w W0 by rw [hW0]; exact (below_new _ _).alloc (by simp) _)
 go_enter Tryz.func41, Tryz.ntmps41
 go_wp2
 rw [← hW0]
 clear hW0 hmk
 go_loopw [14] (fun i wr => ∃ k : Nat, k ≤ l.length ∧ i = .int .i64 k ∧ wr.ownsRow (w.heap.size + 1) 31 1 (.slice (some ⟨w.heap.size + 1, 0, none⟩) l.length l.length) l.length (fillTo xs (.float .f64 0) k) ∧ W0.grownBy wr (some (w.heap.size + 1)) ∧ ∀ x ∈ l.take k, Fnt x) (fun i _ => l.length - (intOf i).toNat)
 case atStart => exact ⟨0, by omega, rfl, by rw [fillTo_zero, HXL.out]; exact HO0.out, grown_refl _ _, by simp⟩
 case round =>
  obtain ⟨k, hk, rfl, hown, hgr, hall⟩ := hrel
  have HO := Lib.hid hown; have HG := Lib.hid hgr; have HL := Lib.hid hall; clear hall
  have HB := Lib.hid (HW.out.grown hgr HW.out.size (fun j hj => by cases hj; omega))
  have hA2 := Lib.hid (HA.out.grown hgr (by simp))
  by_cases hlt : k < l.length
  ·obtain ⟨b, off, rfl, _, hcl0⟩ := HC.out k (by rw [f64s_len]; exact hlt)
   have hcl := keep_below HB.out _ _ hcl0
   rw [f64s_get] at hcl
   obtain ⟨x, hx, hxk⟩ := HX.out k (by rw [HXL.out]; exact hlt) hlt
   have hcw := owns_cell HO.out k (by rw [fillTo_len _ _ _ (by rw [HXL.out]; exact hk), HXL.out]; exact hlt)
   have hfr := World.ownsRow.frozenAt HO.out k
   rw [← hx] at hcl
   have HXE := Lib.hid hx; have HXK := Lib.hid hxk; clear hown hgr hcl0 hxk hx
   by_cases hfx : Fnt x
   ·have HFx := Lib.hid hfx
    have HN : Hid (∀ y ∈ l.take (k + 1), Fnt y) := Lib.hid (by
     intro y hy
     rw [List.take_succ_eq_append_getElem hlt, List.mem_append, List.mem_singleton] at hy
     rcases hy with hy | hy
     ·exact HL.out y hy
     ·rw [hy, ← HXE.out]; exact hfx)
    clear hfx
    go_wp2_with fail
    refine (tidy_fin _ _ HFx.out).mono ?_
    rintro e w2 ⟨rfl, rfl⟩
    go_wp2
    go_roundw
    case rel =>
     refine ⟨k + 1, by omega, by go_num, ?_, grown_trans HG.out (grown_setCell _ ⟨w.heap.size + 1, k, none⟩ _), HN.out⟩
     have := (World.ownsRow.stored HO.out k (.float .f64 (ze x))).1
     rw [← HXK.out, fillTo_set] at this
     rw [← HXK.out]
     exact this
    case measure => simp [intOf]; omega
   ·have HFx := Lib.hid hfx
    have hwx := Lib.hid (HWF.out x (by rw [HXE.out]; exact List.getElem_mem hlt))
    obtain ⟨_, a0, af⟩ := hA2.out
    have af0 := af 0
    clear hfx af
    go_wp2_with fail
    refine (tidy_non _ _ hwx.out HFx.out).mono ?_
    rintro e w2 ⟨rfl, rfl⟩
    go_wp2
    exact bodyPost_ret (v := .tuple #[.agg #[.nilIface], .bool false]) (by simp [results, Tryz.results41, go_sem, a0]) rfl ⟨_, rfl, .none, below_set1 _ HB.out (Nat.le_refl _)⟩
  ·have hkl : k = l.length := by omega
   obtain ⟨x, hx, hn⟩ := HF.out
   exact absurd (HL.out x (by rw [hkl, List.take_length]; exact hx)) hn
end Go.Proofs.YtbdhibcbpgjbmaaGreatDoor

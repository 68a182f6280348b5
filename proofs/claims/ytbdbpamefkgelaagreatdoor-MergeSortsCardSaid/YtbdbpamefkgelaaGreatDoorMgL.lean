/- Layer 18, walked: listed, twice. Written by tools/gen_mgl.py. -/
import Derived.Test.YtbdbpamefkgelaaGreatDoorRxD
import Derived.Test.YtbdbpamefkgelaaGreatDoorFlA
import Derived.Test.YtbdbpamefkgelaaGreatDoorVeJ
namespace Go.Proofs.YtbdbpamefkgelaaGreatDoor
set_option maxRecDepth 100000
open Go.RowKit Fl
set_option linter.unusedVariables false

set_option maxHeartbeats 4000000 in
theorem mglistr_calls {ok ok2 : Nat → Prop} (u : Value) (A : VV) (v : Value) (l : List Nat) (w : World) (hu : IsV w ok u A) (hv : Slc w ok2 v l.length (ints (zL l))) (hm : l.length ≤ 1048576) :
    Calls Tryz.prog 43 #[v, .func (.func 44) #[.agg #[u]] #[]] w fun e w' => ∃ v, e = .returned v ∧ Slc w' (fun b => w.heap.size ≤ b) v l.length (i32s (l.map fun (x : Nat) => atI A.text 0 (x : Int))) ∧ Below w.heap.size w w' := by
  obtain ⟨n, hn⟩ : ∃ n, l.length = n := ⟨_, rfl⟩
  rw [hn] at hv hm ⊢
  have HU := Lib.hid hu
  have HV := Lib.hid hv
  have HN := Lib.hid hn
  obtain ⟨ao, cap, rfl, _⟩ := hv.opened
  obtain ⟨xs, hxs⟩ : ∃ xs : List Value, xs = (i32s (l.map fun (x : Nat) => atI A.text 0 (x : Int))) := ⟨_, rfl⟩
  have hxl : xs.length = n := by rw [hxs]; simp [i32s, hn]
  have hget : ∀ k (h : k < xs.length) (x : Nat), l[k]? = some x → xs[k]'h = .int .i32 (atI A.text 0 (x : Int)) := by
    intro k h x hx
    obtain ⟨h1, h2⟩ := List.getElem?_eq_some_iff.1 hx
    simp [hxs, i32s, h2]
  rw [← hxs]
  have HX := Lib.hid hget
  have HXL := Lib.hid hxl
  have hmk := run_mkC1 n (by omega) w
  clear hxs hget hxl hu hv hn
  obtain ⟨W0, hW0⟩ : ∃ W0, W0 = w.alloc (.cells (zerosV (.int .i32 0) n) 21) := ⟨_, rfl⟩
  have HO0 : Hid (W0.ownsRow w.heap.size 21 1 (.slice (some ⟨w.heap.size, 0, none⟩) n n) n (List.replicate n (.int .i32 0))) := Lib.hid (by rw [hW0]; exact own_make1 _ _ _ (by omega) _ _ (Nat.le_refl _))
  have HW := Lib.hid (show Below w.heap.size w W0 by rw [hW0]; exact below_new _ _)
  obtain ⟨g, hg⟩ : ∃ g, w.heap.size = g := ⟨_, rfl⟩
  rw [hg] at HO0 HW
  have HG := Lib.hid hg
  go_enter Tryz.func43, Tryz.ntmps43
  go_wp2_with fail
  rw [← hW0]
  clear hW0 hmk
  (try rw [hg])
  clear hg
  go_wp2_with fail
  go_loopw [13] (fun i wr => ∃ k : Nat, k ≤ n ∧ i = .int .i64 k ∧ wr.ownsRow g 21 1 (.slice (some ⟨g, 0, none⟩) n n) n (fillTo xs (.int .i32 0) k) ∧ Below g w wr) (fun i _ => n - (intOf i).toNat)
  case atStart => exact ⟨0, by omega, rfl, by rw [fillTo_zero, HXL.out]; exact HO0.out, HW.out⟩
  case round =>
    obtain ⟨k, hk, rfl, hown, hB⟩ := hrel
    clear HO0 HW
    have HO := Lib.hid hown
    have HB := Lib.hid hB
    clear hown hB
    by_cases hlt : k < n
    · have hBw : Below w.heap.size w wr := by rw [HG.out]; exact HB.out
      have HU2 := Lib.hid (HU.out.grow hBw)
      obtain ⟨b, off, cap2, x, e9, hx, hcx⟩ := Slc.at_map (Value.int .i64) (l := zL l) (by rw [zL_len, HN.out]; exact HV.out.below hBw) k (by rw [zL_len, HN.out]; exact hlt)
      rw [zL_len, HN.out] at e9
      cases e9
      obtain ⟨p, hp, rfl⟩ := zL_get hx
      have HXK := Lib.hid (HX.out k (by rw [HXL.out]; exact hlt) p hp)
      clear hx hp hBw
      go_wp2_with fail
      refine (vchar_calls u A (p : Int) _ HU2.out).mono ?_
      rintro e w9 ⟨rfl, hB9⟩
      replace HO := Lib.hid (owns_below HO.out hB9)
      have HGS := Lib.hid (show g ≤ wr.heap.size by have := HB.out.size; rw [HG.out] at this; exact this)
      replace HB := Lib.hid (HB.out.trans (hB9.mono HGS.out))
      have hcw := owns_cell HO.out k (by rw [fillTo_len _ _ _ (by rw [HXL.out]; exact hk), HXL.out]; exact hlt)
      have hfr := World.ownsRow.frozenAt HO.out k
      obtain ⟨old, hold⟩ : ∃ old, (fillTo xs (.int .i32 0) k)[k]'(by rw [fillTo_len _ _ _ (by rw [HXL.out]; exact hk), HXL.out]; exact hlt) = old := ⟨_, rfl⟩
      rw [hold] at hcw
      clear hold hB9 hcx
      go_wp2
      go_roundw
      case rel =>
        refine ⟨k + 1, by omega, by go_num, ?_, HB.out.setCell (Nat.le_refl _) _⟩
        have := (World.ownsRow.stored HO.out k (.int .i32 (atI A.text 0 (p : Int)))).1
        rw [← HXK.out, fillTo_set] at this
        rw [← HXK.out]
        exact this
      case measure => simp [intOf]; omega
    · have hkl : k = n := by omega
      have HK := Lib.hid hkl
      clear hkl
      go_wp2
      go_ret
      refine ⟨_, rfl, ?_, by rw [HG.out]; exact HB.out⟩
      have := Slc.owned HO.out
      rw [HK.out, ← HXL.out, fillTo_all, HXL.out] at this
      rw [HG.out]
      exact this
set_option maxHeartbeats 4000000 in
theorem mglistf_calls {ok ok2 : Nat → Prop} (u : Value) (A : VV) (v : Value) (l : List Nat) (w : World) (hu : IsV w ok u A) (hv : Slc w ok2 v l.length (ints (zL l))) (hm : l.length ≤ 1048576) :
    Calls Tryz.prog 46 #[v, .func (.func 47) #[.agg #[u]] #[]] w fun e w' => ∃ v, e = .returned v ∧ Slc w' (fun b => w.heap.size ≤ b) v l.length (f64s (l.map fun (x : Nat) => atI A.nums 0 (x : Int))) ∧ Below w.heap.size w w' := by
  obtain ⟨n, hn⟩ : ∃ n, l.length = n := ⟨_, rfl⟩
  rw [hn] at hv hm ⊢
  have HU := Lib.hid hu
  have HV := Lib.hid hv
  have HN := Lib.hid hn
  obtain ⟨ao, cap, rfl, _⟩ := hv.opened
  have hst := run_store_float
  obtain ⟨xs, hxs⟩ : ∃ xs : List Value, xs = (f64s (l.map fun (x : Nat) => atI A.nums 0 (x : Int))) := ⟨_, rfl⟩
  have hxl : xs.length = n := by rw [hxs]; simp [f64s, hn]
  have hget : ∀ k (h : k < xs.length) (x : Nat), l[k]? = some x → xs[k]'h = .float .f64 (atI A.nums 0 (x : Int)) := by
    intro k h x hx
    obtain ⟨h1, h2⟩ := List.getElem?_eq_some_iff.1 hx
    simp [hxs, f64s, h2]
  rw [← hxs]
  have HX := Lib.hid hget
  have HXL := Lib.hid hxl
  have hmk := run_mkF1 n (by omega) w
  clear hxs hget hxl hu hv hn
  obtain ⟨W0, hW0⟩ : ∃ W0, W0 = w.alloc (.cells (zerosV (.float .f64 0) n) 57) := ⟨_, rfl⟩
  have HO0 : Hid (W0.ownsRow w.heap.size 57 1 (.slice (some ⟨w.heap.size, 0, none⟩) n n) n (List.replicate n (.float .f64 0))) := Lib.hid (by rw [hW0]; exact own_make1 _ _ _ (by omega) _ _ (Nat.le_refl _))
  have HW := Lib.hid (show Below w.heap.size w W0 by rw [hW0]; exact below_new _ _)
  obtain ⟨g, hg⟩ : ∃ g, w.heap.size = g := ⟨_, rfl⟩
  rw [hg] at HO0 HW
  have HG := Lib.hid hg
  go_enter Tryz.func46, Tryz.ntmps46
  go_wp2_with fail
  rw [← hW0]
  clear hW0 hmk
  (try rw [hg])
  clear hg
  go_wp2_with fail
  go_loopw [13] (fun i wr => ∃ k : Nat, k ≤ n ∧ i = .int .i64 k ∧ wr.ownsRow g 57 1 (.slice (some ⟨g, 0, none⟩) n n) n (fillTo xs (.float .f64 0) k) ∧ Below g w wr) (fun i _ => n - (intOf i).toNat)
  case atStart => exact ⟨0, by omega, rfl, by rw [fillTo_zero, HXL.out]; exact HO0.out, HW.out⟩
  case round =>
    obtain ⟨k, hk, rfl, hown, hB⟩ := hrel
    clear HO0 HW
    have HO := Lib.hid hown
    have HB := Lib.hid hB
    clear hown hB
    by_cases hlt : k < n
    · have hBw : Below w.heap.size w wr := by rw [HG.out]; exact HB.out
      have HU2 := Lib.hid (HU.out.grow hBw)
      obtain ⟨b, off, cap2, x, e9, hx, hcx⟩ := Slc.at_map (Value.int .i64) (l := zL l) (by rw [zL_len, HN.out]; exact HV.out.below hBw) k (by rw [zL_len, HN.out]; exact hlt)
      rw [zL_len, HN.out] at e9
      cases e9
      obtain ⟨p, hp, rfl⟩ := zL_get hx
      have HXK := Lib.hid (HX.out k (by rw [HXL.out]; exact hlt) p hp)
      clear hx hp hBw
      go_wp2_with fail
      refine (num_calls u A (p : Int) _ HU2.out).mono ?_
      rintro e w9 ⟨rfl, hB9⟩
      replace HO := Lib.hid (owns_below HO.out hB9)
      have HGS := Lib.hid (show g ≤ wr.heap.size by have := HB.out.size; rw [HG.out] at this; exact this)
      replace HB := Lib.hid (HB.out.trans (hB9.mono HGS.out))
      have hcw := owns_cell HO.out k (by rw [fillTo_len _ _ _ (by rw [HXL.out]; exact hk), HXL.out]; exact hlt)
      have hfr := World.ownsRow.frozenAt HO.out k
      obtain ⟨old, hold⟩ : ∃ old, (fillTo xs (.float .f64 0) k)[k]'(by rw [fillTo_len _ _ _ (by rw [HXL.out]; exact hk), HXL.out]; exact hlt) = old := ⟨_, rfl⟩
      rw [hold] at hcw
      clear hold hB9 hcx
      go_wp2
      go_roundw
      case rel =>
        refine ⟨k + 1, by omega, by go_num, ?_, HB.out.setCell (Nat.le_refl _) _⟩
        have := (World.ownsRow.stored HO.out k (.float .f64 (atI A.nums 0 (p : Int)))).1
        rw [← HXK.out, fillTo_set] at this
        rw [← HXK.out]
        exact this
      case measure => simp [intOf]; omega
    · have hkl : k = n := by omega
      have HK := Lib.hid hkl
      clear hkl
      go_wp2
      go_ret
      refine ⟨_, rfl, ?_, by rw [HG.out]; exact HB.out⟩
      have := Slc.owned HO.out
      rw [HK.out, ← HXL.out, fillTo_all, HXL.out] at this
      rw [HG.out]
      exact this
end Go.Proofs.YtbdbpamefkgelaaGreatDoor

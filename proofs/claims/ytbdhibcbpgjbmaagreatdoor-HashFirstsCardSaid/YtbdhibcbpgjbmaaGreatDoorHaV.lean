/- Layer 19, walked: listed, chosen. Written by tools/gen_hav.py. -/
import Derived.Test.YtbdhibcbpgjbmaaGreatDoorRxD
import Derived.Test.YtbdhibcbpgjbmaaGreatDoorFlA
import Derived.Test.YtbdhibcbpgjbmaaGreatDoorFlB
import Derived.Test.YtbdhibcbpgjbmaaGreatDoorVeJ
import Derived.Test.YtbdhibcbpgjbmaaGreatDoorFlT
import Derived.Test.YtbdhibcbpgjbmaaGreatDoorFlO
import Derived.Test.YtbdhibcbpgjbmaaGreatDoorArM
namespace Go.Proofs.YtbdhibcbpgjbmaaGreatDoor
set_option maxRecDepth 100000
open Go.RowKit Fl
set_option linter.unusedVariables false

set_option maxHeartbeats 4000000 in
theorem hlistr_calls {ok ok2 : Nat → Prop} (u : Value) (A : VV) (v : Value) (l : List Nat) (w : World) (hu : IsV w ok u A) (hv : Slc w ok2 v l.length (ints (zL l))) (hm : l.length ≤ 1048576) :
  Calls Tryz.prog 74 #[v, .func (.func 55) #[.agg #[u]] #[]] w fun e w' => ∃ v, e = .returned v ∧ Slc w' (fun b => w.heap.size ≤ b) v l.length (i32s (l.map fun (x : Nat) => atI A.text 0 (x : Int))) ∧ Below w.heap.size w w' := by
 obtain ⟨n, hn⟩ : ∃ n, l.length = n := ⟨_, rfl⟩
 rw [hn] at hv hm ⊢
 have HU := Lib.hid hu; have HV := Lib.hid hv; have HN := Lib.hid hn
 obtain ⟨ao, cap, rfl, _⟩ := hv.opened
 obtain ⟨xs, hxs⟩ : ∃ xs : List Value, xs = (i32s (l.map fun (x : Nat) => atI A.text 0 (x : Int))) := ⟨_, rfl⟩
 have hxl : xs.length = n := by rw [hxs]; simp [i32s, hn]
 have hget : ∀ k (h : k < xs.length) (x : Nat), l[k]? = some x → xs[k]'h = .int .i32 (atI A.text 0 (x : Int)) := by
  intro k h x hx
  obtain ⟨h1, h2⟩ := List.getElem?_eq_some_iff.1 hx
  simp [hxs, i32s, h2]
 rw [← hxs]
 have HX := Lib.hid hget; have HXL := Lib.hid hxl
 have hmk := run_mkC1 n (by omega) w
 clear hxs hget hxl hu hv hn
 obtain ⟨W0, hW0⟩ : ∃ W0, W0 = w.alloc (.cells (zerosV (.int .i32 0) n) 21) := ⟨_, rfl⟩
 have HO0 : Hid (W0.ownsRow w.heap.size 21 1 (.slice (some ⟨w.heap.size, 0, none⟩) n n) n (List.replicate n (.int .i32 0))) := Lib.hid (by rw [hW0]; exact own_make1 _ _ _ (by omega) _ _ (Nat.le_refl _))
 have HW := Lib.hid (show Below w.heap.size w W0 by rw [hW0]; exact below_new _ _)
 obtain ⟨g, hg⟩ : ∃ g, w.heap.size = g := ⟨_, rfl⟩
 rw [hg] at HO0 HW
 have HG := Lib.hid hg
 go_enter Tryz.func74, Tryz.ntmps74
 go_wp2_with fail
 rw [← hW0]
 clear hW0 hmk
 (try rw [hg])
 clear hg
 go_wp2_with fail
 go_loopw [13] (fun i wr => ∃ k : Nat, k ≤ n ∧ i = .int .i64 k ∧ wr.ownsRow g 21 1 (.slice (some ⟨g, 0, none⟩) n n) n (fillTo xs (.int .i32 0) k) ∧ Below g w wr) (fun i _ => n - (intOf i).toNat)
 case atStart => exact ⟨0, by omega, rfl, by rw [fillTo_zero, HXL.out]; exact HO0.out, HW.out⟩
 case round =>
  obtain ⟨k, hk, rfl, hown, hB⟩ := hrel
  clear HO0 HW; have HO := Lib.hid hown; have HB := Lib.hid hB; clear hown hB
  by_cases hlt : k < n
  ·have hBw : Below w.heap.size w wr := by rw [HG.out]; exact HB.out
   have HU2 := Lib.hid (HU.out.grow hBw)
   obtain ⟨b, off, cap2, x, e9, hx, hcx⟩ := Slc.at_map (Value.int .i64) (l := zL l) (by rw [zL_len, HN.out]; exact HV.out.below hBw) k (by rw [zL_len, HN.out]; exact hlt)
   rw [zL_len, HN.out] at e9
   cases e9
   obtain ⟨p, hp, rfl⟩ := zL_get hx
   have HXK := Lib.hid (HX.out k (by rw [HXL.out]; exact hlt) p hp)
   clear hx hp hBw
   go_wp2_with fail
   refine (vchar_calls u A (p : Int) _ HU2.out).mono ?_
   rintro e w9 ⟨rfl, hB9⟩
   replace HO := Lib.hid (owns_below HO.out hB9)
   have HGS := Lib.hid (show g ≤ wr.heap.size by have := HB.out.size; rw [HG.out] at this; exact this)
   replace HB := Lib.hid (HB.out.trans (hB9.mono HGS.out))
   have hcw := owns_cell HO.out k (by rw [fillTo_len _ _ _ (by rw [HXL.out]; exact hk), HXL.out]; exact hlt)
   have hfr := World.ownsRow.frozenAt HO.out k
   obtain ⟨old, hold⟩ : ∃ old, (fillTo xs (.int .i32 0) k)[k]'(by rw [fillTo_len _ _ _ (by rw [HXL.out]; exact hk), HXL.out]; exact hlt) = old := ⟨_, rfl⟩
   rw [hold] at hcw
   clear hold hB9 hcx
   go_wp2
   go_roundw
   case rel =>
    refine ⟨k + 1, by omega, by go_num, ?_, HB.out.setCell (Nat.le_refl _) _⟩
    have := (World.ownsRow.stored HO.out k (.int .i32 (atI A.text 0 (p : Int)))).1
    rw [← HXK.out, fillTo_set] at this
    rw [← HXK.out]
    exact this
   case measure => simp [intOf]; omega
  ·have hkl : k = n := by omega
   have HK := Lib.hid hkl; clear hkl
   go_wp2
   go_ret
   refine ⟨_, rfl, ?_, by rw [HG.out]; exact HB.out⟩
   have := Slc.owned HO.out
   rw [HK.out, ← HXL.out, fillTo_all, HXL.out] at this
   rw [HG.out]
   exact this
set_option maxHeartbeats 4000000 in
theorem hlistf_calls {ok ok2 : Nat → Prop} (u : Value) (A : VV) (v : Value) (l : List Nat) (w : World) (hu : IsV w ok u A) (hv : Slc w ok2 v l.length (ints (zL l))) (hm : l.length ≤ 1048576) :
  Calls Tryz.prog 77 #[v, .func (.func 59) #[.agg #[u]] #[]] w fun e w' => ∃ v, e = .returned v ∧ Slc w' (fun b => w.heap.size ≤ b) v l.length (f64s (l.map fun (x : Nat) => atI A.nums 0 (x : Int))) ∧ Below w.heap.size w w' := by
 obtain ⟨n, hn⟩ : ∃ n, l.length = n := ⟨_, rfl⟩
 rw [hn] at hv hm ⊢
 have HU := Lib.hid hu; have HV := Lib.hid hv; have HN := Lib.hid hn
 obtain ⟨ao, cap, rfl, _⟩ := hv.opened
 have hst := run_store_float
 obtain ⟨xs, hxs⟩ : ∃ xs : List Value, xs = (f64s (l.map fun (x : Nat) => atI A.nums 0 (x : Int))) := ⟨_, rfl⟩
 have hxl : xs.length = n := by rw [hxs]; simp [f64s, hn]
 have hget : ∀ k (h : k < xs.length) (x : Nat), l[k]? = some x → xs[k]'h = .float .f64 (atI A.nums 0 (x : Int)) := by
  intro k h x hx
  obtain ⟨h1, h2⟩ := List.getElem?_eq_some_iff.1 hx
  simp [hxs, f64s, h2]
 rw [← hxs]
 have HX := Lib.hid hget; have HXL := Lib.hid hxl
 have hmk := run_mkF1 n (by omega) w
 clear hxs hget hxl hu hv hn
 obtain ⟨W0, hW0⟩ : ∃ W0, W0 = w.alloc (.cells (zerosV (.float .f64 0) n) 31) := ⟨_, rfl⟩
 have HO0 : Hid (W0.ownsRow w.heap.size 31 1 (.slice (some ⟨w.heap.size, 0, none⟩) n n) n (List.replicate n (.float .f64 0))) := Lib.hid (by rw [hW0]; exact own_make1 _ _ _ (by omega) _ _ (Nat.le_refl _))
 have HW := Lib.hid (show Below w.heap.size w W0 by rw [hW0]; exact below_new _ _)
 obtain ⟨g, hg⟩ : ∃ g, w.heap.size = g := ⟨_, rfl⟩
 rw [hg] at HO0 HW
 have HG := Lib.hid hg
 go_enter Tryz.func77, Tryz.ntmps77
 go_wp2_with fail
 rw [← hW0]
 clear hW0 hmk
 (try rw [hg])
 clear hg
 go_wp2_with fail
 go_loopw [13] (fun i wr => ∃ k : Nat, k ≤ n ∧ i = .int .i64 k ∧ wr.ownsRow g 31 1 (.slice (some ⟨g, 0, none⟩) n n) n (fillTo xs (.float .f64 0) k) ∧ Below g w wr) (fun i _ => n - (intOf i).toNat)
 case atStart => exact ⟨0, by omega, rfl, by rw [fillTo_zero, HXL.out]; exact HO0.out, HW.out⟩
 case round =>
  obtain ⟨k, hk, rfl, hown, hB⟩ := hrel
  clear HO0 HW; have HO := Lib.hid hown; have HB := Lib.hid hB; clear hown hB
  by_cases hlt : k < n
  ·have hBw : Below w.heap.size w wr := by rw [HG.out]; exact HB.out
   have HU2 := Lib.hid (HU.out.grow hBw)
   obtain ⟨b, off, cap2, x, e9, hx, hcx⟩ := Slc.at_map (Value.int .i64) (l := zL l) (by rw [zL_len, HN.out]; exact HV.out.below hBw) k (by rw [zL_len, HN.out]; exact hlt)
   rw [zL_len, HN.out] at e9
   cases e9
   obtain ⟨p, hp, rfl⟩ := zL_get hx
   have HXK := Lib.hid (HX.out k (by rw [HXL.out]; exact hlt) p hp)
   clear hx hp hBw
   go_wp2_with fail
   refine (num_calls u A (p : Int) _ HU2.out).mono ?_
   rintro e w9 ⟨rfl, hB9⟩
   replace HO := Lib.hid (owns_below HO.out hB9)
   have HGS := Lib.hid (show g ≤ wr.heap.size by have := HB.out.size; rw [HG.out] at this; exact this)
   replace HB := Lib.hid (HB.out.trans (hB9.mono HGS.out))
   have hcw := owns_cell HO.out k (by rw [fillTo_len _ _ _ (by rw [HXL.out]; exact hk), HXL.out]; exact hlt)
   have hfr := World.ownsRow.frozenAt HO.out k
   obtain ⟨old, hold⟩ : ∃ old, (fillTo xs (.float .f64 0) k)[k]'(by rw [fillTo_len _ _ _ (by rw [HXL.out]; exact hk), HXL.out]; exact hlt) = old := ⟨_, rfl⟩
   rw [hold] at hcw
   clear hold hB9 hcx
   go_wp2
   go_roundw
   case rel =>
    refine ⟨k + 1, by omega, by go_num, ?_, HB.out.setCell (Nat.le_refl _) _⟩
    have := (World.ownsRow.stored HO.out k (.float .f64 (atI A.nums 0 (p : Int)))).1
    rw [← HXK.out, fillTo_set] at this
    rw [← HXK.out]
    exact this
   case measure => simp [intOf]; omega
  ·have hkl : k = n := by omega
   have HK := Lib.hid hkl; clear hkl
   go_wp2
   go_ret
   refine ⟨_, rfl, ?_, by rw [HG.out]; exact HB.out⟩
   have := Slc.owned HO.out
   rw [HK.out, ← HXL.out, fillTo_all, HXL.out] at this
   rw [HG.out]
   exact this

set_option maxHeartbeats 4000000 in
theorem hlista_calls {ok ok2 : Nat → Prop} (u : Value) (V : VV) (v : Value) (l : List Nat) (w : World) (hu : IsV w ok u V) (hok : V.ok) (hv : Slc w ok2 v l.length (ints (zL l))) (hm : l.length ≤ 1048576) :
  Calls Tryz.prog 76 #[v, .func (.func 57) #[.agg #[u]] #[]] w fun e w' => ∃ v, e = .returned v ∧ Arrs w' (fun b => (ok b ∧ b < w.heap.size) ∨ w.heap.size ≤ b) v (l.map (fun (x : Nat) => atI V.boxs ([], .none) (x : Int))) ∧ Below w.heap.size w w' := by
 obtain ⟨n, hn⟩ : ∃ n, l.length = n := ⟨_, rfl⟩
 rw [hn] at hv hm
 have HNN := Lib.hid hn
 obtain ⟨ao, cap, rfl, _⟩ := hv.opened
 have HV := Lib.hid hv
 have HU := Lib.hid (hu.lt)
 have HOK := Lib.hid hok
 have hmk := run_mkA n (by omega) w
 obtain ⟨L, hL⟩ : ∃ L, l.map (fun (x : Nat) => atI V.boxs ([], .none) (x : Int)) = L := ⟨_, rfl⟩
 have HLL := Lib.hid (show L.length = n by rw [← hL, List.length_map, hn])
 have HLX := Lib.hid (show ∀ (k x : Nat), l[k]? = some x → L[k]? = some (atI V.boxs ([], .none) (x : Int)) by intro k x h; rw [← hL, List.getElem?_map, h]; rfl)
 rw [hL]; clear hL hv hu hok hn
 obtain ⟨W0, hW0⟩ : ∃ W0, w.alloc (.cells (zerosA n) 38) = W0 := ⟨_, rfl⟩
 have HO0 := Lib.hid (show W0.ownsRow w.heap.size 38 2 (.slice (some ⟨w.heap.size, 0, Option.none⟩) n n) n (pairL n (fun _ => .slice Option.none 0 0) (upTo (fun _ => .nilIface) 0)) by rw [← hW0]; exact own_mkA _ (by omega) _ _ (Nat.le_refl _) _)
 have HW := Lib.hid (show Below w.heap.size w W0 by rw [← hW0]; exact below_new _ _)
 go_enter Tryz.func76, Tryz.ntmps76
 go_wp2_with fail
 clear hW0 hmk
 go_loopw [13] (fun i wr => ∃ (k : Nat) (A B : Nat → Value), k ≤ n ∧ i = .int .i64 k ∧ wr.ownsRow w.heap.size 38 2 (.slice (some ⟨w.heap.size, 0, Option.none⟩) n n) n (pairL n A B) ∧ (∀ i p, i < k → L[i]? = some p → IsArr wr (fun b => (ok b ∧ b < w.heap.size) ∨ w.heap.size < b) (A i) (B i) p) ∧ W0.grownBy wr (some w.heap.size)) (fun i _ => n - (intOf i).toNat)
 case atStart => exact ⟨0, _, _, by omega, rfl, HO0.out, fun i _ h => absurd h (by omega), grown_refl _ _⟩
 case round =>
  obtain ⟨k, A, B, hk, rfl, hown, hA, hgr⟩ := hrel
  have HO := Lib.hid hown; have HG := Lib.hid hgr; have HA := Lib.hid hA
  have HB := Lib.hid (show Below w.heap.size w wr from HW.out.grown hgr HW.out.size (fun j hj => by cases hj; omega))
  have HGS := Lib.hid (hown.lt w.heap.size rfl).2
  clear hA hgr hown
  by_cases hlt : k < n
  ·obtain ⟨b, off, cap2, x, e9, hx, hcx⟩ := Slc.at_map (Value.int .i64) (l := zL l) (by rw [zL_len, HNN.out]; exact HV.out.below HB.out) k (by rw [zL_len, HNN.out]; exact hlt)
   rw [zL_len, HNN.out] at e9
   cases e9
   obtain ⟨p, hp, rfl⟩ := zL_get hx
   have HLK := Lib.hid (HLX.out k p hp)
   have hm9 := hm
   clear hx hp
   go_wp2_with fail
   refine (vbox_calls _ V (p : Int) _ (HU.out.grow HB.out) HOK.out).mono ?_
   rintro e w2 ⟨sh', x', rfl, hAR, hB2⟩
   have hsx := hAR.2.store
   have HAR := Lib.hid hAR
   obtain ⟨so, sc, rfl, _⟩ := hAR.1.opened
   have HO2 := Lib.hid (owns_below2 HO.out hB2)
   have HG2 := Lib.hid (grown_trans HG.out (grown_any (below_grown hB2) _))
   have HA2 := Lib.hid (show ∀ i p, i < k → L[i]? = some p → IsArr w2 (fun b => (ok b ∧ b < w.heap.size) ∨ w.heap.size < b) (A i) (B i) p from fun i p hi hp => (HA.out i p hi hp).keep (Kept.below hB2) (fun _ _ h => h))
   clear hB2 hAR hcx
   have e1 := owns_cell2 HO2.out (k * 2) (by rw [pairL_len]; omega)
   have e2 := owns_cell2 HO2.out (k * 2 + 1) (by rw [pairL_len]; omega)
   have z1 := World.ownsRow.frozenAt HO2.out (k * 2)
   have z2 := World.ownsRow.frozenAt HO2.out (k * 2 + 1)
   go_wp2
   go_roundw
   case rel =>
    refine ⟨k + 1, upd A k (.slice so (atI V.boxs ([], .none) (p : Int)).1.length sc), upd B k x', by omega, by go_num, ?_, ?_, grown_trans (grown_trans HG2.out (grown_setCell _ ⟨w.heap.size, k * 2, Option.none⟩ _)) (grown_setCell _ ⟨w.heap.size, k * 2 + 1, Option.none⟩ _)⟩
    ·have q1 := (World.ownsRow.stored HO2.out (k * 2) (.slice so (atI V.boxs ([], .none) (p : Int)).1.length sc)).1
     have q2 := (World.ownsRow.stored q1 (k * 2 + 1) x').1
     rw [pairL_set1, pairL_set2] at q2
     exact q2
    ·intro i q hi hq
     have kk : ∀ a y, Kept (fun b => (ok b ∧ b < w.heap.size) ∨ w.heap.size < b) w2 ((w2.setCell ⟨w.heap.size, k * 2, Option.none⟩ a).setCell ⟨w.heap.size, k * 2 + 1, Option.none⟩ y) := fun a y => (Kept.setCell _ _ _ (by simp)).trans (Kept.setCell _ _ _ (by simp))
     by_cases e : i = k
     ·subst e
      simp only [upd, if_true]
      rw [HLK.out] at hq
      obtain rfl := Option.some.inj hq
      exact (HAR.out.keep (ok' := fun b => (ok b ∧ b < w.heap.size) ∨ w.heap.size < b) (Kept.refl _ _) (fun b _ h => by
       rcases h with h | h
       ·exact Or.inl h.1
       ·exact Or.inr (Nat.lt_of_lt_of_le HGS.out h))).keep (kk _ _) (fun _ _ h => h)
     ·simp only [upd, if_neg e]
      exact (HA2.out i q (by omega) hq).keep (kk _ _) (fun _ _ h => h)
   case measure => simp [intOf]; omega
  ·have hkl : k = n := by omega
   have HK := Lib.hid hkl; clear hkl
   go_wp2
   go_ret
   refine ⟨_, rfl, ?_, HB.out⟩
   have := HO.out
   have hL := HLL.out
   subst hL
   refine arrs_of (by omega) this (.inr (Nat.le_refl _)) (fun i p hp => (HA.out i p ?_ hp).keep (Kept.refl _ _) (fun b _ h => by rcases h with h | h; exact .inl h; exact .inr (by omega)))
   obtain ⟨h, _⟩ := List.getElem?_eq_some_iff.1 hp
   rw [HK.out]; exact h
theorem sel_sqL19 {A : VV} (hok : A.ok) (hn : A.nm) (hc : A.cls = 0) {at_ : List Int} (hm : at_.length ≤ 1048576) : A.sel at_ = sqL (at_.map (atI A.nums 0)) := by
 by_cases hb : A.isBit = true
 ·have hN := VV.nums_num hok hn
  have e1 := VV.sel_numbers at_ hN hm hc
  rw [← e1]
  rw [VV.sel_bits hb]
  exact VV.canon (V := .bits (at_.map (sqI A.packed))) (by show (at_.map (sqI A.packed)).length ≤ 1048576; rw [List.length_map]; exact hm) trivial rfl rfl (show (0 : Int) < 1 by decide)
 ·exact VV.sel_nums hc (by simpa using hb) at_
theorem cut_all19 (L : List Nat) : (VV.floats L).cut 0 (L.length : Int) = sqL L := by
 have e0 : cl8 0 (VV.floats L).len = 0 := by unfold cl8; omega
 have e1 : cl8 (L.length : Int) (VV.floats L).len = L.length := by unfold cl8; simp [VV.len]
 unfold VV.cut
 rw [if_neg (by simp [VV.isBit]), e0, e1, Nat.sub_zero, VV.sel_nums rfl rfl]
 unfold sqL
 congr 2
 apply List.ext_getElem (by simp [cutL])
 intro i h1 h2
 simp only [cutL, List.getElem_map, List.getElem_range]
 rw [show ((0 : Nat) : Int) + (i : Int) = (i : Int) by omega]
 exact atI_nat h2

theorem ok_box19 {V : VV} (h : V.ok) : ∀ p ∈ V.boxs, p.1.length ≤ 1048576 := by
 intro p hp
 cases V <;> simp [VV.boxs] at hp
 exact h.2 _ hp
set_option maxHeartbeats 8000000 in
theorem hchosen_calls {ok ok2 : Nat → Prop} (u : Value) (A : VV) (v : Value) (l : List Nat) (w : World) (h : IsV w ok u A) (hA : A.ok ∧ A.nm) (hv : Slc w ok2 v l.length (ints (zL l))) (hm : l.length ≤ 1048576) (hl : ∀ x ∈ l, x < A.len) (hT : TabAt w) :
  Calls Tryz.prog 40 #[.agg #[u], v] w fun e w' => ∃ u', e = .returned (.agg #[u']) ∧ IsV w' (fun b => (ok b ∧ b < w.heap.size) ∨ w.heap.size ≤ b) u' (A.sel (zL l)) ∧ Below w.heap.size w w' := by
 have hsu := h.store
 obtain ⟨vo, vc, rfl, _⟩ := hv.opened
 obtain ⟨W1, hW1⟩ : ∃ W1, (w.alloc (.cells #[u] 36)).alloc (.cells #[.nilIface] 36) = W1 := ⟨_, rfl⟩
 have HV := Lib.hid (show At1 W1 w.heap.size u by rw [← hW1]; exact (At1.new _ _ _).below (below_new _ _))
 have HR := Lib.hid (show At1 W1 (w.heap.size + 1) .nilIface by rw [← hW1]; have := At1.new (w.alloc (.cells #[u] 36)) .nilIface 36; simpa using this)
 have HB := Lib.hid (show Below w.heap.size w W1 by rw [← hW1]; exact (below_new _ _).alloc (by simp) _)
 have HW1 := Lib.hid (Below.refl W1.heap.size W1)
 have HSZ := Lib.hid (show W1.heap.size = w.heap.size + 2 by rw [← hW1]; simp)
 have HU := Lib.hid (show IsV W1 (fun b => ok b ∧ b < w.heap.size) u A from h.lt.grow HB.out)
 have HVL := Lib.hid (hv.below HB.out)
 have HT := Lib.hid (show TabAt W1 from fun j hj => keep_below HB.out _ _ (hT j hj))
 have HA := Lib.hid hA; have HLN := Lib.hid hm; have HLT := Lib.hid hl
 have hc2 : A.cls = 0 ∨ A.cls = 1 ∨ A.cls = 2 := by cases A <;> simp [VV.cls]
 have cHV0 := HV.out.2.1; have cHR0 := HR.out.2.1; have zHR0 := HR.out.2.2 0; clear h hA hv hm hl hT
 go_enter Tryz.func40, Tryz.ntmps40
 go_wp2_with fail
 clear hW1
 refine (class_calls _ A _ HU.out).mono ?_
 rintro e W3 ⟨rfl, hB⟩
 replace HVL := HVL.go hB; clear cHV0 cHR0 zHR0; replace HV := HV.go hB; replace HR := HR.go hB; replace HU := HU.go hB; replace HT := HT.go hB; replace HB := cb hB HB; replace HW1 := cb hB HW1; clear hB
 have hmf : ∀ (fn : Fn) (first cap : Array Value) (w : World), (Instr.makeFunc fn first cap).run Tryz.prog w = .ok (.func fn first cap) w := fun _ _ _ _ => rfl
 rcases hc2 with hcl | hcl | hcl
 ·rw [hcl]; have HCL := Lib.hid hcl; clear hcl; have cHV0 := HV.out.2.1
  go_wp2_with fail
  refine (hlistf_calls u A _ l _ HU.out HVL.out HLN.out).mono ?_
  rintro e W4 ⟨vf, rfl, hvf, hB⟩
  obtain ⟨L, hLL⟩ : ∃ L, (l.map fun (x : Nat) => atI A.nums 0 (x : Int)) = L := ⟨_, rfl⟩
  have hLlen : L.length = l.length := by rw [← hLL, List.length_map]
  have HNUM := Lib.hid (show ∀ x ∈ L, Num x from fun x hx => by
   rw [← hLL] at hx
   obtain ⟨y, hy, rfl⟩ := List.mem_map.1 hx
   have hyl : y < A.nums.length := by rw [VV.nums_length HCL.out]; exact HLT.out y hy
   rw [atI_nat hyl]
   exact VV.nums_num HA.out.1 HA.out.2 _ (List.getElem_mem _))
  have HSEL := Lib.hid (show A.sel (zL l) = sqL L by
   rw [sel_sqL19 HA.out.1 HA.out.2 HCL.out (by rw [zL_len]; exact HLN.out), ← hLL]
   unfold zL; rw [List.map_map]; rfl)
  rw [hLL, ← hLlen] at hvf
  have HVF := Lib.hid hvf
  have HLL2 := Lib.hid (show L.length ≤ 1048576 by rw [hLlen]; exact HLN.out)
  clear hLL hLlen hvf cHV0; replace HV := HV.go hB; replace HR := HR.go hB; replace HU := HU.go hB; replace HT := HT.go hB; replace HB := cb hB HB; replace HW1 := cb hB HW1; clear hB
  go_wp2_with fail
  refine (vfloats_yes _ L _ HVF.out (by have := HLL2.out; omega) (fun x hx => (HNUM.out x hx).1)).mono ?_
  rintro e W5 ⟨uz, rfl, huz, hB⟩
  have e9 : L.map ze = L := by
   conv => rhs; rw [← List.map_id L]
   exact List.map_congr_left fun x hx => by rw [ze_of_num (HNUM.out x hx)]; rfl
  rw [e9] at huz
  clear e9
  have HUZ := Lib.hid (show IsV W5 (fun b => w.heap.size + 1 < b) uz (.floats L) from huz.wide (fun b _ h => Nat.lt_of_lt_of_le (by have := HW1.out.size; have := HSZ.out; omega) h))
  have hsz := huz.store
  have HNE := Lib.hid (show w.heap.size + 1 < W5.heap.size by have := HW1.out.size; have := hB.size; have := HSZ.out; omega)
  clear huz; replace HV := HV.go hB; replace HR := HR.go hB; replace HU := HU.go hB; replace HT := HT.go hB; replace HB := cb hB HB; replace HW1 := cb hB HW1; clear hB
  obtain ⟨W6, hWn⟩ : ∃ xw9, W5.alloc (.cells #[uz] 36) = xw9 := ⟨_, rfl⟩
  have hB : Below W5.heap.size W5 W6 := by rw [← hWn]; exact below_new _ _
  have HZ := Lib.hid (show At1 W6 W5.heap.size uz by rw [← hWn]; exact At1.new _ _ _)
  replace HUZ := HUZ.go hB; replace HV := HV.go hB; replace HR := HR.go hB; replace HU := HU.go hB; replace HT := HT.go hB; replace HB := cb hB HB; replace HW1 := cb hB HW1; clear hB; have cHV0 := HV.out.2.1; have cHR0 := HR.out.2.1; have cHZ0 := HZ.out.2.1
  go_wp2_with fail
  clear hWn
  obtain ⟨W7, hWD, hB⟩ := drwn W6
  replace HZ := HZ.go hB; replace HUZ := HUZ.go hB; replace HV := HV.go hB; replace HR := HR.go hB; replace HU := HU.go hB; replace HT := HT.go hB; replace HB := cb hB HB; replace HW1 := cb hB HW1; clear hB
  refine wp_region_held_drew (S := fun w' => w'.cell? ⟨W5.heap.size, 0, none⟩ = some uz) (by kernel_rfl) (by rw [hWD]; exact HZ.out.2.1) (fun hHeld => ?_)
  rw [hWD] at hHeld ⊢
  clear hWD cHV0 cHR0 cHZ0; apply tk 0; apply tk 1
  refine wpAnyH_ready (rs := [2]) (by kernel_rfl) (by simp) ?_
  refine AllReadyH.cons (o := _) rfl (fun K' hK' => ?_) AllReadyH.nil
  clear hHeld; go_simp
  refine (vlen_calls _ (.floats L) _ HUZ.out).mono ?_
  rintro e W8 ⟨rfl, hB⟩
  replace HZ := HZ.go hB; replace HUZ := HUZ.go hB; replace HV := HV.go hB; replace HR := HR.go hB; replace HU := HU.go hB; replace HT := HT.go hB; replace HB := cb hB HB; replace HW1 := cb hB HW1; clear hB
  refine hK'.out _ _ HZ.out.2.1 (fun hHeld => ?_)
  clear hK' K'
  refine wpAnyH_ready (rs := [3]) (by kernel_rfl) (by simp) ?_
  refine AllReadyH.cons (o := _) rfl (fun K' hK' => ?_) AllReadyH.nil
  clear hHeld; go_simp
  have HO := Lib.hid (show w.heap.size + 2 ≤ W8.heap.size by have := HW1.out.size; have := HSZ.out; omega)
  refine (fcut_calls _ (.floats L) 0 (L.length : Int) _ HUZ.out HLL2.out HNUM.out (fun a h => by simp [VV.boxs] at h) HT.out).mono ?_
  rintro e W9 ⟨uq, rfl, huq, hB⟩
  rw [cut_all19] at huq
  have HQ := Lib.hid (show IsV W9 (fun b => w.heap.size + 1 < b) uq (sqL L) from huq.wide (fun b _ h => by rcases h with h | h; exact h.1; exact Nat.lt_of_lt_of_le (by have := HO.out; omega) h))
  have hsq := huq.store; clear huq; replace HZ := HZ.go hB; replace HV := HV.go hB; replace HR := HR.go hB; replace HU := HU.go hB; replace HT := HT.go hB; replace HB := cb hB HB; replace HW1 := cb hB HW1; clear hB
  refine hK'.out _ _ HZ.out.2.1 (fun hHeld => ?_)
  clear hK' K'
  refine wpAnyH_ready (rs := [4]) (by kernel_rfl) (by simp) ?_
  refine AllReadyH.cons (o := _) rfl (fun K' hK' => ?_) AllReadyH.nil
  clear hHeld; have s0 := HR.out.2.1; have t0 := HR.out.2.2 0; go_simp; clear s0 t0
  obtain ⟨W10, hWn⟩ : ∃ xw9, W9.setCell ⟨w.heap.size + 1, 0, none⟩ uq = xw9 := ⟨_, rfl⟩
  rw [hWn]
  replace HR := Lib.hid (show At1 W10 (w.heap.size + 1) uq by rw [← hWn]; exact At1.put1 HR.out _)
  replace HB := Lib.hid (show Below w.heap.size w W10 by rw [← hWn]; exact HB.out.setCell (Nat.le_succ _) _)
  replace HQ := Lib.hid (show IsV W10 (fun b => w.heap.size + 1 < b) uq (sqL L) by rw [← hWn]; exact HQ.out.keep (Kept.setCell _ _ _ (by simp)) (fun _ _ h => h))
  replace HZ := Lib.hid (show At1 W10 W5.heap.size uz by rw [← hWn]; exact HZ.out.grown (grown_setCell _ ⟨w.heap.size + 1, 0, none⟩ _) (by have := HNE.out; simp; omega))
  clear hWn
  refine hK'.out _ _ HZ.out.2.1 (fun hHeld => ?_)
  clear hK' K'
  refine wpAnyH_done (by kernel_rfl) ?_ _
  clear hHeld; have cHR0 := HR.out.2.1
  go_wp2
  refine bodyPost_ret (v := .agg #[uq]) (by simp [results, Tryz.results40, go_sem, cHR0]) rfl ⟨uq, rfl, ?_, HB.out⟩
  rw [HSEL.out]
  exact HQ.out.wide (fun b _ h => Or.inr (by omega))
 ·rw [hcl]; have HCL := Lib.hid hcl; clear hcl; have cHV0 := HV.out.2.1
  go_wp2_with fail
  refine (hlistr_calls u A _ l _ HU.out HVL.out HLN.out).mono ?_
  rintro e W4 ⟨vf, rfl, hvf, hB⟩
  obtain ⟨L, hLL⟩ : ∃ L, (l.map fun (x : Nat) => atI A.text 0 (x : Int)) = L := ⟨_, rfl⟩
  have hLlen : L.length = l.length := by rw [← hLL, List.length_map]
  have HSEL := Lib.hid (show A.sel (zL l) = .chars L by
   rw [VV.sel_chars HCL.out, ← hLL]
   unfold zL; rw [List.map_map]
   congr 1
   refine List.map_congr_left fun x hx => ?_
   have hxl : x < A.text.length := by rw [VV.text_len HCL.out]; exact HLT.out x hx
   show atI A.text 32 (x : Int) = _
   rw [atI_nat hxl, atI_nat hxl])
  rw [hLL, ← hLlen] at hvf
  have HVF := Lib.hid hvf
  have HLL2 := Lib.hid (show L.length ≤ 1048576 by rw [hLlen]; exact HLN.out)
  clear hLL hLlen hvf cHV0; replace HV := HV.go hB; replace HR := HR.go hB; replace HU := HU.go hB; replace HT := HT.go hB; replace HB := cb hB HB; replace HW1 := cb hB HW1; clear hB
  go_wp2_with fail
  refine (vchars_calls _ L _ HVF.out (by have := HLL2.out; omega)).mono ?_
  rintro e W5 ⟨uq, rfl, huq, hB⟩
  have HQ := Lib.hid (show IsV W5 (fun b => w.heap.size + 1 < b) uq (.chars L) from huq.wide (fun b _ h => Nat.lt_of_lt_of_le (by have := HW1.out.size; have := HSZ.out; omega) h))
  have hsq := huq.store; clear huq; replace HV := HV.go hB; replace HR := HR.go hB; replace HU := HU.go hB; replace HT := HT.go hB; replace HB := cb hB HB; replace HW1 := cb hB HW1; clear hB; have cHR0 := HR.out.2.1; have zHR0 := HR.out.2.2 0
  go_wp2
  refine bodyPost_ret (v := .agg #[uq]) (by simp [results, Tryz.results40, go_sem, cHR0, World.cell?_setCell_same]) rfl ⟨uq, rfl, ?_, HB.out.setCell (Nat.le_succ _) _⟩
  rw [HSEL.out]
  exact HQ.out.keep (Kept.setCell _ _ _ (by simp)) (fun b _ h => Or.inr (by omega))
 ·rw [hcl]; have HCL := Lib.hid hcl; clear hcl; have cHV0 := HV.out.2.1
  go_wp2_with fail
  refine (hlista_calls u A _ l _ HU.out HA.out.1 HVL.out HLN.out).mono ?_
  rintro e W4 ⟨vf, rfl, hvf, hB⟩
  obtain ⟨L, hLL⟩ : ∃ L, (l.map fun (x : Nat) => atI A.boxs ([], .none) (x : Int)) = L := ⟨_, rfl⟩
  have hLlen : L.length = l.length := by rw [← hLL, List.length_map]
  have HSEL := Lib.hid (show A.sel (zL l) = .boxes L by
   rw [VV.sel_boxes HCL.out, ← hLL]
   unfold zL; rw [List.map_map]
   congr 1
   refine List.map_congr_left fun x hx => ?_
   have hxl : x < A.boxs.length := by rw [VV.boxs_len HCL.out]; exact HLT.out x hx
   show atI A.boxs blankA (x : Int) = _
   rw [atI_nat hxl, atI_nat hxl])
  have HBS := Lib.hid (show ∀ p ∈ L, p.1.length ≤ 1048576 from fun p hp => by
   rw [← hLL] at hp
   obtain ⟨x, hx, rfl⟩ := List.mem_map.1 hp
   have hxl : x < A.boxs.length := by rw [VV.boxs_len HCL.out]; exact HLT.out x hx
   have hmem := List.getElem_mem hxl
   rw [atI_nat hxl]
   exact ok_box19 HA.out.1 _ hmem)
  rw [hLL] at hvf
  have HVF := Lib.hid hvf
  have HLL2 := Lib.hid (show L.length ≤ 1048576 by rw [hLlen]; exact HLN.out)
  have HW1B := Lib.hid HW1.out.size; clear hLL hLlen hvf cHV0; replace HV := HV.go hB; replace HR := HR.go hB; replace HU := HU.go hB; replace HT := HT.go hB; replace HB := cb hB HB; replace HW1 := cb hB HW1; clear hB
  go_wp2_with fail
  refine (vboxes_calls _ L _ HVF.out HLL2.out HBS.out).mono ?_
  rintro e W5 ⟨uq, rfl, huq, hB⟩
  have HQ := Lib.hid (show IsV W5 (fun b => (ok b ∧ b < w.heap.size) ∨ w.heap.size + 1 < b) uq (.boxes L) from huq.wide (fun b _ h => by
   have h1 := HW1.out.size; have h2 := HW1B.out; have h3 := HSZ.out
   rcases h with ⟨h | h, _⟩ | h
   ·exact Or.inl h.1
   ·exact Or.inr (by omega)
   ·exact Or.inr (by omega)))
  have hsq := huq.store; clear huq; replace HV := HV.go hB; replace HR := HR.go hB; replace HU := HU.go hB; replace HT := HT.go hB; replace HB := cb hB HB; replace HW1 := cb hB HW1; clear hB; have cHR0 := HR.out.2.1; have zHR0 := HR.out.2.2 0
  go_wp2
  refine bodyPost_ret (v := .agg #[uq]) (by simp [results, Tryz.results40, go_sem, cHR0, World.cell?_setCell_same]) rfl ⟨uq, rfl, ?_, HB.out.setCell (Nat.le_succ _) _⟩
  rw [HSEL.out]
  exact HQ.out.keep (Kept.setCell _ _ _ (by simp)) (fun b _ h => h.imp id (fun h => by omega))
end Go.Proofs.YtbdhibcbpgjbmaaGreatDoor

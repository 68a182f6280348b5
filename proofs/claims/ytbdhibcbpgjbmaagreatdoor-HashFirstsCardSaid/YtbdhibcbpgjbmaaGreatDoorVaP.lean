/- Package value, walked: Plain. -/
import Derived.Test.YtbdhibcbpgjbmaaGreatDoorVaO
namespace Go.Proofs.YtbdhibcbpgjbmaaGreatDoor
open Go.RowKit Fl
set_option linter.unusedVariables false
set_option maxRecDepth 100000

theorem flatI_none {L : List QI} {i r : Nat} (h : L.length ≤ i) : (flatI L)[i * 4 + r]? = none := by
 apply List.getElem?_eq_none
 rw [flatI_len]; omega
theorem flatI_set (L : List QI) (k : Nat) (t : QI) (h : k < L.length) : ((((flatI L).set (k * 4) (.int .i64 t.1)).set (k * 4 + 1) (.float .f64 t.2.1)).set (k * 4 + 2) (.int .i32 t.2.2.1)).set (k * 4 + 3) t.2.2.2 = flatI (L.set k t) := by
 apply List.ext_getElem?
 intro j
 obtain ⟨i, r, hr, rfl⟩ : ∃ i r, r < 4 ∧ j = i * 4 + r := ⟨j / 4, j % 4, by omega, by omega⟩
 have hl : (flatI L).length = L.length * 4 := flatI_len L
 by_cases hi : i < L.length
 ·by_cases e : i = k
  ·subst e
   have h2 : (L.set i t)[i]? = some t := by rw [List.getElem?_set_self h]
   obtain ⟨c0, c1, c2, c3⟩ := flatI_at h2
   match r, hr with
   | 0, _ => simp only [Nat.add_zero]; rw [c0]; simp only [List.getElem?_set, List.length_set]; simp; omega
   | 1, _ => rw [c1]; simp only [List.getElem?_set, List.length_set]; simp; omega
   | 2, _ => rw [c2]; simp only [List.getElem?_set, List.length_set]; simp; omega
   | 3, _ => rw [c3]; simp only [List.getElem?_set, List.length_set]; simp; omega
  ·have h2 : (L.set k t)[i]? = L[i]? := by rw [List.getElem?_set_ne (fun x => e x.symm)]
   have h3 : L[i]? = some L[i] := List.getElem?_eq_getElem hi
   rw [h3] at h2
   obtain ⟨c0, c1, c2, c3⟩ := flatI_at h2
   obtain ⟨e0, e1, e2, e3⟩ := flatI_at h3
   rw [List.getElem?_set_ne (by omega), List.getElem?_set_ne (by omega), List.getElem?_set_ne (by omega), List.getElem?_set_ne (by omega)]
   match r, hr with
   | 0, _ => simp only [Nat.add_zero]; rw [c0, e0]
   | 1, _ => rw [c1, e1]
   | 2, _ => rw [c2, e2]
   | 3, _ => rw [c3, e3]
 ·rw [List.getElem?_set_ne (by omega), List.getElem?_set_ne (by omega), List.getElem?_set_ne (by omega), List.getElem?_set_ne (by omega), flatI_none (by omega), flatI_none (by rw [List.length_set]; omega)]
def zeroQ : QI := (0, 0, 0, .slice none 0 0)
def zerosI (n : Nat) : Array Value := madeCells (Value.agg #[.int .i64 0, .float .f64 0, .int .i32 0, .slice none 0 0]).cells (n * 4)
theorem zerosI_list (n : Nat) : (zerosI n).toList = flatI (List.replicate n zeroQ) := by
 apply List.ext_getElem?
 intro j
 unfold zerosI
 rw [show (Value.agg #[.int .i64 0, .float .f64 0, .int .i32 0, .slice none 0 0]).cells = #[.int .i64 0, .float .f64 0, .int .i32 0, .slice none 0 0] from rfl]
 obtain ⟨i, r, hr, rfl⟩ : ∃ i r, r < 4 ∧ j = i * 4 + r := ⟨j / 4, j % 4, by omega, by omega⟩
 by_cases hj : i < n
 ·obtain ⟨c0, c1, c2, c3⟩ := flatI_at (show (List.replicate n zeroQ)[i]? = some zeroQ by simp [hj])
  match r, hr with
  | 0, _ => simp only [Nat.add_zero]; rw [c0]; simp [madeCells, zeroQ]; exact ⟨i * 4, by rw [List.getElem?_range (by omega)], by rw [show (i * 4) % 4 = 0 by omega]; rfl⟩
  | 1, _ => rw [c1]; simp [madeCells, zeroQ]; exact ⟨i * 4 + 1, by rw [List.getElem?_range (by omega)], by rw [show (i * 4 + 1) % 4 = 1 by omega]; rfl⟩
  | 2, _ => rw [c2]; simp [madeCells, zeroQ]; exact ⟨i * 4 + 2, by rw [List.getElem?_range (by omega)], by rw [show (i * 4 + 2) % 4 = 2 by omega]; rfl⟩
  | 3, _ => rw [c3]; simp [madeCells, zeroQ]; exact ⟨i * 4 + 3, by rw [List.getElem?_range (by omega)], by rw [show (i * 4 + 3) % 4 = 3 by omega]; rfl⟩
 ·rw [flatI_none (by simp; omega)]
  apply List.getElem?_eq_none
  simp [madeCells]; omega
theorem own_mkItem (n : Nat) (hn : n ≤ 2000000) (w : World) (base : Nat) (hb : base ≤ w.heap.size) : (w.alloc (.cells (zerosI n) 34)).ownsRow base 34 4 (.slice (some ⟨w.heap.size, 0, none⟩) n n) n (flatI (List.replicate n zeroQ)) := by
 have ho := World.ownsRow_lit (e := 34) (size := 4) w (zerosI n) n hb (by unfold maxLen; omega) (size_madeCells _ _)
 rw [zerosI_list] at ho
 exact ho
theorem run_mkItem (n : Nat) (hn : n ≤ 2000000) (w : World) : (Instr.makeSlice 23 (.int .i64 (n : Int)) (.int .i64 (n : Int))).run Tryz.prog w = .ok (.slice (some ⟨w.heap.size, 0, none⟩) n n) (w.alloc (.cells (zerosI n) 34)) := by
 obtain ⟨i0, hi, hz0, hz1, hz2⟩ := info_parts info_item
 have hr := run_make (P := Tryz.prog) w 23 34 i0 _ Tryz.underlying23 hi hz0 .i64 .i64 n n (by omega) (Int.le_refl _) (by rw [hz2]; omega) (by omega)
 simp only [Int.toNat_natCast, hz1] at hr
 exact hr

set_option maxHeartbeats 4000000 in
theorem plain_step (d : Nat) (ih : PlainAt d) : PlainAt (d + 1) := by
 intro ok A sh u w hd hA
 obtain ⟨s, V⟩ := A
 obtain ⟨hsl, hok, hbx⟩ := hd
 obtain ⟨hs, hv⟩ := hA
 simp only at hsl hok hbx hs hv
 obtain ⟨so, sc, rfl, e6, e7, _⟩ := hs.opened
 have hvl := VV.ok_len hok
 have HIH := Lib.hid ih; have HOK := Lib.hid hok; have HBX := Lib.hid hbx; have hsx := hv.store
 have hsf := run_store_float
 obtain ⟨W1, hW1⟩ : ∃ W1, W1 = (w.alloc (.cells #[.slice so s.length sc, u] 38)).alloc (.cells #[.slice none 0 0, .slice none 0 0, .int .i64 0] 25) := ⟨_, rfl⟩
 have HA := Lib.hid (show At2 W1 w.heap.size (.slice so s.length sc) u by rw [hW1]; exact (At2.new _ _ _ _).below (below_new _ _))
 have HR := Lib.hid (show At3 W1 (w.heap.size + 1) (.slice none 0 0) (.slice none 0 0) (.int .i64 0) by rw [hW1]; have := At3.new (w.alloc (.cells #[.slice so s.length sc, u] 38)) (.slice none 0 0) (.slice none 0 0) (.int .i64 0) 25; simpa using this)
 have HB1 := Lib.hid (show Below w.heap.size w W1 by rw [hW1]; exact (below_new _ _).alloc (by simp) _)
 have HZ := Lib.hid (show w.heap.size + 1 < W1.heap.size by rw [hW1]; simp)
 have HV := Lib.hid (hv.grow HB1.out)
 have HS := Lib.hid (hs.below HB1.out)
 obtain ⟨_, a0, a1, _⟩ := HA.out
 have hfold := hW1.symm
 clear ih hok hbx hv hs hW1
 go_enter Tryz.func38, Tryz.ntmps38
 go_wp2_with fail
 refine (vlen_calls _ _ _ HV.out).mono ?_
 rintro e w2 ⟨rfl, hB⟩
 have HA2 := Lib.hid (HA.out.below hB)
 have HR2 := Lib.hid (HR.out.below hB)
 have HV2 := Lib.hid (HV.out.grow hB)
 have HS2 := Lib.hid (HS.out.below hB)
 have HB2 := Lib.hid (HB1.out.trans (hB.mono HB1.out.size))
 have HZ2 := Lib.hid (Nat.lt_of_lt_of_le HZ.out hB.size)
 clear hB a0 a1 hfold
 obtain ⟨n, hn⟩ : ∃ n, n = V.len := ⟨_, rfl⟩
 rw [← hn] at hvl ⊢
 have HN := Lib.hid hn; clear hn
 have hmk := run_mkItem n (by omega) w2
 obtain ⟨W0, hW0⟩ : ∃ W0, W0 = w2.alloc (.cells (zerosI n) 34) := ⟨_, rfl⟩
 have HO0 := Lib.hid (show W0.ownsRow w2.heap.size 34 4 (.slice (some ⟨w2.heap.size, 0, none⟩) n n) n (flatI (List.replicate n zeroQ)) by rw [hW0]; exact own_mkItem n (by omega) w2 _ (Nat.le_refl _))
 have HW := Lib.hid (show Below w2.heap.size w2 W0 by rw [hW0]; exact below_new _ _)
 rw [← hW0] at hmk
 have HA0 := Lib.hid (HA2.out.below HW.out)
 have HR0 := Lib.hid (HR2.out.below HW.out)
 have HV0 := Lib.hid (HV2.out.grow HW.out)
 have HS0 := Lib.hid (HS2.out.below HW.out)
 have HB0 := Lib.hid (HB2.out.trans (HW.out.mono HB2.out.size))
 clear hW0
 go_wp2_with fail
 clear hmk
 go_loopw [11] (fun i wr => ∃ (k : Nat) (L : List QI), k ≤ n ∧ i = .int .i64 k ∧ L.length = n ∧ wr.ownsRow w2.heap.size 34 4 (.slice (some ⟨w2.heap.size, 0, none⟩) n n) n (flatI L) ∧
  (∀ i, i < k → ∃ v, L[i]? = some ((itA (plA d) V i).1, (itA (plA d) V i).2.1, (itA (plA d) V i).2.2.1, v) ∧ IsB wr (fun b => w2.heap.size < b) v (itA (plA d) V i).2.2.2) ∧ W0.grownBy wr (some w2.heap.size)) (fun i _ => n - (intOf i).toNat)
 case atStart => exact ⟨0, _, by omega, rfl, List.length_replicate .., HO0.out, fun i h => absurd h (by omega), grown_refl _ _⟩
 case round =>
  obtain ⟨k, L, hk, rfl, hL, hown, hall, hgr⟩ := hrel
  have HO := Lib.hid hown; have HG := Lib.hid hgr; have HL := Lib.hid hL; have HALL := Lib.hid hall
  have HBw := Lib.hid (HW.out.grown hgr HW.out.size (fun j hj => by cases hj; omega))
  have HB := Lib.hid (HB2.out.trans (HBw.out.mono HB2.out.size))
  have HAr := Lib.hid (HA2.out.below HBw.out)
  have HRr := Lib.hid (HR2.out.below HBw.out)
  have HVr := Lib.hid (HV2.out.grow HBw.out)
  have HSr := Lib.hid (HS2.out.below HBw.out)
  have HGS := Lib.hid (hown.lt w2.heap.size rfl).2
  obtain ⟨_, a0, a1, _⟩ := HAr.out
  clear hown hgr hL hall
  by_cases hlt : k < n
  ·go_wp2_with fail
   refine (item_calls d HIH.out u V k wr HVr.out HOK.out HBX.out (by rw [← HN.out]; exact hlt)).mono ?_
   rintro e w3 ⟨bx, rfl, hbx, hB⟩
   obtain ⟨bo, bcap, rfl, _⟩ := hbx.len
   obtain ⟨x, hx⟩ : ∃ x, x = itA (plA d) V k := ⟨_, rfl⟩
   rw [← hx] at hbx ⊢
   have HX := Lib.hid hx; have HBX3 := Lib.hid hbx; have HB3 := Lib.hid hB
   have HO3 := Lib.hid (owns_below2 HO.out hB)
   have HG3 := Lib.hid (grown_trans HG.out (grown_any (below_grown hB) _))
   obtain ⟨xk, xn, xc, xb⟩ := x
   simp only at HBX3 ⊢
   have hLk : k < L.length := by rw [HL.out]; exact hlt
   obtain ⟨q0, hq0⟩ : ∃ q, L[k]? = some q := ⟨_, List.getElem?_eq_getElem hLk⟩
   obtain ⟨f0, f1, f2, f3⟩ := flatI_at hq0
   have e0 := (HO3.out.cellAt (k * 4) (by omega)).trans f0
   have e1 := (HO3.out.cellAt (k * 4 + 1) (by omega)).trans f1
   have e2 := (HO3.out.cellAt (k * 4 + 2) (by omega)).trans f2
   have e3 := (HO3.out.cellAt (k * 4 + 3) (by omega)).trans f3
   have z0 := World.ownsRow.frozenAt HO3.out (k * 4)
   have z1 := World.ownsRow.frozenAt HO3.out (k * 4 + 1)
   have z2 := World.ownsRow.frozenAt HO3.out (k * 4 + 2)
   have z3 := World.ownsRow.frozenAt HO3.out (k * 4 + 3)
   have HLk := Lib.hid hLk; clear hbx hB hx f0 f1 f2 f3 hq0 hLk a0 a1
   go_wp2_with fail
   go_roundw
   case rel =>
    refine ⟨k + 1, L.set k (xk, xn, xc, .slice bo xb.length bcap), by omega, by go_num, by rw [List.length_set]; exact HL.out, ?_, ?_, ?_⟩
    ·have q1 := (World.ownsRow.stored HO3.out (k * 4) (.int .i64 xk)).1
     have q2 := (World.ownsRow.stored q1 (k * 4 + 1) (.float .f64 xn)).1
     have q3 := (World.ownsRow.stored q2 (k * 4 + 2) (.int .i32 xc)).1
     have q4 := (World.ownsRow.stored q3 (k * 4 + 3) (.slice bo xb.length bcap)).1
     rw [flatI_set L k (xk, xn, xc, .slice bo xb.length bcap) HLk.out] at q4
     exact q4
    ·intro i hi
     have kk : ∀ x y z t, Kept (fun b => w2.heap.size < b) w3 ((((w3.setCell ⟨w2.heap.size, k * 4, none⟩ x).setCell ⟨w2.heap.size, k * 4 + 1, none⟩ y).setCell ⟨w2.heap.size, k * 4 + 2, none⟩ z).setCell ⟨w2.heap.size, k * 4 + 3, none⟩ t) := fun x y z t => (((Kept.setCell _ _ _ (by simp)).trans (Kept.setCell _ _ _ (by simp))).trans (Kept.setCell _ _ _ (by simp))).trans (Kept.setCell _ _ _ (by simp))
     by_cases e : i = k
     ·subst e
      rw [← HX.out]
      refine ⟨_, by rw [List.getElem?_set_self HLk.out], (HBX3.out.wide (fun b _ (h : wr.heap.size ≤ b) => by have := HGS.out; omega)).keep (kk _ _ _ _) (fun _ _ h => h)⟩
     ·obtain ⟨v, g1, g2⟩ := HALL.out i (by omega)
      exact ⟨v, by rw [List.getElem?_set_ne (fun h => e h.symm)]; exact g1, (g2.grow HB3.out).keep (kk _ _ _ _) (fun _ _ h => h)⟩
    ·exact grown_trans (grown_trans (grown_trans (grown_trans HG3.out (grown_setCell _ ⟨w2.heap.size, k * 4, none⟩ _)) (grown_setCell _ ⟨w2.heap.size, k * 4 + 1, none⟩ _)) (grown_setCell _ ⟨w2.heap.size, k * 4 + 2, none⟩ _)) (grown_setCell _ ⟨w2.heap.size, k * 4 + 3, none⟩ _)
   case measure => simp [intOf]; omega
  ·have hkn : k = n := by omega
   have HQ := Lib.hid (show Quad wr (fun b => w2.heap.size < b) L ((List.range n).map (itA (plA d) V)) by
    refine ⟨by rw [HL.out]; simp, fun i x hx => ?_⟩
    simp only [List.getElem?_map, Option.map_eq_some_iff] at hx
    obtain ⟨j, hj, rfl⟩ := hx
    obtain ⟨hji, e⟩ := List.getElem?_eq_some_iff.1 hj
    simp at e hji
    subst e
    exact HALL.out i (by omega))
   have HITS := Lib.hid ((Its.of_own HO.out HQ.out).wide (ok' := fun b => w2.heap.size ≤ b) (fun b _ h => by rcases h with h | h <;> omega))
   clear hkn
   go_wp2_with fail
   have HSL := Lib.hid (show s.length ≤ 2000000 by omega)
   obtain ⟨WD, hWD⟩ : ∃ WD, wr.drew = WD := ⟨_, rfl⟩
   have hBd : Below wr.heap.size wr WD := by rw [← hWD]; exact Below.drewN' (Below.refl _ _) 1
   have HAd := Lib.hid (HAr.out.below hBd)
   have HRd := Lib.hid (HRr.out.below hBd)
   have HSd := Lib.hid (HSr.out.below hBd)
   have HVd := Lib.hid (HVr.out.grow hBd)
   have HITSd := Lib.hid (HITS.out.grow hBd)
   have HBd := Lib.hid (HB.out.trans (hBd.mono HB.out.size))
   have HGd := Lib.hid (Nat.lt_of_lt_of_le HGS.out hBd.size)
   clear hBd a0 a1
   refine rgn (S := fun w' => w'.cell? ⟨w.heap.size, 0, none⟩ = some (.slice so s.length sc) ∧ w'.cell? ⟨w.heap.size, 1, none⟩ = some u) hWD ⟨HAd.out.2.1, HAd.out.2.2.1⟩ (fun hHeld => ?_)
   clear hWD; apply tk 0; apply tk 1; apply tk 3; apply tk 4; apply tk 5
   apply rdy 2; intro K hK; go_simp
   refine (CloneInt_calls _ s _ HSd.out HSL.out).mono ?_
   rintro e w3 ⟨v1, rfl, hs1, hB⟩
   obtain ⟨ao1, cap1, rfl, _⟩ := hs1.opened
   have HS1 := Lib.hid hs1
   have HA3 := Lib.hid (HAd.out.below hB)
   have HR3 := Lib.hid (HRd.out.below hB)
   have HV3 := Lib.hid (HVd.out.grow hB)
   have HB3 := Lib.hid (HBd.out.trans (hB.mono HBd.out.size))
   have HI3 := Lib.hid (HITSd.out.grow hB)
   clear hB hs1
   try go_simp
   refine hK.out _ _ ⟨HA3.out.2.1, HA3.out.2.2.1⟩ (fun hHeld => ?_)
   clear hK K
   apply rdy 6; intro K hK; go_simp
   refine (class_calls _ _ _ HV3.out).mono ?_
   rintro e w4 ⟨rfl, hB⟩
   have HS4 := Lib.hid (HS1.out.below hB)
   have HA4 := Lib.hid (HA3.out.below hB)
   have HR4 := Lib.hid (HR3.out.below hB)
   have HB4 := Lib.hid (HB3.out.trans (hB.mono HB3.out.size))
   have HI4 := Lib.hid (HI3.out.grow hB)
   clear hB
   obtain ⟨_, r0, r1, r2, rf⟩ := HR4.out
   have rf0 := rf 0
   have rf1 := rf 1
   have rf2 := rf 2
   clear rf
   try go_simp
   refine hK.out _ _ ⟨HA4.out.2.1, HA4.out.2.2.1⟩ (fun hHeld => ?_)
   clear hK K; apply tk 7
   apply rdy 8; intro K hK; go_simp
   try go_wp2
   try go_simp
   refine hK.out _ _ (fun h => ⟨h.2.1, h.2.2.1⟩) (((HA4.out.grown (grown_setCell _ ⟨w.heap.size + 1, 0, none⟩ _) (by simp)).grown (grown_setCell _ ⟨w.heap.size + 1, 1, none⟩ _) (by simp)).grown (grown_setCell _ ⟨w.heap.size + 1, 2, none⟩ _) (by simp)) (fun hHeld => ?_)
   clear hK K
   refine wpAnyH_done (by kernel_rfl) ?_ _
   clear hHeld
   have HPL := Lib.hid (show plA (d + 1) (s, V) = .mk s ((List.range n).map (itA (plA d) V)) V.cls by simp only [plA]; rw [← HN.out])
   have HDN := Lib.hid (plain_done (f := V.cls) (r := w.heap.size + 1) (ok := fun b => w2.heap.size ≤ b) (HS4.out.keep (Kept.refl _ _) (fun b _ (h : WD.heap.size ≤ b) => by have := HGd.out; omega)) HI4.out (by have := HZ2.out; omega))
   have HBF := Lib.hid (show ∀ x y z, Below w.heap.size w (((w4.setCell ⟨w.heap.size + 1, 0, none⟩ x).setCell ⟨w.heap.size + 1, 1, none⟩ y).setCell ⟨w.heap.size + 1, 2, none⟩ z) from fun x y z => ((HB4.out.setCell (Nat.le_succ _) _).setCell (Nat.le_succ _) _).setCell (Nat.le_succ _) _)
   go_wp2
   refine bodyPost_ret (v := .agg #[.slice ao1 s.length cap1, .slice (some ⟨w2.heap.size, 0, none⟩) n n, .int .i64 V.cls]) (by simp [results, Tryz.results38, go_sem, r0, r1, r2]) rfl ⟨_, rfl, ?_, HBF.out _ _ _⟩
   rw [HPL.out]
   exact (HDN.out _ _ _).wide (fun b _ (h : w2.heap.size ≤ b) => by have := HZ2.out; omega)
theorem plain_calls_at : ∀ d, PlainAt d := by
 intro d
 induction d with
 | zero => intro ok A sh u w h; exact h.elim
 | succ d ih => exact plain_step d ih
end Go.Proofs.YtbdhibcbpgjbmaaGreatDoor

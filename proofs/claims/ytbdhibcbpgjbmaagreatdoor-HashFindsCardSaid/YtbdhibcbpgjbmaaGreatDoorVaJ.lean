/- Package value, walked: boxes. -/
import Derived.Test.YtbdhibcbpgjbmaaGreatDoorVaI
namespace Go.Proofs.YtbdhibcbpgjbmaaGreatDoor
open Go.RowKit Fl
set_option linter.unusedVariables false
set_option maxRecDepth 100000

theorem VecOr.no2 {c er : Int} {V : VV} {w w' : World} (h : c = er) (he : er ≠ 0) (hb : Below w.heap.size w w') : VecOr c V w (.returned (.tuple #[.agg #[.nilIface], .int .i64 er])) w' := by subst h; exact VecOr.no he hb
/-- The array that a plain one describes. -/
noncomputable def arrP : Nat → PA → List Int × VV
 | 0, _ => ([], .none)
 | d + 1, p => (p.s, if p.f = 1 then .chars (p.l.map (fun x => x.2.2.1)) else if p.f = 2 then .boxes (p.l.map fun x => arrP d (Go.Proofs.YtbdhibcbpgjbmaaGreatDoor.hd x.2.2.2)) else numsV p.l)
/-- An array, or why there is none. -/
def ArrOr (c : Int) (A : List Int × VV) (w : World) (e : Ending) (w' : World) : Prop := ∃ sh u, e = .returned (.tuple #[.agg #[sh, u], .int .i64 c]) ∧ (c = 0 → IsArr w' (fun b => w.heap.size ≤ b) sh u A) ∧ (c ≠ 0 → sh = .slice none 0 0 ∧ u = .nilIface) ∧ Below w.heap.size w w'
theorem ArrOr.no {c : Int} {A : List Int × VV} {w w' : World} (hc : c ≠ 0) (hb : Below w.heap.size w w') : ArrOr c A w (.returned (.tuple #[.agg #[.slice none 0 0, .nilIface], .int .i64 c])) w' := ⟨_, _, rfl, fun h => absurd h hc, fun _ => ⟨rfl, rfl⟩, hb⟩
theorem ArrOr.yes {c : Int} {A : List Int × VV} {w w' : World} {sh u : Value} (hc : c = 0) (hv : IsArr w' (fun b => w.heap.size ≤ b) sh u A) (hb : Below w.heap.size w w') : ArrOr c A w (.returned (.tuple #[.agg #[sh, u], .int .i64 0])) w' := ⟨_, _, by rw [hc], fun _ => hv, fun h => absurd hc h, hb⟩
/-- ofWithin, at depth d. -/
def OfAt (d : Nat) : Prop := ∀ (ok : Nat → Prop) (p : PA) (u : Value) (n : Nat) (w : World), lo n p → IsP w ok u p → TabAt w → Calls Tryz.prog 63 #[u, .int .i64 (d : Int)] w (ArrOr (chk d p) (arrP d p) w)
theorem IsArr.keep {w w' : World} {ok ok' : Nat → Prop} {sh u : Value} {p : List Int × VV} (hk : Kept ok w w') (hm : ∀ b, b < w.heap.size → ok b → ok' b) (h : IsArr w ok sh u p) : IsArr w' ok' sh u p := ⟨h.1.keep hk hm, h.2.keep hk hm⟩
theorem IsArr.grow {w w' : World} {ok : Nat → Prop} {sh u : Value} {p : List Int × VV} (h : IsArr w ok sh u p) (hb : Below w.heap.size w w') : IsArr w' ok sh u p := h.keep (Kept.below hb) (fun _ _ h => h)
theorem IsArr.wide {w : World} {ok ok' : Nat → Prop} {sh u : Value} {p : List Int × VV} (h : IsArr w ok sh u p) (hm : ∀ b, b < w.heap.size → ok b → ok' b) : IsArr w ok' sh u p := h.keep (Kept.refl _ _) hm
theorem arrP_s {d : Nat} {p : PA} (h : chk d p = 0) : (arrP d p).1 = p.s ∧ p.s.length ≤ 8 := by
 cases d with
 | zero => simp [chk] at h
 | succ d => exact ⟨rfl, (prodR_len (chk_well.1 h).2.2.1).1⟩
/-- The cells of arrays that a call makes. -/
theorem Arrs.of_own {w : World} {base : Nat} {ok : Nat → Prop} {g n : Nat} {A B : Nat → Value} {l : List (List Int × VV)} (h : w.ownsRow base 38 2 (.slice (some ⟨g, 0, none⟩) n n) n (pairL n A B)) (hn : l.length = n) (hm : n ≤ 2000000)
  (hl : ∀ i p, l[i]? = some p → IsArr w ok (A i) (B i) p) (hg : ok g) : Arrs w ok (.slice (some ⟨g, 0, none⟩) n n) l := by
 subst hn
 refine ⟨_, _, A, B, rfl, Nat.le_refl _, by unfold maxLen; omega, fun i hi => ⟨g, 0, rfl, hg, ?_, ?_⟩, fun i hi => (hl i _ (List.getElem?_eq_getElem hi)).1, fun i hi => (hl i _ (List.getElem?_eq_getElem hi)).2⟩
 ·rw [Nat.zero_add, owns_cell2 h (i * 2) (by rw [pairL_len]; omega), pairL_fst]
 ·rw [Nat.zero_add, owns_cell2 h (i * 2 + 1) (by rw [pairL_len]; omega), pairL_snd]
theorem own_mkA2 (n : Nat) (hn : n ≤ 2000000) (w : World) (base : Nat) (hb : base ≤ w.heap.size) : (w.alloc (.cells (zerosA n) 38)).ownsRow base 38 2 (.slice (some ⟨w.heap.size, 0, none⟩) n n) n (pairL n (fun _ => .slice none 0 0) (fun _ => .nilIface)) := by
 have := own_mkA n hn w base hb (fun _ => .nilIface)
 rwa [show upTo (fun _ => Value.nilIface) 0 = (fun _ => .nilIface) from by funext i; simp [upTo]] at this
theorem itE2 {c : PA → Int} {x : PI} {q : PA} (h : x.1 = 2) (h2 : x.2.2.2 = [q]) : itE c 2 x = c q := itE_box h h h2

set_option maxHeartbeats 4000000 in
theorem boxes_items (d : Nat) (ih : OfAt d) {ok : Nat → Prop} (v : Value) (l : List PI) (n : Nat) (w : World) (hd : d ≤ 1000) (hv : Its w ok v l) (hm : l.length ≤ 1048576) (hw : ∀ x ∈ l, ∀ q ∈ x.2.2.2, lo n q) (hT : TabAt w) :
  Calls Tryz.prog 119 #[v, .int .i64 ((d : Int) + 1)] w (VecOr (fe (itE (chk d) 2) l) (.boxes (l.map fun x => arrP d (Go.Proofs.YtbdhibcbpgjbmaaGreatDoor.hd x.2.2.2))) w) := by
 have HIH := Lib.hid ih; have HV := Lib.hid hv; have HT := Lib.hid hT; have HWF := Lib.hid hw; have HM := Lib.hid hm
 obtain ⟨ao, cap, rfl, hc1, hc2⟩ := hv.len
 unfold maxLen at hc2
 have hdd : (d : Int) + 1 - 1 = d := by omega
 have HDD := Lib.hid hdd; clear hv hT hw ih hdd
 have hst := run_store_float
 have hmk := run_mkA l.length (by omega) (w.alloc (.cells #[.nilIface] 36))
 obtain ⟨W0, hW0⟩ : ∃ W0, W0 = (w.alloc (.cells #[.nilIface] 36)).alloc (.cells (zerosA l.length) 38) := ⟨_, rfl⟩
 have HO0 : Hid (W0.ownsRow (w.heap.size + 1) 38 2 (.slice (some ⟨w.heap.size + 1, 0, none⟩) l.length l.length) l.length (pairL l.length (fun _ => .slice none 0 0) (fun _ => .nilIface))) := Lib.hid (by
  have := own_mkA2 l.length (by omega) (w.alloc (.cells #[.nilIface] 36)) (w.heap.size + 1) (by simp)
  rw [hW0]; simpa using this)
 have HA := Lib.hid (show At1 W0 w.heap.size .nilIface by rw [hW0]; exact (At1.new _ _ _).below (below_new _ _))
 have HW := Lib.hid (show Below w.heap.size w W0 by rw [hW0]; exact (below_new _ _).alloc (by simp) _)
 go_enter Tryz.func119, Tryz.ntmps119
 go_wp2_with fail
 rw [← hW0]
 clear hW0 hmk
 go_loopw [16] (fun i wr => ∃ (k : Nat) (A B : Nat → Value), k ≤ l.length ∧ i = .int .i64 k ∧ fe (itE (chk d) 2) (l.take k) = 0 ∧ wr.ownsRow (w.heap.size + 1) 38 2 (.slice (some ⟨w.heap.size + 1, 0, none⟩) l.length l.length) l.length (pairL l.length A B) ∧
  (∀ i x, l[i]? = some x → i < k → IsArr wr (fun b => w.heap.size + 1 < b) (A i) (B i) (arrP d (Go.Proofs.YtbdhibcbpgjbmaaGreatDoor.hd x.2.2.2)) ∧ (arrP d (Go.Proofs.YtbdhibcbpgjbmaaGreatDoor.hd x.2.2.2)).1.length ≤ 8) ∧ W0.grownBy wr (some (w.heap.size + 1))) (fun i _ => l.length - (intOf i).toNat)
 case atStart => exact ⟨0, _, _, by omega, rfl, rfl, HO0.out, fun i x _ h => absurd h (by omega), grown_refl _ _⟩
 case round =>
  obtain ⟨k, A, B, hk, rfl, hfe, hown, hall, hgr⟩ := hrel
  have HFE := Lib.hid hfe; have HO := Lib.hid hown; have HG := Lib.hid hgr; have HALL := Lib.hid hall
  have HB := Lib.hid (HW.out.grown hgr HW.out.size (fun j hj => by cases hj; omega))
  have hA2 := Lib.hid (HA.out.grown hgr (by simp))
  by_cases hlt : k < l.length
  ·have hx := List.getElem?_eq_getElem hlt
   obtain ⟨x, hxx⟩ : ∃ x, x = l[k] := ⟨_, rfl⟩
   rw [← hxx] at hx
   clear hxx; have HXK := Lib.hid hx
   obtain ⟨b, off, bo, bc, rfl, _, c0, c1, c2, c3, hbx⟩ := (HV.out.grow HB.out).at hx
   obtain ⟨_, _, e1, e6, e7⟩ := hbx.len
   cases e1
   unfold maxLen at e7
   have HLX := Lib.hid (HWF.out x (List.mem_of_getElem? hx))
   obtain ⟨kd, nm, ch, bx⟩ := x
   simp only at c0 c1 c2 c3 HLX e6
   have HBX := Lib.hid hbx
   simp only at HBX
   obtain ⟨W2, hW2⟩ : ∃ W2, W2 = wr.alloc (.cells #[.int .i64 kd, .float .f64 nm, .int .i32 ch, .slice bo bx.length bc] 34) := ⟨_, rfl⟩
   have HA4 := Lib.hid (show Blk4 W2 wr.heap.size _ _ _ _ by rw [hW2]; exact Blk4.new wr _ _ _ _ _)
   have HO2 := Lib.hid (show W2.ownsRow (w.heap.size + 1) 38 2 (.slice (some ⟨w.heap.size + 1, 0, none⟩) l.length l.length) l.length (pairL l.length A B) by rw [hW2]; exact HO.out.alloc _)
   have HG2 := Lib.hid (show W0.grownBy W2 (some (w.heap.size + 1)) by rw [hW2]; exact grown_trans HG.out (grown_any (below_grown (below_new _ _)) _))
   have hA3 := Lib.hid (HA.out.grown HG2.out (by simp))
   have HBn := Lib.hid (show Below wr.heap.size wr W2 by rw [hW2]; exact below_new _ _)
   have HBB := Lib.hid (HB.out.trans (HBn.out.mono HB.out.size))
   obtain ⟨_, a0, af⟩ := hA3.out
   have af0 := af 0
   obtain ⟨_, d0, d1, d2, d3, _⟩ := HA4.out
   have hfold := hW2.symm
   clear hown hgr hfe hall hx hbx hW2 af
   by_cases hk2 : kd = 2
   rotate_left
   ·have h0e : (kd != 2) = true := by simpa using hk2
    have HNO := Lib.hid (show fe (itE (chk d) 2) l = 1 by rw [fe_hit HXK.out HFE.out (by rw [itE_kind hk2]; decide), itE_kind hk2])
    clear hk2
    go_wp2_with fail
    refine bodyPost_ret (v := .tuple #[.agg #[.nilIface], .int .i64 1]) (by simp [results, Tryz.results119, go_sem, a0]) rfl ?_
    have := VecOr.no (c := fe (itE (chk d) 2) l) (V := .boxes (l.map fun x => arrP d (Go.Proofs.YtbdhibcbpgjbmaaGreatDoor.hd x.2.2.2))) (w := w) (by rw [HNO.out]; decide) (HBB.out.setCell (Nat.le_refl _) (p := ⟨w.heap.size, 0, none⟩) .nilIface)
    rw [HNO.out] at this ⊢
    exact this
   subst hk2
   by_cases hb1 : bx.length = 1
   rotate_left
   ·have hne2 : ((bx.length : Int) != 1) = true := by simpa using (show (bx.length : Int) ≠ 1 by omega)
    have HNO := Lib.hid (show fe (itE (chk d) 2) l = 1 by rw [fe_hit HXK.out HFE.out (by rw [itE_len rfl hb1]; decide), itE_len rfl hb1])
    clear hb1
    go_wp2_with fail
    refine bodyPost_ret (v := .tuple #[.agg #[.nilIface], .int .i64 1]) (by simp [results, Tryz.results119, go_sem, a0]) rfl ?_
    have := VecOr.no (c := fe (itE (chk d) 2) l) (V := .boxes (l.map fun x => arrP d (Go.Proofs.YtbdhibcbpgjbmaaGreatDoor.hd x.2.2.2))) (w := w) (by rw [HNO.out]; decide) (HBB.out.setCell (Nat.le_refl _) (p := ⟨w.heap.size, 0, none⟩) .nilIface)
    rw [HNO.out] at this ⊢
    exact this
   obtain ⟨q, hq⟩ := List.length_eq_one_iff.1 hb1
   have HQE := Lib.hid hq
   have hlen0 : 0 < bx.length := by omega
   have hne2 : ((bx.length : Int) != 1) = false := by simpa using (show (bx.length : Int) = 1 by omega)
   obtain ⟨b', off', so', sc', io', ic', rfl, _, f0, f1, f2, hP⟩ := (HBX.out.grow HBn.out).at (k := 0) (by rw [HQE.out]; rfl : bx[0]? = some q)
   have HQ := Lib.hid (HIH.out ok q _ n W2 (HLX.out q (by show q ∈ bx; rw [HQE.out]; simp)) hP (fun j hj => keep_below HBB.out _ _ (HT.out j hj)))
   simp only [Nat.zero_mul, Nat.add_zero] at f0 f1 f2
   have HHD := Lib.hid (show Go.Proofs.YtbdhibcbpgjbmaaGreatDoor.hd bx = q from hd_at (by rw [HQE.out]; rfl))
   have HIT := Lib.hid (show itE (chk d) 2 (2, nm, ch, bx) = chk d q from itE2 rfl HQE.out)
   obtain ⟨er, her⟩ : ∃ er, er = chk d q := ⟨_, rfl⟩
   rw [← her] at HQ HIT
   have HER := Lib.hid her; clear hP hb1 hq her; have hdd := HDD.out
   go_wp2_with fail
   refine HQ.out.mono ?_
   rintro e w3 ⟨sh, u, rfl, hyes, hno, hB3⟩
   clear hdd; have HB3 := Lib.hid hB3
   have HBW := Lib.hid (HBB.out.trans (hB3.mono HBB.out.size))
   have HO3 := Lib.hid (owns_below2 HO2.out hB3)
   have HG3 := Lib.hid (grown_trans HG2.out (grown_any (below_grown hB3) _))
   have hA5 := Lib.hid (hA3.out.below hB3)
   clear hB3 d0 d1 d2 d3 f0 f1 f2 hfold a0 af0 c0 c1 c2 c3
   by_cases he0 : er = 0
   rotate_left
   ·obtain ⟨rfl, rfl⟩ := hno he0
    have hne3 : (er != 0) = true := by simpa using he0
    have HNO := Lib.hid (show fe (itE (chk d) 2) l = er by rw [fe_hit HXK.out HFE.out (by rw [HIT.out]; exact he0), HIT.out])
    have HE0 := Lib.hid he0
    have hA6 := Lib.hid (hA5.out.below (below_new w3 (.cells #[.slice none 0 0, .nilIface] 38)))
    obtain ⟨_, a0, af⟩ := hA6.out
    have af0 := af 0
    have a9 := Lib.hid ((hA6.out.set .nilIface).2.1)
    clear hyes hno he0 af
    go_wp2_with fail
    refine bodyPost_ret (v := .tuple #[.agg #[.nilIface], .int .i64 er]) (by simp [results, Tryz.results119, go_sem, a9.out]) rfl ?_
    refine VecOr.no2 HNO.out HE0.out ?_
    first
     | exact (HBW.out.alloc HBW.out.size _).setCell (Nat.le_refl _) (p := ⟨w.heap.size, 0, none⟩) .nilIface
     | exact (HBW.out.setCell (Nat.le_refl _) (p := ⟨w.heap.size, 0, none⟩) .nilIface).alloc (by simpa using HBW.out.size) _
   ·have hne3 : (er != 0) = false := by simpa using he0
    obtain ⟨hs1, hv1⟩ := hyes he0
    have HFT := Lib.hid (fe_take HXK.out HFE.out (by rw [HIT.out]; exact he0))
    obtain ⟨hps, hps8⟩ := arrP_s (show chk d q = 0 by rw [← HER.out]; exact he0)
    have HP8 := Lib.hid (show (arrP d q).1.length ≤ 8 by rw [hps]; exact hps8)
    obtain ⟨R, hR⟩ : ∃ R, R = arrP d q := ⟨_, rfl⟩
    rw [← hR] at hs1 hv1
    obtain ⟨ao1, cap1, rfl, _⟩ := hs1.opened
    have HARR := Lib.hid (show IsArr w3 (fun b => W2.heap.size ≤ b) (.slice ao1 R.1.length cap1) u R from ⟨hs1, hv1⟩)
    have HRR := Lib.hid hR; have hsx := hv1.store
    obtain ⟨W4, hW4⟩ : ∃ W4, W4 = w3.alloc (.cells #[.slice ao1 R.1.length cap1, u] 38) := ⟨_, rfl⟩
    have HAA := Lib.hid (show At2 W4 w3.heap.size (.slice ao1 R.1.length cap1) u by rw [hW4]; exact At2.new _ _ _ _)
    have HB4 := Lib.hid (show Below w3.heap.size w3 W4 by rw [hW4]; exact below_new _ _)
    have HO4 := Lib.hid (owns_below2 HO3.out HB4.out)
    have HG4 := Lib.hid (grown_trans HG3.out (grown_any (below_grown HB4.out) _))
    have HZ := Lib.hid (show w.heap.size + 1 < W2.heap.size from (HO2.out.lt _ rfl).2)
    have e1 := owns_cell2 HO4.out (k * 2) (by rw [pairL_len]; omega)
    have e2 := owns_cell2 HO4.out (k * 2 + 1) (by rw [pairL_len]; omega)
    have z1 := World.ownsRow.frozenAt HO4.out (k * 2)
    have z2 := World.ownsRow.frozenAt HO4.out (k * 2 + 1)
    obtain ⟨_, m0, m1, _⟩ := HAA.out
    have hfold4 := hW4.symm
    clear hyes hno he0 hs1 hv1 hps hps8 hW4 hR
    go_wp2_with fail
    go_roundw
    case rel =>
     have kk : Kept (fun b => w.heap.size + 1 < b) W4 ((W4.setCell ⟨w.heap.size + 1, k * 2, none⟩ (.slice ao1 R.1.length cap1)).setCell ⟨w.heap.size + 1, k * 2 + 1, none⟩ u) := (Kept.setCell _ _ _ (by simp)).trans (Kept.setCell _ _ _ (by simp))
     refine ⟨k + 1, upd A k (.slice ao1 R.1.length cap1), upd B k u, by omega, by go_num, HFT.out, ?_, ?_, grown_trans (grown_trans HG4.out (grown_setCell _ ⟨w.heap.size + 1, k * 2, none⟩ _)) (grown_setCell _ ⟨w.heap.size + 1, k * 2 + 1, none⟩ _)⟩
     ·have q1 := (World.ownsRow.stored HO4.out (k * 2) (.slice ao1 R.1.length cap1)).1
      have q2 := (World.ownsRow.stored q1 (k * 2 + 1) u).1
      rwa [pairL_set1, pairL_set2] at q2
     ·intro i y hy hik
      by_cases e : i = k
      ·subst e
       have : y = (2, nm, ch, bx) := Option.some.inj (hy.symm.trans HXK.out)
       subst this
       simp only [upd, if_true]
       rw [HHD.out]
       refine ⟨?_, HP8.out⟩
       rw [← HRR.out]
       exact ((HARR.out.grow HB4.out).wide (fun b _ (h : W2.heap.size ≤ b) => by have := HZ.out; omega)).keep kk (fun _ _ h => h)
      ·simp only [upd, if_neg e]
       have := HALL.out i y hy (by omega)
       exact ⟨((this.1.grow HBn.out).grow HB3.out |>.grow HB4.out).keep kk (fun _ _ h => h), this.2⟩
    case measure => simp [intOf]; omega
  ·have hkl : k = l.length := by omega
   have HNO := Lib.hid (show fe (itE (chk d) 2) l = 0 by have := HFE.out; rwa [hkl, List.take_length] at this)
   have HS := Lib.hid (show Arrs wr (fun b => w.heap.size + 1 ≤ b) (.slice (some ⟨w.heap.size + 1, 0, none⟩) l.length l.length) (l.map fun x => arrP d (Go.Proofs.YtbdhibcbpgjbmaaGreatDoor.hd x.2.2.2)) by
    refine Arrs.of_own HO.out (by simp) (by omega) (fun i p hp => ?_) (Nat.le_refl _)
    simp only [List.getElem?_map, Option.map_eq_some_iff] at hp
    obtain ⟨x, hx, rfl⟩ := hp
    exact ((HALL.out i x hx (by have := (List.getElem?_eq_some_iff.1 hx).1; omega)).1).wide (fun b _ h => Nat.le_of_lt h))
   have HSH := Lib.hid (show ∀ p ∈ (l.map fun x => arrP d (Go.Proofs.YtbdhibcbpgjbmaaGreatDoor.hd x.2.2.2)), p.1.length ≤ 1048576 by
    intro p hp
    obtain ⟨x, hx, rfl⟩ := List.mem_map.1 hp
    obtain ⟨i, hi⟩ := List.mem_iff_getElem?.1 hx
    have := (HALL.out i x hi (by have := (List.getElem?_eq_some_iff.1 hi).1; omega)).2
    omega)
   have HLM := Lib.hid (show (l.map fun x => arrP d (Go.Proofs.YtbdhibcbpgjbmaaGreatDoor.hd x.2.2.2)).length ≤ 1048576 by rw [List.length_map]; exact HM.out)
   have HLN := Lib.hid (show (l.map fun x => arrP d (Go.Proofs.YtbdhibcbpgjbmaaGreatDoor.hd x.2.2.2)).length = l.length by rw [List.length_map])
   obtain ⟨L, hL⟩ : ∃ L, L = (l.map fun x => arrP d (Go.Proofs.YtbdhibcbpgjbmaaGreatDoor.hd x.2.2.2)) := ⟨_, rfl⟩
   rw [← hL] at HS HSH HLM HLN
   have HLE := Lib.hid hL; clear hown hgr hfe hall hkl hL
   go_wp2_with fail
   refine (vboxes_calls _ L _ HS.out HLM.out HSH.out).mono ?_
   rintro e w2 ⟨u, rfl, hu, hB2⟩
   have hsx := hu.store
   rw [HLE.out] at hu
   have HU := Lib.hid hu
   obtain ⟨_, a0, af⟩ := hA2.out.below hB2
   have af0 := af 0
   have HB2 := Lib.hid (HB.out.trans (hB2.mono HB.out.size))
   have HZ := Lib.hid (show w.heap.size + 1 ≤ wr.heap.size from hA2.out.1)
   clear hB2 hu af
   go_wp2_with fail
   refine bodyPost_ret (v := .tuple #[.agg #[u], .int .i64 0]) (by simp [results, Tryz.results119, go_sem, a0]) rfl ?_
   refine VecOr.yes HNO.out ((HU.out.setb (p := ⟨w.heap.size, 0, none⟩) (fun h => by have := HZ.out; rcases h with ⟨h, _⟩ | h <;> simp at h <;> omega) _).wide (fun b _ h => by have := HZ.out; rcases h with ⟨h, _⟩ | h <;> omega)) (HB2.out.setCell (p := ⟨w.heap.size, 0, none⟩) (Nat.le_refl _) _)
theorem IsArr.go {w w' : World} {ok : Nat → Prop} {sh u : Value} {p : List Int × VV} (h : IsArr w ok sh u p) (hB : Below w.heap.size w w') : Hid (IsArr w' ok sh u p) := Lib.hid (h.grow hB)
end Go.Proofs.YtbdhibcbpgjbmaaGreatDoor

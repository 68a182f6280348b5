/- Package value, walked: elements, ofWithin, Of. -/
import Derived.Test.YtbdhibcbpgjbmaaGreatDoorVaJ
import Derived.Test.YtbdhibcbpgjbmaaGreatDoorShR
namespace Go.Proofs.YtbdhibcbpgjbmaaGreatDoor
open Go.RowKit Fl
set_option linter.unusedVariables false
set_option maxRecDepth 100000

/-- What is wrong with the items. -/
def elC (d : Nat) (p : PA) : Int := if p.f = 1 then bC (letB p.l) else if p.f = 2 then fe (itE (chk d) 2) p.l else bC (numB p.l)
theorem fe_kinds {c : PA → Int} {f : Int} (hf : f ≠ 2) (l : List PI) : fe (itE c f) l = bC (l.all fun x => decide (x.1 = f)) := by
 induction l with
 | nil => rfl
 | cons x l ih =>
  simp only [fe, List.all_cons]
  by_cases hx : x.1 = f
  ·rw [itE_other hx (by rw [hx]; exact hf)]
   simp only [ne_eq, not_true_eq_false, if_false, hx, decide_true, Bool.true_and]
   exact ih
  ·rw [itE_kind hx]
   simp only [ne_eq, hx, decide_false, Bool.false_and]
   rfl
theorem all_congr {l : List PI} {f g : PI → Bool} (h : ∀ x ∈ l, f x = g x) : l.all f = l.all g := by
 rw [Bool.eq_iff_iff, List.all_eq_true, List.all_eq_true]
 exact ⟨fun k x hx => by rw [← h x hx]; exact k x hx, fun k x hx => by rw [h x hx]; exact k x hx⟩
theorem chk_el {d : Nat} {p : PA} (h0 : ¬ (p.f < 0 ∨ 2 < p.f)) (h1 : (prodR p.s 1048576).2 = 0) (h2 : (prodR p.s 1048576).1 = (p.l.length : Int)) : chk (d + 1) p = elC d p := by
 rw [chk_e h0 h1 h2]
 unfold elC
 by_cases f1 : p.f = 1
 ·rw [if_pos f1, f1, fe_kinds (by decide)]
  cases hb : p.l.all fun x => decide (x.1 = 1)
  ·have : letB p.l = false := hb
   rw [this]; rfl
  ·have h3 : letB p.l = true := hb
   have h4 : p.l.all finI = true := List.all_eq_true.2 fun x hx => finI_box (by have := of_decide_eq_true (List.all_eq_true.1 hb x hx); omega)
   rw [h3, h4]; rfl
 ·rw [if_neg f1]
  by_cases f2 : p.f = 2
  ·rw [if_pos f2, f2]
   by_cases h3 : fe (itE (chk d) 2) p.l = 0
   ·have h4 : p.l.all finI = true := List.all_eq_true.2 fun x hx => finI_box (by
     have h5 := fe_zero h3 x hx
     intro h6
     rw [itE_kind (by rw [h6]; decide)] at h5; cases h5)
    rw [h4, h3]; rfl
   ·rw [if_pos h3]
  ·have f0 : p.f = 0 := by omega
   rw [if_neg f2, f0, fe_kinds (by decide)]
   cases hb : p.l.all fun x => decide (x.1 = 0)
   ·have : numB p.l = false := by
     apply Bool.eq_false_iff.2
     intro hn
     have : (p.l.all fun x => decide (x.1 = 0)) = true := List.all_eq_true.2 fun x hx => decide_eq_true (of_decide_eq_true (List.all_eq_true.1 hn x hx)).1
     rw [hb] at this; cases this
    rw [this]; rfl
   ·have : numB p.l = p.l.all finI := all_congr fun x hx => by
     have h0 := of_decide_eq_true (List.all_eq_true.1 hb x hx)
     unfold finI
     by_cases hf : Fnt x.2.1 <;> simp [h0, hf]
    rw [this]
    simp only [bC, if_true, ne_eq, not_true_eq_false, if_false]

set_option maxHeartbeats 4000000 in
theorem elements_calls (d : Nat) (ih : OfAt d) (ok : Nat → Prop) (p : PA) (u : Value) (n : Nat) (w : World) (hd : d ≤ 1000) (hl : lo (n + 1) p) (hm : p.l.length ≤ 1048576) (hp : IsP w ok u p) (hT : TabAt w) :
  Calls Tryz.prog 96 #[u, .int .i64 ((d : Int) + 1)] w (VecOr (elC d p) (arrP (d + 1) p).2 w) := by
 obtain ⟨so, sc, io, ic, rfl, hs, hit⟩ := hp.opened
 obtain ⟨_, _, e1, e4, e5⟩ := hit.len
 cases e1
 unfold maxLen at e5
 obtain ⟨W1, hW1⟩ : ∃ W1, W1 = (w.alloc (.cells #[.slice so p.s.length sc, .slice io p.l.length ic, .int .i64 p.f] 25)).alloc (.cells #[.nilIface] 36) := ⟨_, rfl⟩
 have HA := Lib.hid (show At3 W1 w.heap.size (.slice so p.s.length sc) (.slice io p.l.length ic) (.int .i64 p.f) by rw [hW1]; exact (At3.new w _ _ _ _).below (below_new _ _))
 have HR := Lib.hid (show At1 W1 (w.heap.size + 1) .nilIface by rw [hW1]; have := At1.new (w.alloc (.cells #[.slice so p.s.length sc, .slice io p.l.length ic, .int .i64 p.f] 25)) .nilIface 36; simpa using this)
 have HB1 := Lib.hid (show Below w.heap.size w W1 by rw [hW1]; exact (below_new _ _).alloc (by simp) _)
 have HZ := Lib.hid (show w.heap.size + 1 < W1.heap.size by rw [hW1]; simp)
 have HI := Lib.hid (hit.grow HB1.out)
 have HTb := Lib.hid (show TabAt W1 from fun j hj => keep_below HB1.out _ _ (hT j hj))
 have HL := Lib.hid hl; have HIH := Lib.hid ih; clear hl hs hit hp hT ih
 obtain ⟨_, a0, a1, a2, _⟩ := HA.out
 have hfold := hW1.symm
 clear hW1
 by_cases f1 : p.f = 1
 ·have f1e : (p.f == 1) = true := by simpa using f1
  have HE := Lib.hid (show elC d p = bC (letB p.l) ∧ (arrP (d + 1) p).2 = .chars (p.l.map (fun x => x.2.2.1)) by unfold elC; simp only [arrP]; rw [if_pos f1, if_pos f1]; exact ⟨rfl, rfl⟩)
  rw [HE.out.1, HE.out.2]
  clear f1
  go_enter Tryz.func96, Tryz.ntmps96
  go_wp2_with fail
  refine (letters_items _ p.l _ HI.out hm).mono ?_
  rintro e w2 ⟨u, rfl, hy, hn, hB2⟩
  have HY := Lib.hid hy; have HN := Lib.hid hn
  obtain ⟨_, r0, rf⟩ := HR.out.below hB2
  have rf0 := rf 0
  have HB2 := Lib.hid (HB1.out.trans (hB2.mono HB1.out.size))
  have hsx : ∀ (w : World) (a : Addr) (m : Mode), (store a u m).run Tryz.prog w = stored Tryz.prog w a u m := by
   by_cases hc : bC (letB p.l) = 0
   ·exact (hy hc).store
   ·rw [hn hc]; exact fun w a m => run_store Tryz.prog w a _ m rfl
  clear hy hn hB2 rf hfold
  go_wp2_with fail
  refine bodyPost_ret (v := .tuple #[.agg #[u], .int .i64 (bC (letB p.l))]) (by simp [results, Tryz.results96, go_sem, r0]) rfl ⟨_, rfl, fun hc => ?_, HN.out, HB2.out.setCell (p := ⟨w.heap.size + 1, 0, none⟩) (Nat.le_succ _) _⟩
  exact ((HY.out hc).setb (p := ⟨w.heap.size + 1, 0, none⟩) (fun (h : W1.heap.size ≤ w.heap.size + 1) => by have := HZ.out; omega) _).wide (fun b _ (h : W1.heap.size ≤ b) => by have := HZ.out; omega)
 have f1e : (p.f == 1) = false := by simpa using f1
 by_cases f2 : p.f = 2
 ·have f2e : (p.f == 2) = true := by simpa using f2
  have HE := Lib.hid (show elC d p = fe (itE (chk d) 2) p.l ∧ (arrP (d + 1) p).2 = .boxes (p.l.map fun x => arrP d (Go.Proofs.YtbdhibcbpgjbmaaGreatDoor.hd x.2.2.2)) by unfold elC; simp only [arrP]; rw [if_neg f1, if_pos f2, if_neg f1, if_pos f2]; exact ⟨rfl, rfl⟩)
  rw [HE.out.1, HE.out.2]
  clear f1 f2
  have HQ := Lib.hid (boxes_items d HIH.out _ p.l n W1 hd HI.out hm (fun x hx => (HL.out x hx).2) HTb.out)
  obtain ⟨c, hc⟩ : ∃ c, c = fe (itE (chk d) 2) p.l := ⟨_, rfl⟩
  obtain ⟨V, hV⟩ : ∃ V, V = VV.boxes (p.l.map fun x => arrP d (Go.Proofs.YtbdhibcbpgjbmaaGreatDoor.hd x.2.2.2)) := ⟨_, rfl⟩
  rw [← hc, ← hV] at HQ ⊢
  clear hc hV
  go_enter Tryz.func96, Tryz.ntmps96
  go_wp2_with fail
  refine HQ.out.mono ?_
  rintro e w2 ⟨u, rfl, hy, hn, hB2⟩
  have HY := Lib.hid hy; have HN := Lib.hid hn
  obtain ⟨_, r0, rf⟩ := HR.out.below hB2
  have rf0 := rf 0
  have HB2 := Lib.hid (HB1.out.trans (hB2.mono HB1.out.size))
  have hsx : ∀ (w : World) (a : Addr) (m : Mode), (store a u m).run Tryz.prog w = stored Tryz.prog w a u m := by
   by_cases hc : c = 0
   ·exact (hy hc).store
   ·rw [hn hc]; exact fun w a m => run_store Tryz.prog w a _ m rfl
  clear hy hn hB2 rf hfold
  go_wp2_with fail
  refine bodyPost_ret (v := .tuple #[.agg #[u], .int .i64 c]) (by simp [results, Tryz.results96, go_sem, r0]) rfl ⟨_, rfl, fun hc => ?_, HN.out, HB2.out.setCell (p := ⟨w.heap.size + 1, 0, none⟩) (Nat.le_succ _) _⟩
  exact ((HY.out hc).setb (p := ⟨w.heap.size + 1, 0, none⟩) (fun (h : W1.heap.size ≤ w.heap.size + 1) => by have := HZ.out; omega) _).wide (fun b _ (h : W1.heap.size ≤ b) => by have := HZ.out; omega)
 ·have f2e : (p.f == 2) = false := by simpa using f2
  have HE := Lib.hid (show elC d p = bC (numB p.l) ∧ (arrP (d + 1) p).2 = numsV p.l by unfold elC; simp only [arrP]; rw [if_neg f1, if_neg f2, if_neg f1, if_neg f2]; exact ⟨rfl, rfl⟩)
  rw [HE.out.1, HE.out.2]
  clear f1 f2
  have HQ := Lib.hid (numbers_items _ p.l W1 HI.out hm (fun x hx => (HL.out x hx).1) HTb.out)
  obtain ⟨c, hc⟩ : ∃ c, c = bC (numB p.l) := ⟨_, rfl⟩
  obtain ⟨V, hV⟩ : ∃ V, V = numsV p.l := ⟨_, rfl⟩
  rw [← hc, ← hV] at HQ ⊢
  clear hc hV
  go_enter Tryz.func96, Tryz.ntmps96
  go_wp2_with fail
  refine HQ.out.mono ?_
  rintro e w2 ⟨u, rfl, hy, hn, hB2⟩
  have HY := Lib.hid hy; have HN := Lib.hid hn
  obtain ⟨_, r0, rf⟩ := HR.out.below hB2
  have rf0 := rf 0
  have HB2 := Lib.hid (HB1.out.trans (hB2.mono HB1.out.size))
  have hsx : ∀ (w : World) (a : Addr) (m : Mode), (store a u m).run Tryz.prog w = stored Tryz.prog w a u m := by
   by_cases hc : c = 0
   ·exact (hy hc).store
   ·rw [hn hc]; exact fun w a m => run_store Tryz.prog w a _ m rfl
  clear hy hn hB2 rf hfold
  go_wp2_with fail
  refine bodyPost_ret (v := .tuple #[.agg #[u], .int .i64 c]) (by simp [results, Tryz.results96, go_sem, r0]) rfl ⟨_, rfl, fun hc => ?_, HN.out, HB2.out.setCell (p := ⟨w.heap.size + 1, 0, none⟩) (Nat.le_succ _) _⟩
  exact ((HY.out hc).setb (p := ⟨w.heap.size + 1, 0, none⟩) (fun (h : W1.heap.size ≤ w.heap.size + 1) => by have := HZ.out; omega) _).wide (fun b _ (h : W1.heap.size ≤ b) => by have := HZ.out; omega)

theorem ArrOr.no2 {c er : Int} {A : List Int × VV} {w w' : World} (h : c = er) (he : er ≠ 0) (hb : Below w.heap.size w w') : ArrOr c A w (.returned (.tuple #[.agg #[.slice none 0 0, .nilIface], .int .i64 er])) w' := by subst h; exact ArrOr.no he hb

set_option maxHeartbeats 4000000 in
theorem of_step (d : Nat) (hd : d ≤ 999) (ih : OfAt d) : OfAt (d + 1) := by
 intro ok p u n w hl hp hT
 obtain ⟨n, rfl⟩ : ∃ n', n = n' + 1 := by cases n with | zero => exact hl.elim | succ n => exact ⟨n, rfl⟩
 have HP := Lib.hid hp
 obtain ⟨so, sc, io, ic, rfl, hs, hit⟩ := hp.opened
 obtain ⟨_, _, e1, e4, e5⟩ := hit.len
 cases e1
 obtain ⟨_, _, e1, e6, e7, _⟩ := hs.opened
 cases e1
 unfold maxLen at e5
 obtain ⟨W1, hW1⟩ : ∃ W1, W1 = (w.alloc (.cells #[.slice so p.s.length sc, .slice io p.l.length ic, .int .i64 p.f] 25)).alloc (.cells #[.slice none 0 0, .nilIface] 38) := ⟨_, rfl⟩
 have HA := Lib.hid (show At3 W1 w.heap.size (.slice so p.s.length sc) (.slice io p.l.length ic) (.int .i64 p.f) by rw [hW1]; exact (At3.new w _ _ _ _).below (below_new _ _))
 have HR := Lib.hid (show At2 W1 (w.heap.size + 1) (.slice none 0 0) .nilIface by rw [hW1]; have := At2.new (w.alloc (.cells #[.slice so p.s.length sc, .slice io p.l.length ic, .int .i64 p.f] 25)) (.slice none 0 0) .nilIface 38; simpa using this)
 have HB1 := Lib.hid (show Below w.heap.size w W1 by rw [hW1]; exact (below_new _ _).alloc (by simp) _)
 have HZ := Lib.hid (show w.heap.size + 1 < W1.heap.size by rw [hW1]; simp)
 have HP1 := Lib.hid (HP.out.grow HB1.out)
 have HS1 := Lib.hid (hs.below HB1.out)
 have HTb := Lib.hid (show TabAt W1 from fun j hj => keep_below HB1.out _ _ (hT j hj))
 have HL := Lib.hid hl; have HIH := Lib.hid ih; clear hl hs hit hp hT ih
 obtain ⟨_, a0, a1, a2, _⟩ := HA.out
 obtain ⟨_, r0, r1, rf⟩ := HR.out
 have rf0 := rf 0
 have rf1 := rf 1
 have hfold := hW1.symm
 have hd0 : ((d : Int) + 1 == 0) = false := by simp; omega
 rw [show ((d + 1 : Nat) : Int) = (d : Int) + 1 by omega]
 have HBS := Lib.hid (show ∀ wx, Below w.heap.size w wx → ∀ x y, Below w.heap.size w ((wx.setCell ⟨w.heap.size + 1, 0, none⟩ x).setCell ⟨w.heap.size + 1, 1, none⟩ y) from fun wx h x y => (h.setCell (Nat.le_succ _) _).setCell (Nat.le_succ _) _)
 clear hW1 rf
 by_cases hf : p.f < 0 ∨ 2 < p.f
 ·have HC := Lib.hid (chk_f (d := d) hf)
  rcases hf with hf | hf
  ·go_enter Tryz.func63, Tryz.ntmps63
   go_wp2_with fail
   exact bodyPost_ret (v := .tuple #[.agg #[.slice none 0 0, .nilIface], .int .i64 1]) (by simp [results, Tryz.results63, go_sem, r0, r1]) rfl (ArrOr.no2 HC.out (by decide) (HBS.out _ HB1.out _ _))
  ·have hf2 : ¬ p.f < 0 := by omega
   go_enter Tryz.func63, Tryz.ntmps63
   go_wp2_with fail
   exact bodyPost_ret (v := .tuple #[.agg #[.slice none 0 0, .nilIface], .int .i64 1]) (by simp [results, Tryz.results63, go_sem, r0, r1]) rfl (ArrOr.no2 HC.out (by decide) (HBS.out _ HB1.out _ _))
 have HF := Lib.hid hf
 have hf1 : ¬ p.f < 0 := by omega
 have hf2 : ¬ 2 < p.f := by omega
 clear hf
 have HPR := Lib.hid (sproduct_calls _ p.s 1048576 W1 HS1.out (by have := e7; unfold maxLen at this; omega))
 obtain ⟨c, hc⟩ : ∃ c, c = (prodR p.s 1048576).1 := ⟨_, rfl⟩
 obtain ⟨er, her⟩ : ∃ er, er = (prodR p.s 1048576).2 := ⟨_, rfl⟩
 rw [← hc, ← her] at HPR
 have HCN := Lib.hid hc; have HER := Lib.hid her; clear hc her
 go_enter Tryz.func63, Tryz.ntmps63
 go_wp2_with fail
 refine HPR.out.mono ?_
 rintro e w2 ⟨rfl, hB2⟩
 have HA2 := Lib.hid (HA.out.below hB2)
 have HR2 := Lib.hid (HR.out.below hB2)
 have HB2 := Lib.hid (HB1.out.trans (hB2.mono HB1.out.size))
 have HP2 := Lib.hid (HP1.out.grow hB2)
 have HS2 := Lib.hid (HS1.out.below hB2)
 have HZ2 := Lib.hid (Nat.lt_of_lt_of_le HZ.out hB2.size)
 have HT2 := Lib.hid (show TabAt w2 from fun j hj => keep_below hB2 _ _ (HTb.out j hj))
 clear a0 a1 a2 r0 r1 rf0 rf1 hfold hB2
 obtain ⟨_, a0, a1, a2, _⟩ := HA2.out
 obtain ⟨_, r0, r1, rf⟩ := HR2.out
 have rf0 := rf 0
 have rf1 := rf 1
 clear rf
 by_cases her : er = 0
 rotate_left
 ·have HC := Lib.hid (chk_s (d := d) HF.out (by rw [← HER.out]; exact her))
  rw [← HER.out] at HC
  have HE0 := Lib.hid her
  have hne0 : (er != 0) = true := by simpa using her
  clear her
  go_wp2_with fail
  exact bodyPost_ret (v := .tuple #[.agg #[.slice none 0 0, .nilIface], .int .i64 er]) (by simp [results, Tryz.results63, go_sem, r0, r1]) rfl (ArrOr.no2 HC.out HE0.out (HBS.out _ HB2.out _ _))
 subst her
 by_cases hcn : c = (p.l.length : Int)
 rotate_left
 ·have HC := Lib.hid (chk_n (d := d) HF.out HER.out.symm (by rw [← HCN.out]; exact hcn))
  have hne : ((p.l.length : Int) != c) = true := by simpa using (fun h => hcn h.symm)
  go_wp2_with fail
  exact bodyPost_ret (v := .tuple #[.agg #[.slice none 0 0, .nilIface], .int .i64 23]) (by simp [results, Tryz.results63, go_sem, r0, r1]) rfl (ArrOr.no2 HC.out (by decide) (HBS.out _ HB2.out _ _))
 have hne : ((p.l.length : Int) != c) = false := by simpa using hcn.symm
 have HC := Lib.hid (chk_el (d := d) HF.out HER.out.symm (by rw [← HCN.out]; exact hcn))
 have HLEN := Lib.hid (show p.s.length ≤ 8 ∧ p.l.length ≤ 1048576 from prodR_len (by rw [← hcn, HCN.out, HER.out]))
 have HQ := Lib.hid (elements_calls d HIH.out ok p _ n w2 (by omega) HL.out HLEN.out.2 HP2.out HT2.out)
 obtain ⟨V, hV⟩ : ∃ V, V = (arrP (d + 1) p).2 := ⟨_, rfl⟩
 obtain ⟨ec, hec⟩ : ∃ ec, ec = elC d p := ⟨_, rfl⟩
 rw [← hV, ← hec] at HQ
 rw [← hec] at HC
 have HAV := Lib.hid (show arrP (d + 1) p = (p.s, V) by rw [hV]; rfl)
 clear hV hec
 subst hcn
 go_wp2_with fail
 refine HQ.out.mono ?_
 rintro e w3 ⟨u, rfl, hy, hn, hB3⟩
 have HA3 := Lib.hid (HA2.out.below hB3)
 have HR3 := Lib.hid (HR2.out.below hB3)
 have HB3 := Lib.hid (HB2.out.trans (hB3.mono HB2.out.size))
 have HS3 := Lib.hid (HS2.out.below hB3)
 have HZ3 := Lib.hid (show w.heap.size + 1 < w3.heap.size from Nat.lt_of_lt_of_le HZ2.out hB3.size)
 clear a0 a1 a2 r0 r1 rf0 rf1 hB3 hne
 by_cases he0 : ec = 0
 rotate_left
 ·have HE0 := Lib.hid he0
  obtain rfl := hn he0
  have hne3 : (ec != 0) = true := by simpa using he0
  obtain ⟨_, r0, r1, rf⟩ := HR3.out.below (below_new w3 (.cells #[.nilIface] 36))
  have rf0 := rf 0
  have rf1 := rf 1
  clear hy hn he0 rf
  go_wp2_with fail
  exact bodyPost_ret (v := .tuple #[.agg #[.slice none 0 0, .nilIface], .int .i64 ec]) (by simp [results, Tryz.results63, go_sem, r0, r1]) rfl (ArrOr.no2 HC.out HE0.out (HBS.out _ (HB3.out.alloc HB3.out.size _) _ _))
 have hv := hy he0
 have hne3 : (ec != 0) = false := by simpa using he0
 have HC0 := Lib.hid (HC.out.trans he0)
 have hsx := hv.store; have HV := Lib.hid hv
 obtain ⟨W4, hW4⟩ : ∃ W4, W4 = w3.alloc (.cells #[u] 36) := ⟨_, rfl⟩
 have HBn := Lib.hid (show Below w3.heap.size w3 W4 by rw [hW4]; exact below_new _ _)
 have HVA := Lib.hid (show At1 W4 w3.heap.size u by rw [hW4]; exact At1.new _ _ _)
 have HA4 := Lib.hid (HA3.out.below HBn.out)
 have HR4 := Lib.hid (HR3.out.below HBn.out)
 have HB4 := Lib.hid (HB3.out.trans (HBn.out.mono HB3.out.size))
 have HV4 := Lib.hid (show IsV W4 (fun b => w2.heap.size ≤ b) u V from HV.out.grow HBn.out)
 have HC4 := Lib.hid (show ∀ wx, Below W4.heap.size W4 wx → Calls Tryz.prog 72 #[.slice so p.s.length sc] wx fun e w1 => ∃ v1, e = .returned v1 ∧ Slc w1 (fun b => w3.heap.size ≤ b) v1 p.s.length (ints p.s) ∧ Below W4.heap.size W4 w1 from fun wx hx =>
  (CloneInt_calls _ p.s wx ((HS3.out.below HBn.out).below hx) (by have := HLEN.out.1; omega)).mono fun e w1 ⟨v1, h1, h2, h3⟩ => ⟨v1, h1, h2.keep (Kept.refl _ _) (fun b _ h => Nat.le_trans (Nat.le_trans HBn.out.size hx.size) h), hx.trans (h3.mono hx.size)⟩)
 have hdr : Hid (Below W4.heap.size W4 W4.drew) := Lib.hid (Below.drewN' (Below.refl _ _) 1)
 obtain ⟨_, a0, _, _, _⟩ := HA4.out
 have v0 := HVA.out.2.1
 have hfold := hW4.symm
 have hsh := hv.shape
 have HUS := Lib.hid hv.shape; clear hy hn he0 hv hW4 hsh
 go_wp2_with fail
 go_region_with ((first
  | (go_at_call 72; refine (HC4.out _ hdr.out).mono ?_; rintro e w1 ⟨v1, rfl, hs1, hB⟩; have HS1 := Lib.hid hs1; have HB := Lib.hid hB; obtain ⟨ao1, cap1, rfl, _⟩ := hs1.opened; have y0 := (HVA.out.below HB.out).2.1; obtain ⟨_, z0, z1, zf⟩ := HR4.out.below HB.out; have zf0 := zf 0; have zf1 := zf 1; clear hs1 hB zf)))
 all_goals
  go_wp2
  refine bodyPost_ret (v := .tuple #[.agg #[.slice ao1 p.s.length cap1, u], .int .i64 0]) (by simp [results, Tryz.results63, go_sem, z0, z1]) rfl (ArrOr.yes HC0.out ?_ ?_)
  ·rw [HAV.out]
   refine ⟨?_, ?_⟩
   ·exact HS1.out.keep ((Kept.setCell _ _ _ (by have := HZ3.out; simp <;> omega)).trans (Kept.setCell _ _ _ (by have := HZ3.out; simp <;> omega))) (fun b _ (h : w3.heap.size ≤ b) => by have := HZ3.out; omega)
   ·exact (HV4.out.grow HB.out).keep ((Kept.setCell _ _ _ (by have := HZ2.out; simp <;> omega)).trans (Kept.setCell _ _ _ (by have := HZ2.out; simp <;> omega))) (fun b _ (h : w2.heap.size ≤ b) => by have := HZ2.out; omega)
  ·exact HBS.out _ (HB4.out.trans (HB.out.mono HB4.out.size)) _ _
theorem of_calls_at : ∀ d, d ≤ 1000 → OfAt d := by
 intro d
 induction d with
 | zero =>
  intro _ ok p u n w hl hp hT
  obtain ⟨so, sc, io, ic, rfl, hs, hit⟩ := hp.opened
  obtain ⟨W1, hW1⟩ : ∃ W1, W1 = (w.alloc (.cells #[.slice so p.s.length sc, .slice io p.l.length ic, .int .i64 p.f] 25)).alloc (.cells #[.slice none 0 0, .nilIface] 38) := ⟨_, rfl⟩
  have HR := Lib.hid (show At2 W1 (w.heap.size + 1) (.slice none 0 0) .nilIface by rw [hW1]; have := At2.new (w.alloc (.cells #[.slice so p.s.length sc, .slice io p.l.length ic, .int .i64 p.f] 25)) (.slice none 0 0) .nilIface 38; simpa using this)
  have HB1 := Lib.hid (show Below w.heap.size w W1 by rw [hW1]; exact (below_new _ _).alloc (by simp) _)
  obtain ⟨_, r0, r1, rf⟩ := HR.out
  have rf0 := rf 0
  have rf1 := rf 1
  have hfold := hW1.symm
  clear hs hit hp hl hT hW1 rf
  go_enter Tryz.func63, Tryz.ntmps63
  go_wp2_with fail
  exact bodyPost_ret (v := .tuple #[.agg #[.slice none 0 0, .nilIface], .int .i64 1]) (by simp [results, Tryz.results63, go_sem, r0, r1]) rfl (ArrOr.no2 rfl (by decide) ((HB1.out.setCell (Nat.le_succ _) _).setCell (Nat.le_succ _) _))
 | succ d ih => intro hd; exact of_step d (by omega) (ih (by omega))
theorem of_calls (ok : Nat → Prop) (p : PA) (u : Value) (n : Nat) (w : World) (hl : lo n p) (hp : IsP w ok u p) (hT : TabAt w) : Calls Tryz.prog 29 #[u] w (ArrOr (chk 40 p) (arrP 40 p) w) := by
 have HL := Lib.hid hl; have HP := Lib.hid hp
 obtain ⟨so, sc, io, ic, rfl, hs, hit⟩ := hp.opened
 obtain ⟨W1, hW1⟩ : ∃ W1, W1 = (w.alloc (.cells #[.slice so p.s.length sc, .slice io p.l.length ic, .int .i64 p.f] 25)).alloc (.cells #[.slice none 0 0, .nilIface] 38) := ⟨_, rfl⟩
 have HA := Lib.hid (show At3 W1 w.heap.size (.slice so p.s.length sc) (.slice io p.l.length ic) (.int .i64 p.f) by rw [hW1]; exact (At3.new w _ _ _ _).below (below_new _ _))
 have HR := Lib.hid (show At2 W1 (w.heap.size + 1) (.slice none 0 0) .nilIface by rw [hW1]; have := At2.new (w.alloc (.cells #[.slice so p.s.length sc, .slice io p.l.length ic, .int .i64 p.f] 25)) (.slice none 0 0) .nilIface 38; simpa using this)
 have HB1 := Lib.hid (show Below w.heap.size w W1 by rw [hW1]; exact (below_new _ _).alloc (by simp) _)
 have HZ := Lib.hid (show w.heap.size + 1 < W1.heap.size by rw [hW1]; simp)
 have HQ := Lib.hid (of_calls_at 40 (by omega) ok p _ n W1 HL.out (HP.out.grow HB1.out) (fun j hj => keep_below HB1.out _ _ (hT j hj)))
 obtain ⟨c, hc⟩ : ∃ c, c = chk 40 p := ⟨_, rfl⟩
 obtain ⟨A, hA⟩ : ∃ A, A = arrP 40 p := ⟨_, rfl⟩
 rw [← hc, ← hA] at HQ ⊢
 obtain ⟨_, a0, a1, a2, _⟩ := HA.out
 have hfold := hW1.symm
 clear hs hit hp hl hT hW1 hc hA
 go_enter Tryz.func29, Tryz.ntmps29
 go_wp2_with fail
 refine HQ.out.mono ?_
 rintro e w2 ⟨sh, u, rfl, hy, hn, hB2⟩
 have HB2 := Lib.hid (HB1.out.trans (hB2.mono HB1.out.size))
 obtain ⟨_, r0, r1, rf⟩ := HR.out.below hB2
 have rf0 := rf 0
 have rf1 := rf 1
 have hsx : ∀ (w : World) (a : Addr) (m : Mode), (store a u m).run Tryz.prog w = stored Tryz.prog w a u m := by
  by_cases hc : c = 0
  ·exact (hy hc).2.store
  ·rw [(hn hc).2]; exact fun w a m => run_store Tryz.prog w a _ m rfl
 obtain ⟨ao1, n1, cap1, rfl⟩ : ∃ ao n cap, sh = .slice ao n cap := by
  by_cases hc : c = 0
  ·obtain ⟨ao1, cap1, e, _⟩ := (hy hc).1.opened
   exact ⟨_, _, _, e⟩
  ·exact ⟨_, _, _, (hn hc).1⟩
 have HY := Lib.hid hy; have HN := Lib.hid hn; clear hy hn hB2 rf hfold a0 a1 a2
 go_wp2_with fail
 refine bodyPost_ret (v := .tuple #[.agg #[.slice ao1 n1 cap1, u], .int .i64 c]) (by simp [results, Tryz.results29, go_sem, r0, r1]) rfl ⟨_, _, rfl, fun hc => ?_, HN.out, (HB2.out.setCell (Nat.le_succ _) _).setCell (Nat.le_succ _) _⟩
 exact (HY.out hc).keep ((Kept.setCell _ _ _ (by have := HZ.out; simp <;> omega)).trans (Kept.setCell _ _ _ (by have := HZ.out; simp <;> omega))) (fun b _ (h : W1.heap.size ≤ b) => by have := HZ.out; omega)
end Go.Proofs.YtbdhibcbpgjbmaaGreatDoor

/- Package value, walked: item. -/
import Derived.Test.YtbdhibcbpgjbmaaGreatDoorVaN
namespace Go.Proofs.YtbdhibcbpgjbmaaGreatDoor
open Go.RowKit Fl
set_option linter.unusedVariables false
set_option maxRecDepth 100000

/-- Boxes lie in one another at most d deep; sizes are those of arrays. -/
def dA : Nat → List Int × VV → Prop
 | 0, _ => False
 | d + 1, A => A.1.length ≤ 1048576 ∧ A.2.ok ∧ ∀ a ∈ A.2.boxs, dA d a
theorem gA_dA {d : Nat} : ∀ {A : List Int × VV}, gA d A → dA d A := by
 induction d with
 | zero => intro A h; exact h
 | succ d ih => intro A h; exact ⟨by have := (prodR_len h.1).1; omega, h.2.1, fun a ha => ih (h.2.2.2.2 a ha)⟩
/-- An item of an element. -/
def itA (t : List Int × VV → PA) (V : VV) (i : Nat) : PI :=
 if V.cls = 1 then (1, 0, atI V.text 0 (i : Int), []) else if V.cls = 2 then (2, 0, 0, [t (atI V.boxs ([], .none) (i : Int))]) else (0, atI V.nums 0 (i : Int), 0, [])
/-- The plain array of an array. -/
def plA : Nat → List Int × VV → PA
 | 0, _ => default
 | d + 1, A => .mk A.1 ((List.range A.2.len).map (itA (plA d) A.2)) A.2.cls
def PlainNew (q : PA) (w : World) (e : Ending) (w' : World) : Prop := ∃ u, e = .returned u ∧ IsP w' (fun b => w.heap.size ≤ b) u q ∧ Below w.heap.size w w'
def ItemNew (x : PI) (w : World) (e : Ending) (w' : World) : Prop := ∃ bx, e = .returned (.agg #[.int .i64 x.1, .float .f64 x.2.1, .int .i32 x.2.2.1, bx]) ∧ IsB w' (fun b => w.heap.size ≤ b) bx x.2.2.2 ∧ Below w.heap.size w w'
def PlainAt (d : Nat) : Prop := ∀ (ok : Nat → Prop) (A : List Int × VV) (sh u : Value) (w : World), dA d A → IsArr w ok sh u A → Calls Tryz.prog 38 #[.agg #[sh, u]] w (PlainNew (plA d A) w)

/-- A box that a call makes. -/
theorem IsB.one {w : World} {ok : Nat → Prop} {T : PA} {so io : Option Addr} {sc ic : Nat} (h : IsP w ok (.agg #[.slice so T.s.length sc, .slice io T.l.length ic, .int .i64 T.f]) T) (t : TypeId) :
  IsB (w.alloc (.cells #[.slice so T.s.length sc, .slice io T.l.length ic, .int .i64 T.f] t)) (fun b => ok b ∨ w.heap.size ≤ b) (.slice (some ⟨w.heap.size, 0, none⟩) 1 1) [T] := by
 refine ⟨_, 1, fun _ => .slice so T.s.length sc, fun _ => .slice io T.l.length ic, fun _ => .int .i64 T.f, rfl, by simp, by unfold maxLen; omega, fun j hj => ?_, fun j r hr => ?_⟩
 ·obtain rfl : j = 0 := by simp at hj; omega
  obtain ⟨_, m0, m1, m2, _⟩ := At3.new w (.slice so T.s.length sc) (.slice io T.l.length ic) (.int .i64 T.f) t
  exact ⟨_, 0, rfl, .inr (Nat.le_refl _), m0, m1, m2⟩
 ·have : r = T := by
   match j with
   | 0 => simpa using hr.symm
   | j + 1 => simp at hr
  subst this
  exact h.keep (Kept.below (below_new _ _)) (fun b _ h => .inl h)
theorem VV.boxs_len {V : VV} (h : V.cls = 2) : V.boxs.length = V.len := by cases V <;> simp_all [VV.cls, VV.boxs, VV.len]

set_option maxHeartbeats 4000000 in
theorem item_calls (d : Nat) (ih : PlainAt d) {ok : Nat → Prop} (u : Value) (V : VV) (k : Nat) (w : World) (hv : IsV w ok u V) (hok : V.ok) (hd : ∀ a ∈ V.boxs, dA d a) (hk : k < V.len) :
  Calls Tryz.prog 71 #[.agg #[u], .int .i64 (k : Int)] w (ItemNew (itA (plA d) V k) w) := by
 have HIH := Lib.hid ih; have HOK := Lib.hid hok; have HD := Lib.hid hd; have HK := Lib.hid hk; have hsx := hv.store
 have hsf := run_store_float
 obtain ⟨W1, hW1⟩ : ∃ W1, W1 = (w.alloc (.cells #[u] 36)).alloc (.cells #[.int .i64 0, .float .f64 0, .int .i32 0, .slice none 0 0] 34) := ⟨_, rfl⟩
 have HA := Lib.hid (show At1 W1 w.heap.size u by rw [hW1]; exact (At1.new _ _ _).below (below_new _ _))
 have HR := Lib.hid (show Blk4 W1 (w.heap.size + 1) _ _ _ _ by rw [hW1]; have := Blk4.new (w.alloc (.cells #[u] 36)) (.int .i64 0) (.float .f64 0) (.int .i32 0) (.slice none 0 0) 34; simpa using this)
 have HB1 := Lib.hid (show Below w.heap.size w W1 by rw [hW1]; exact (below_new _ _).alloc (by simp) _)
 have HZ := Lib.hid (show w.heap.size + 1 < W1.heap.size by rw [hW1]; simp)
 have HV := Lib.hid (hv.grow HB1.out)
 have a0 := HA.out.2.1
 have hfold := hW1.symm
 have HBS := Lib.hid (show ∀ wx, Below w.heap.size w wx → ∀ x y z t, Below w.heap.size w ((((wx.setCell ⟨w.heap.size + 1, 0, none⟩ x).setCell ⟨w.heap.size + 1, 1, none⟩ y).setCell ⟨w.heap.size + 1, 2, none⟩ z).setCell ⟨w.heap.size + 1, 3, none⟩ t) from fun wx h x y z t => (((h.setCell (Nat.le_succ _) _).setCell (Nat.le_succ _) _).setCell (Nat.le_succ _) _).setCell (Nat.le_succ _) _)
 clear ih hok hd hv hW1 hk
 go_enter Tryz.func71, Tryz.ntmps71
 go_wp2_with fail
 refine (class_calls _ _ _ HV.out).mono ?_
 rintro e w2 ⟨rfl, hB⟩
 have HA2 := Lib.hid (HA.out.below hB)
 have HR2 := Lib.hid (HR.out.below hB)
 have HV2 := Lib.hid (HV.out.grow hB)
 have HB2 := Lib.hid (HB1.out.trans (hB.mono HB1.out.size))
 have HZ2 := Lib.hid (Nat.lt_of_lt_of_le HZ.out hB.size)
 clear hB a0 hfold; have a0 := HA2.out.2.1
 by_cases c1 : V.cls = 1
 ·have HX := Lib.hid (show itA (plA d) V k = (1, 0, atI V.text 0 (k : Int), []) by unfold itA; rw [if_pos c1])
  rw [HX.out]; rw [c1]
  go_wp2_with fail
  refine (vchar_calls _ _ _ _ HV2.out).mono ?_
  rintro e w3 ⟨rfl, hB⟩
  obtain ⟨_, r0, r1, r2, r3, rf⟩ := HR2.out.below hB
  have rf0 := rf 0
  have rf1 := rf 1
  have rf2 := rf 2
  have rf3 := rf 3
  have HB3 := Lib.hid (HB2.out.trans (hB.mono HB2.out.size))
  obtain ⟨ch, hch⟩ : ∃ ch, ch = atI V.text 0 (k : Int) := ⟨_, rfl⟩
  rw [← hch] at HX ⊢
  clear hB a0 rf hch
  go_wp2_with fail
  exact bodyPost_ret (v := .agg #[.int .i64 1, .float .f64 0, .int .i32 ch, .slice none 0 0]) (by simp [results, Tryz.results71, go_sem, r0, r1, r2, r3]) rfl ⟨_, by rw [HX.out], by rw [HX.out]; exact IsB.nil _ _, HBS.out _ HB3.out _ _ _ _⟩
 by_cases c2 : V.cls = 2
 ·have HX := Lib.hid (show itA (plA d) V k = (2, 0, 0, [plA d (atI V.boxs ([], .none) (k : Int))]) by unfold itA; rw [if_neg c1, if_pos c2])
  rw [c2]
  have HIN := Lib.hid (show dA d (atI V.boxs ([], .none) (k : Int)) by
   have hl := VV.boxs_len c2
   have hk2 : k < V.boxs.length := by have := HK.out; omega
   rw [atI_nat hk2]
   exact HD.out _ (List.getElem_mem hk2))
  clear c1 c2
  go_wp2_with fail
  refine (vbox_calls _ _ _ _ HV2.out HOK.out).mono ?_
  rintro e w3 ⟨shb, ub, rfl, hAB, hB⟩
  have HQ := Lib.hid (HIH.out _ _ _ _ w3 HIN.out hAB)
  have HB3 := Lib.hid (HB2.out.trans (hB.mono HB2.out.size))
  have HR3 := Lib.hid (HR2.out.below hB)
  have HZ3 := Lib.hid (Nat.lt_of_lt_of_le HZ2.out hB.size)
  obtain ⟨T, hT⟩ : ∃ T, T = plA d (atI V.boxs ([], .none) (k : Int)) := ⟨_, rfl⟩
  rw [← hT] at HX HQ
  clear hB a0 hAB hT
  go_wp2_with fail
  refine HQ.out.mono ?_
  rintro e w4 ⟨uT, rfl, hTP, hB⟩
  obtain ⟨so2, sc2, io2, ic2, rfl, _⟩ := hTP.opened
  have HB4 := Lib.hid (HB3.out.trans (hB.mono HB3.out.size))
  obtain ⟨W5, hW5⟩ : ∃ W5, W5 = w4.alloc (.cells #[.slice so2 T.s.length sc2, .slice io2 T.l.length ic2, .int .i64 T.f] 25) := ⟨_, rfl⟩
  have HBX := Lib.hid (show IsB W5 _ _ [T] by rw [hW5]; exact IsB.one hTP 25)
  have HN := Lib.hid (show Below w4.heap.size w4 W5 by rw [hW5]; exact below_new _ _)
  have HB5 := Lib.hid (HB4.out.trans (HN.out.mono HB4.out.size))
  have HZ4 := Lib.hid (Nat.lt_of_lt_of_le HZ3.out hB.size)
  obtain ⟨_, r0, r1, r2, r3, rf⟩ := (HR3.out.below hB).below HN.out
  have rf0 := rf 0
  have rf1 := rf 1
  have rf2 := rf 2
  have rf3 := rf 3
  have hfold5 := hW5.symm
  clear hB hTP hW5 rf
  go_wp2_with fail
  refine bodyPost_ret (v := .agg #[.int .i64 2, .float .f64 0, .int .i32 0, .slice (some ⟨w4.heap.size, 0, none⟩) 1 1]) (by simp [results, Tryz.results71, go_sem, r0, r1, r2, r3]) rfl ⟨_, by rw [HX.out], ?_, HBS.out _ HB5.out _ _ _ _⟩
  rw [HX.out]
  have hno : ¬ (w3.heap.size ≤ w.heap.size + 1 ∨ w4.heap.size ≤ w.heap.size + 1) := by have := HZ3.out; have := HZ4.out; omega
  exact HBX.out.keep ((((Kept.setCell _ _ _ hno).trans (Kept.setCell _ _ _ hno)).trans (Kept.setCell _ _ _ hno)).trans (Kept.setCell _ _ _ hno)) (fun b _ h => by have := HZ3.out; have := HZ4.out; rcases h with h | h <;> omega)
 ·have HX := Lib.hid (show itA (plA d) V k = (0, atI V.nums 0 (k : Int), 0, []) by unfold itA; rw [if_neg c1, if_neg c2])
  have HC0 := Lib.hid (show V.cls = 0 by cases V <;> simp_all [VV.cls])
  rw [HC0.out]; clear c1 c2
  go_wp2_with fail
  refine (num_calls _ _ _ _ HV2.out).mono ?_
  rintro e w3 ⟨rfl, hB⟩
  obtain ⟨_, r0, r1, r2, r3, rf⟩ := HR2.out.below hB
  have rf0 := rf 0
  have rf1 := rf 1
  have rf2 := rf 2
  have rf3 := rf 3
  have HB3 := Lib.hid (HB2.out.trans (hB.mono HB2.out.size))
  obtain ⟨ch, hch⟩ : ∃ ch, ch = atI V.nums 0 (k : Int) := ⟨_, rfl⟩
  rw [← hch] at HX ⊢
  clear hB a0 rf hch
  go_wp2_with fail
  exact bodyPost_ret (v := .agg #[.int .i64 0, .float .f64 ch, .int .i32 0, .slice none 0 0]) (by simp [results, Tryz.results71, go_sem, r0, r1, r2, r3]) rfl ⟨_, by rw [HX.out], by rw [HX.out]; exact IsB.nil _ _, HBS.out _ HB3.out _ _ _ _⟩
end Go.Proofs.YtbdhibcbpgjbmaaGreatDoor

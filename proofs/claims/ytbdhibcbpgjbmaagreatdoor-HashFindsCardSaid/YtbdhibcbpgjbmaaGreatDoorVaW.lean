/- Package value's laws: Of; a region parted by what holds behind it. -/
import Derived.Test.YtbdhibcbpgjbmaaGreatDoorWalk2
import Derived.Test.YtbdhibcbpgjbmaaGreatDoorVaS
namespace Go.Proofs.YtbdhibcbpgjbmaaGreatDoor
open Go.RowKit Fl
set_option linter.unusedVariables false
set_option maxRecDepth 100000

/-- What holds behind a piece of code. -/
theorem At2.put2 {w : World} {b : Nat} {u v : Value} (h : At2 w b u v) (x y : Value) : At2 ((w.setCell ⟨b, 0, none⟩ x).setCell ⟨b, 1, none⟩ y) b x y := by
 have e1 : (w.setCell ⟨b, 0, none⟩ x).cell? ⟨b, 1, none⟩ = some v := (World.cell?_setCell_other _ _ _ _ (by simp)).trans h.2.2.1
 exact ⟨by simpa using h.1, (World.cell?_setCell_other _ _ _ _ (by simp)).trans (World.cell?_setCell_same _ _ _ h.2.1), World.cell?_setCell_same _ _ _ e1, fun o => by simpa using h.2.2.2 o⟩
theorem At3.put3 {w : World} {b : Nat} {u v t : Value} (h : At3 w b u v t) (x y z : Value) : At3 (((w.setCell ⟨b, 0, none⟩ x).setCell ⟨b, 1, none⟩ y).setCell ⟨b, 2, none⟩ z) b x y z := ((h.set0 x).set1 y).set2 z
def ArrNew (A : List Int × VV) (w : World) (e : Ending) (w' : World) : Prop := ∃ so sc u, e = .returned (.agg #[.slice so A.1.length sc, u]) ∧ IsArr w' (fun b => w.heap.size ≤ b) (.slice so A.1.length sc) u A ∧ Below w.heap.size w w'

set_option maxHeartbeats 4000000 in
theorem lof_calls (ok : Nat → Prop) (p : PA) (u : Value) (n : Nat) (w : World) (hl : lo n p) (hp : IsP w ok u p) (hT : TabAt w) (hc : chk 40 p = 0) : Calls Tryz.prog 10 #[u] w (ArrNew (arrP 40 p) w) := by
 have HP := Lib.hid hp
 obtain ⟨so, sc, io, ic, rfl, hs, hit⟩ := hp.opened
 obtain ⟨W1, hW1⟩ : ∃ W1, W1 = (w.alloc (.cells #[.slice so p.s.length sc, .slice io p.l.length ic, .int .i64 p.f] 25)).alloc (.cells #[.slice none 0 0, .nilIface] 38) := ⟨_, rfl⟩
 have HA := Lib.hid (show At3 W1 w.heap.size (.slice so p.s.length sc) (.slice io p.l.length ic) (.int .i64 p.f) by rw [hW1]; exact (At3.new w _ _ _ _).below (below_new _ _))
 have HR := Lib.hid (show At2 W1 (w.heap.size + 1) (.slice none 0 0) .nilIface by rw [hW1]; have := At2.new (w.alloc (.cells #[.slice so p.s.length sc, .slice io p.l.length ic, .int .i64 p.f] 25)) (.slice none 0 0) .nilIface 38; simpa using this)
 have HB1 := Lib.hid (show Below w.heap.size w W1 by rw [hW1]; exact (below_new _ _).alloc (by simp) _)
 have HZ := Lib.hid (show w.heap.size + 1 < W1.heap.size by rw [hW1]; simp)
 have HQ := Lib.hid (of_calls ok p _ n W1 hl (HP.out.grow HB1.out) (fun j hj => keep_below HB1.out _ _ (hT j hj)))
 obtain ⟨A, hA⟩ : ∃ A, A = arrP 40 p := ⟨_, rfl⟩
 rw [hc, ← hA] at HQ
 rw [← hA]
 obtain ⟨_, a0, a1, a2, _⟩ := HA.out
 have hfold := hW1.symm
 clear hs hit hp hl hT hW1 hc hA
 go_enter Tryz.func10, Tryz.ntmps10
 go_wp2_with fail
 refine HQ.out.mono ?_
 rintro e w2 ⟨sh, u, rfl, hy, _, hB2⟩
 obtain ⟨hs1, hv1⟩ := hy rfl
 obtain ⟨so1, sc1, rfl, _⟩ := hs1.opened
 have hsx := hv1.store
 obtain ⟨W3, hW3⟩ : ∃ W3, W3 = w2.alloc (.cells #[.slice so1 A.1.length sc1, u] 38) := ⟨_, rfl⟩
 have HN := Lib.hid (show Below w2.heap.size w2 W3 by rw [hW3]; exact below_new _ _)
 have HAR := Lib.hid (show IsArr W3 (fun b => W1.heap.size ≤ b) (.slice so1 A.1.length sc1) u A from IsArr.grow ⟨hs1, hv1⟩ HN.out)
 have HV := Lib.hid (show At2 W3 w2.heap.size (.slice so1 A.1.length sc1) u by rw [hW3]; exact At2.new _ _ _ _)
 have HB3 := Lib.hid ((HB1.out.trans (hB2.mono HB1.out.size)).trans (HN.out.mono (Nat.le_trans HB1.out.size hB2.size)))
 obtain ⟨_, r0, r1, rf⟩ := (HR.out.below hB2).below HN.out
 have rf0 := rf 0
 have rf1 := rf 1
 obtain ⟨_, v0, v1, _⟩ := HV.out
 have HFW := Lib.hid hW3.symm; clear hy hs1 hv1 hfold a0 a1 a2 hB2 hW3 rf; have hfold := HFW.out
 go_wp2_with fail
 refine bodyPost_ret (v := .agg #[.slice so1 A.1.length sc1, u]) (by simp [results, Tryz.results10, go_sem, r0, r1]) rfl ⟨_, _, _, rfl, ?_, (HB3.out.setCell (Nat.le_succ _) _).setCell (Nat.le_succ _) _⟩
 exact HAR.out.keep ((Kept.setCell _ _ _ (by have := HZ.out; simp <;> omega)).trans (Kept.setCell _ _ _ (by have := HZ.out; simp <;> omega))) (fun b _ (h : W1.heap.size ≤ b) => by have := HZ.out; omega)
end Go.Proofs.YtbdhibcbpgjbmaaGreatDoor

/- Plain arrays, the document's functions walked: check, Check. -/
import Derived.Test.YtbdhibcbpgjbmaaGreatDoorVaC
import Derived.Test.YtbdhibcbpgjbmaaGreatDoorVaM
import Derived.Test.YtbdhibcbpgjbmaaGreatDoorShA
import Derived.Test.YtbdhibcbpgjbmaaGreatDoorVeF
namespace Go.Proofs.YtbdhibcbpgjbmaaGreatDoor
open Go.RowKit Fl
set_option linter.unusedVariables false
set_option maxRecDepth 100000
def IntIs (n : Int) (w : World) (e : Ending) (w' : World) : Prop := e = .returned (.int .i64 n) ∧ Below w.heap.size w w'
theorem IntIs.mk {n m : Int} {w w' : World} (h : m = n) (hb : Below w.heap.size w w') : IntIs n w (.returned (.int .i64 m)) w' := ⟨by rw [h], hb⟩

/-- A block of four cells. -/
def Blk4 (w : World) (b : Nat) (x y z t : Value) : Prop := b < w.heap.size ∧ w.cell? ⟨b, 0, none⟩ = some x ∧ w.cell? ⟨b, 1, none⟩ = some y ∧ w.cell? ⟨b, 2, none⟩ = some z ∧ w.cell? ⟨b, 3, none⟩ = some t ∧ ∀ o, w.frozen? ⟨b, o, none⟩ = false
theorem Blk4.new (w : World) (x y z u : Value) (t : TypeId) : Blk4 (w.alloc (.cells #[x, y, z, u] t)) w.heap.size x y z u := ⟨by simp, by simp, by simp, by simp, by simp, fun o => by simp⟩
theorem Blk4.below {w w' : World} {b : Nat} {x y z t : Value} (h : Blk4 w b x y z t) (hb : Below w.heap.size w w') : Blk4 w' b x y z t :=
 ⟨Nat.lt_of_lt_of_le h.1 hb.size, keep_below hb _ _ h.2.1, keep_below hb _ _ h.2.2.1, keep_below hb _ _ h.2.2.2.1, keep_below hb _ _ h.2.2.2.2.1, fun o => by rw [← h.2.2.2.2.2 o]; exact hb.frozen (p := ⟨b, o, none⟩) h.1⟩

set_option maxHeartbeats 4000000 in
theorem check_calls (d : Nat) : ∀ (ok : Nat → Prop) (p : PA) (u : Value) (n : Nat) (w : World), d ≤ 1000 → lo n p → IsP w ok u p →
  Calls Tryz.prog 61 #[u, .int .i64 (d : Int)] w (IntIs (chk d p) w) := by
 induction d with
 | zero =>
  intro ok p u n w _ hl hp
  obtain ⟨so, sc, io, ic, rfl, hs, hit⟩ := hp.opened
  clear hs hit hp hl
  go_enter Tryz.func61, Tryz.ntmps61
  go_wp2_with fail
  go_ret
  exact IntIs.mk rfl (below_new _ _)
 | succ d ih =>
  intro ok p u n w hd hl hp
  obtain ⟨n, rfl⟩ : ∃ n', n = n' + 1 := by cases n with | zero => exact hl.elim | succ n => exact ⟨n, rfl⟩
  obtain ⟨so, sc, io, ic, rfl, hs, hit⟩ := hp.opened
  have HL := Lib.hid hl; have HI := Lib.hid hit; have HS := Lib.hid hs
  obtain ⟨_, _, _, e2, e3, _⟩ := hs.opened
  rename_i x0 x1
  obtain ⟨_, _, e1, e4, e5⟩ := hit.len
  cases e1
  unfold maxLen at e3 e5
  have hsl : p.s.length ≤ 9223372036854775807 := by omega
  clear hl hit hs hp; have HIH := Lib.hid ih; clear ih
  obtain ⟨W1, hW1⟩ : ∃ W1, W1 = w.alloc (.cells #[.slice so p.s.length sc, .slice io p.l.length ic, .int .i64 p.f] 25) := ⟨_, rfl⟩
  have HA := Lib.hid (show At3 W1 w.heap.size _ _ _ by rw [hW1]; exact At3.new w _ _ _ _)
  have HB1 := Lib.hid (show Below w.heap.size w W1 by rw [hW1]; exact below_new _ _)
  obtain ⟨_, a0, a1, a2, _⟩ := HA.out
  have hd0 : ((d : Int) + 1 == 0) = false := by simp; omega
  by_cases hf : p.f < 0 ∨ 2 < p.f
  ·have HC := Lib.hid (chk_f (d := d) hf)
   rcases hf with hf | hf
   ·go_enter Tryz.func61, Tryz.ntmps61
    go_wp2_with fail
    go_ret
    exact IntIs.mk HC.out.symm (by rw [← hW1]; exact HB1.out)
   ·have hf2 : ¬ p.f < 0 := by omega
    go_enter Tryz.func61, Tryz.ntmps61
    go_wp2_with fail
    go_ret
    exact IntIs.mk HC.out.symm (by rw [← hW1]; exact HB1.out)
  ·have HF := Lib.hid hf
   have hf1 : ¬ p.f < 0 := by omega
   have hf2 : ¬ 2 < p.f := by omega
   clear hf
   have HPR := Lib.hid (rproduct_calls _ p.s 1048576 W1 (HS.out.below HB1.out) hsl)
   obtain ⟨c, hc⟩ : ∃ c, c = (prodR p.s 1048576).1 := ⟨_, rfl⟩
   obtain ⟨er, her⟩ : ∃ er, er = (prodR p.s 1048576).2 := ⟨_, rfl⟩
   rw [← hc, ← her] at HPR
   have HCN := Lib.hid hc; have HER := Lib.hid her
   have HER0 := HER
   clear hc her
   go_enter Tryz.func61, Tryz.ntmps61
   go_wp2_with fail
   rw [← hW1]
   refine HPR.out.mono ?_
   rintro e w2 ⟨rfl, rfl⟩
   clear hW1
   by_cases her : er = 0
   rotate_left
   ·have HC := Lib.hid (chk_s (d := d) HF.out (by rw [← HER.out]; exact her))
    rw [← HER.out] at HC
    go_wp2_with fail
    go_ret
    exact IntIs.mk HC.out.symm HB1.out
   have HZ := Lib.hid her
   subst her
   by_cases hcn : c = (p.l.length : Int)
   rotate_left
   ·have HC := Lib.hid (chk_n (d := d) HF.out HER.out.symm (by rw [← HCN.out]; exact hcn))
    go_wp2_with fail
    go_ret
    exact IntIs.mk HC.out.symm HB1.out
   have HC := Lib.hid (chk_e (d := d) HF.out HER.out.symm (by rw [← HCN.out]; exact hcn))
   subst hcn
   go_wp2_with fail
   go_loopw [7, 8] (fun gv i wr => ∃ (k : Nat) (g : Bool), k ≤ p.l.length ∧ i = .int .i64 k ∧ gv = .bool g ∧ g = (p.l.take k).all finI ∧ fe (itE (chk d) p.f) (p.l.take k) = 0 ∧ Below W1.heap.size W1 wr) (fun _ i _ => p.l.length - (intOf i).toNat)
   case atStart => exact ⟨0, true, by omega, rfl, rfl, rfl, rfl, Below.refl _ _⟩
   case round =>
    obtain ⟨k, g, hk, rfl, rfl, hg, hfe, hB⟩ := hrel
    obtain ⟨_, b0, b1, b2, _⟩ := HA.out.below hB
    have HB := Lib.hid hB; have HG := Lib.hid hg; have HFE := Lib.hid hfe; clear hB hg hfe
    by_cases hlt : k < p.l.length
    ·have hx := List.getElem?_eq_getElem hlt
     obtain ⟨x, hxx⟩ : ∃ x, x = p.l[k] := ⟨_, rfl⟩
     rw [← hxx] at hx
     clear hxx; have HX := Lib.hid hx
     obtain ⟨b, off, bo, bc, rfl, _, c0, c1, c2, c3, hbx⟩ := ((HI.out.grow HB1.out).grow HB.out).at hx
     obtain ⟨_, _, e1, e4, e6⟩ := hbx.len
     cases e1
     unfold maxLen at e6
     have hlox := HL.out x (List.mem_of_getElem? hx)
     have hw := Lib.hid hlox.1; have HLX := Lib.hid hlox.2
     obtain ⟨kd, nm, ch, bx⟩ := x
     simp only at c0 c1 c2 c3 e4
     have HBX := Lib.hid hbx
     simp only at HBX
     clear hx hbx hlox a0 a1 a2
     obtain ⟨W2, hW2⟩ : ∃ W2, W2 = wr.alloc (.cells #[.int .i64 kd, .float .f64 nm, .int .i32 ch, .slice bo bx.length bc] 34) := ⟨_, rfl⟩
     have HA4 := Lib.hid (show Blk4 W2 wr.heap.size _ _ _ _ by rw [hW2]; exact Blk4.new wr _ _ _ _ _)
     have HB2 := Lib.hid (show Below W1.heap.size W1 W2 by rw [hW2]; exact HB.out.alloc HB.out.size _)
     have HBw := Lib.hid (HB1.out.trans (HB2.out.mono HB1.out.size))
     obtain ⟨_, d0, d1, d2, d3, _⟩ := HA4.out
     have hsf := run_store_float
     have HBn := Lib.hid (show Below wr.heap.size wr W2 by rw [hW2]; exact below_new _ _)
     have hfold := hW2.symm
     clear hW2
     obtain ⟨_, g0, g1, g2, _⟩ := HA.out.below HB2.out
     by_cases hkf : kd = p.f
     rotate_left
     ·have HC2 := Lib.hid (chk_hit HF.out HER.out.symm HCN.out.symm HX.out HFE.out (itE_kind hkf) (by decide))
      have hne : (kd != p.f) = true := by simpa using hkf
      clear hkf
      go_wp2_with fail
      go_ret
      exact IntIs.mk HC2.out.symm HBw.out
     have hne : (kd != p.f) = false := by simpa using hkf
     have HKF := Lib.hid hkf; clear hkf
     by_cases hk2 : kd = 2
     ·have HK2 := Lib.hid hk2
      subst hk2
      by_cases hb1 : bx.length = 1
      rotate_left
      ·have HC2 := Lib.hid (chk_hit HF.out HER.out.symm HCN.out.symm HX.out HFE.out (itE_len rfl hb1) (by decide))
       have hne2 : ((bx.length : Int) != 1) = true := by simpa using (show (bx.length : Int) ≠ 1 by omega)
       clear hb1
       go_wp2_with fail
       go_ret
       exact IntIs.mk HC2.out.symm HBw.out
      obtain ⟨q, hq⟩ := List.length_eq_one_iff.1 hb1
      have HQE := Lib.hid hq
      have hlen0 : 0 < bx.length := by omega
      have hne2 : ((bx.length : Int) != 1) = false := by simpa using (show (bx.length : Int) = 1 by omega)
      obtain ⟨b', off', so', sc', io', ic', rfl, _, f0, f1, f2, hP⟩ := (HBX.out.grow HBn.out).at (k := 0) (by rw [HQE.out]; rfl : bx[0]? = some q)
      have HP := Lib.hid hP
      have hlq := Lib.hid (HLX.out q (by show q ∈ bx; rw [HQE.out]; simp))
      have hdd : Hid ((d : Int) + 1 - 1 = d) := Lib.hid (by omega)
      clear hP hb1 hq
      simp only [Nat.zero_mul, Nat.add_zero] at f0 f1 f2
      obtain ⟨er, her⟩ : ∃ er, er = chk d q := ⟨_, rfl⟩
      have HQ := Lib.hid (HIH.out ok q _ n _ (by omega) hlq.out HP.out)
      rw [← her] at HQ
      have HER := Lib.hid her; clear her
      go_wp2_with fail
      refine HQ.out.mono ?_
      rintro e w3 ⟨rfl, hB3⟩
      obtain ⟨_, d0, d1, d2, d3, _⟩ := HA4.out.below hB3
      have HB3 := Lib.hid (HB2.out.trans (hB3.mono HB2.out.size))
      have HBw3 := Lib.hid (HB1.out.trans (HB3.out.mono HB1.out.size))
      clear hB3 f0 f1 f2 hfold
      by_cases he0 : er = 0
      ·have hne3 : (er != 0) = false := by simpa using he0
       have HT := Lib.hid (fe_take HX.out HFE.out (by rw [itE_box (x := (2, nm, ch, bx)) HKF.out rfl HQE.out, ← HER.out]; exact he0))
       have HGG := Lib.hid (show g = (p.l.take (k + 1)).all finI by rw [all_take HX.out, ← HG.out, finI_box (x := (2, nm, ch, bx)) (by show (2 : Int) ≠ 0; decide)]; simp)
       clear he0
       cases g
       all_goals
        go_wp2_with fail
        go_roundw
        case rel => exact ⟨k + 1, _, by omega, by go_num, rfl, HGG.out, HT.out, HB3.out⟩
        case measure => simp [intOf]; omega
      ·have HC2 := Lib.hid (chk_hit HF.out HER0.out.symm HCN.out.symm HX.out HFE.out (itE_box (x := (2, nm, ch, bx)) HKF.out rfl HQE.out) (by rw [← HER.out]; exact he0))
       rw [← HER.out] at HC2
       have hne3 : (er != 0) = true := by simpa using he0
       clear he0
       go_wp2_with fail
       go_ret
       exact IntIs.mk HC2.out.symm HBw3.out
     ·have HT := Lib.hid (fe_take HX.out HFE.out (itE_other HKF.out hk2))
      have h2e : (kd == 2) = false := by simpa using hk2
      clear hk2
      by_cases hk0 : kd = 0
      ·subst hk0
       by_cases hfin : Fnt nm
       ·have HGG := Lib.hid (show g = (p.l.take (k + 1)).all finI by rw [all_take HX.out, ← HG.out, finI_fin hfin]; simp)
        have HFN := Lib.hid hfin; clear hfin
        cases g
        ·go_wp2_with fail
         go_roundw
         case rel => exact ⟨k + 1, _, by omega, by go_num, rfl, HGG.out, HT.out, HB2.out⟩
         case measure => simp [intOf]; omega
        ·go_wp2_with fail
         refine (rfinite_fin nm _ HFN.out).mono ?_
         rintro e w' ⟨rfl, rfl⟩
         go_wp2_with fail
         go_roundw
         case rel => exact ⟨k + 1, _, by omega, by go_num, rfl, HGG.out, HT.out, HB2.out⟩
         case measure => simp [intOf]; omega
       ·have HGG := Lib.hid (show false = (p.l.take (k + 1)).all finI by rw [all_take HX.out, ← HG.out, finI_non rfl hfin]; simp)
        have HFN := Lib.hid hfin; clear hfin
        cases g
        ·go_wp2_with fail
         go_roundw
         case rel => exact ⟨k + 1, _, by omega, by go_num, rfl, HGG.out, HT.out, HB2.out⟩
         case measure => simp [intOf]; omega
        ·go_wp2_with fail
         refine (rfinite_non nm _ hw.out HFN.out).mono ?_
         rintro e w' ⟨rfl, rfl⟩
         go_wp2_with fail
         go_roundw
         case rel => exact ⟨k + 1, _, by omega, by go_num, rfl, HGG.out, HT.out, HB2.out⟩
         case measure => simp [intOf]; omega
      ·have HGG := Lib.hid (show g = (p.l.take (k + 1)).all finI by rw [all_take HX.out, ← HG.out, finI_box hk0]; simp)
       have h0e : (kd != 0) = true := by simpa using hk0
       clear hk0
       cases g
       all_goals
        go_wp2_with fail
        go_roundw
        case rel => exact ⟨k + 1, _, by omega, by go_num, rfl, HGG.out, HT.out, HB2.out⟩
        case measure => simp [intOf]; omega
    ·have hkl : k = p.l.length := by omega
     have HC2 := Lib.hid (chk_end (d := d) HF.out HER.out.symm HCN.out.symm (by have := HFE.out; rwa [hkl, List.take_length] at this))
     have HG2 := Lib.hid (show g = p.l.all finI by have := HG.out; rwa [hkl, List.take_length] at this)
     rw [← HG2.out] at HC2
     have HBw := Lib.hid (HB1.out.trans (HB.out.mono HB1.out.size))
     clear hkl
     cases g
     all_goals
      go_wp2_with fail
      go_ret
      exact IntIs.mk HC2.out.symm HBw.out
theorem vCheck_calls (ok : Nat → Prop) (p : PA) (u : Value) (n : Nat) (w : World) (hl : lo n p) (hp : IsP w ok u p) : Calls Tryz.prog 27 #[u] w (IntIs (chk 40 p) w) := by
 have HL := Lib.hid hl; have HP := Lib.hid hp
 obtain ⟨so, sc, io, ic, rfl, hs, hit⟩ := hp.opened
 clear hl hit hs hp
 have HQ := Lib.hid (check_calls 40 ok p _ n (w.alloc (.cells #[.slice so p.s.length sc, .slice io p.l.length ic, .int .i64 p.f] 25)) (by omega) HL.out (HP.out.grow (below_new _ _)))
 have HBB := Lib.hid (below_new w (.cells #[.slice so p.s.length sc, .slice io p.l.length ic, .int .i64 p.f] 25))
 obtain ⟨c, hc⟩ : ∃ c, c = chk 40 p := ⟨_, rfl⟩
 rw [← hc] at HQ ⊢
 clear hc
 go_enter Tryz.func27, Tryz.ntmps27
 go_wp2_with fail
 refine HQ.out.mono ?_
 rintro e w3 ⟨rfl, hB3⟩
 have HB3 := Lib.hid (HBB.out.trans (hB3.mono HBB.out.size))
 clear hB3
 go_wp2_with fail
 go_ret
 exact IntIs.mk rfl HB3.out
theorem Blk4.go {w w' : World} {b : Nat} {x y z t : Value} (h : Blk4 w b x y z t) (hB : Below w.heap.size w w') : Hid (Blk4 w' b x y z t) := Lib.hid (h.below hB)
end Go.Proofs.YtbdhibcbpgjbmaaGreatDoor

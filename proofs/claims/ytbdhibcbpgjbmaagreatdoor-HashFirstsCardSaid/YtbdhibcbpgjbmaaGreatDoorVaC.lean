/- Plain arrays, the document's functions walked: Count. -/
import Derived.Test.YtbdhibcbpgjbmaaGreatDoorVaA
import Derived.Deep.LoopGhost
namespace Go.Proofs.YtbdhibcbpgjbmaaGreatDoor
open Go.RowKit
set_option linter.unusedVariables false
set_option maxRecDepth 100000

/-- A block of three cells. -/
def At3 (w : World) (b : Nat) (x y z : Value) : Prop := b < w.heap.size ∧ w.cell? ⟨b, 0, none⟩ = some x ∧ w.cell? ⟨b, 1, none⟩ = some y ∧ w.cell? ⟨b, 2, none⟩ = some z ∧ ∀ o, w.frozen? ⟨b, o, none⟩ = false
theorem At3.new (w : World) (x y z : Value) (t : TypeId) : At3 (w.alloc (.cells #[x, y, z] t)) w.heap.size x y z := ⟨by simp, by simp, by simp, by simp, fun o => by simp⟩
theorem At3.below {w w' : World} {b : Nat} {x y z : Value} (h : At3 w b x y z) (hb : Below w.heap.size w w') : At3 w' b x y z :=
 ⟨Nat.lt_of_lt_of_le h.1 hb.size, keep_below hb _ _ h.2.1, keep_below hb _ _ h.2.2.1, keep_below hb _ _ h.2.2.2.1, fun o => by rw [← h.2.2.2.2 o]; exact hb.frozen (p := ⟨b, o, none⟩) h.1⟩

def AnyInt (w : World) (e : Ending) (w' : World) : Prop := ∃ n, e = .returned (.int .i64 n) ∧ Below w.heap.size w w'
set_option maxHeartbeats 2000000 in
theorem pcount_calls (d : Nat) : ∀ (ok : Nat → Prop) (p : PA) (u : Value) (most : Int) (w : World), lo d p → IsP w ok u p →
  Calls Tryz.prog 26 #[u, .int .i64 most] w (AnyInt w) := by
 induction d with
 | zero => intro ok p u most w h; exact h.elim
 | succ d ih =>
  intro ok p u most w hl hp
  obtain ⟨so, sc, io, ic, rfl, hs, hit⟩ := hp.opened
  have HL := Lib.hid hl; have HI := Lib.hid hit
  obtain ⟨_, _, e1, e2, e3⟩ := hit.len
  cases e1
  unfold maxLen at e3
  clear hl hit hs hp; have HIH := Lib.hid ih; clear ih
  obtain ⟨W1, hW1⟩ : ∃ W1, W1 = w.alloc (.cells #[.slice so p.s.length sc, .slice io p.l.length ic, .int .i64 p.f] 25) := ⟨_, rfl⟩
  have HA := Lib.hid (show At3 W1 w.heap.size _ _ _ by rw [hW1]; exact At3.new w _ _ _ _)
  have HB1 := Lib.hid (show Below w.heap.size w W1 by rw [hW1]; exact below_new _ _)
  obtain ⟨_, a0, a1, a2, _⟩ := HA.out
  go_enter Tryz.func26, Tryz.ntmps26
  go_wp2_with fail
  rw [← hW1]
  clear hW1
  go_loopw [5, 6] (fun n i wr => ∃ (k : Nat) (m : Int), k ≤ p.l.length ∧ i = .int .i64 k ∧ n = .int .i64 m ∧ Below W1.heap.size W1 wr) (fun _ i _ => p.l.length - (intOf i).toNat)
  case atStart => exact ⟨0, _, by omega, rfl, rfl, Below.refl _ _⟩
  case round =>
   obtain ⟨k, m, hk, rfl, rfl, hB⟩ := hrel
   obtain ⟨_, b0, b1, b2, _⟩ := HA.out.below hB
   have HB := Lib.hid hB; clear hB
   by_cases hlt : k < p.l.length
   ·by_cases hm : m ≤ most
    ·have hx := List.getElem?_eq_getElem hlt
     obtain ⟨x, hxx⟩ : ∃ x, x = p.l[k] := ⟨_, rfl⟩
     rw [← hxx] at hx
     clear hxx; have HX := Lib.hid hx
     obtain ⟨b, off, bo, bc, rfl, _, c0, c1, c2, c3, hbx⟩ := ((HI.out.grow HB1.out).grow HB.out).at hx
     obtain ⟨_, _, e1, e4, e5⟩ := hbx.len
     cases e1
     unfold maxLen at e5
     have HBX := Lib.hid hbx; have C3 := Lib.hid c3; have A1 := Lib.hid b1
     have hlox := Lib.hid (HL.out x (List.mem_of_getElem? hx)).2
     clear hx hbx c0 c1 c2 c3 a0 a1 a2 b0 b1 b2; have a1 := A1.out; have c3 := C3.out
     go_wp2_with fail
     go_loopw [5, 7] (fun n i wr2 => ∃ (q : Nat) (m : Int), q ≤ x.2.2.2.length ∧ i = .int .i64 q ∧ n = .int .i64 m ∧ Below wr.heap.size wr wr2) (fun _ i _ => x.2.2.2.length - (intOf i).toNat)
     case atStart => exact ⟨0, _, by omega, rfl, rfl, Below.refl _ _⟩
     case round =>
      obtain ⟨q, m2, hq, rfl, rfl, hB2⟩ := hrel
      have d1 := keep_below hB2 _ _ A1.out
      have d3 := keep_below hB2 _ _ C3.out
      have HB2 := Lib.hid hB2; clear hB2 a1 c3
      by_cases hlq : q < x.2.2.2.length
      ·by_cases hm2 : m2 ≤ most
       ·have hy := List.getElem?_eq_getElem hlq
        obtain ⟨y, hyy⟩ : ∃ y, y = x.2.2.2[q] := ⟨_, rfl⟩
        rw [← hyy] at hy
        clear hyy
        obtain ⟨b', off', so', sc', io', ic', rfl, _, g0, g1, g2, hP⟩ := (HBX.out.grow HB2.out).at hy
        have HP := Lib.hid hP
        have hly := Lib.hid (hlox.out y (List.mem_of_getElem? hy))
        clear hy hP
        go_wp2_with fail
        refine (HIH.out ok y _ most _ hly.out HP.out).mono ?_
        rintro e w2 ⟨n2, rfl, hB3⟩
        have HB3 := Lib.hid (HB2.out.trans (hB3.mono HB2.out.size))
        clear hB3 d1 d3
        go_wp2_with fail
        go_roundw
        case rel => exact ⟨q + 1, _, by omega, by go_num, rfl, HB3.out⟩
        case measure => simp [intOf]; omega
       ·go_wp2_with fail
        go_roundw
        case rel => exact ⟨k + 1, _, by omega, by go_num, rfl, HB.out.trans (HB2.out.mono HB.out.size)⟩
        case measure => simp [intOf]; omega
      ·go_wp2_with fail
       go_roundw
       case rel => exact ⟨k + 1, _, by omega, by go_num, rfl, HB.out.trans (HB2.out.mono HB.out.size)⟩
       case measure => simp [intOf]; omega
    ·go_wp2_with fail
     go_ret
     first | exact ⟨_, rfl, HB1.out.trans (HB.out.mono HB1.out.size)⟩ | exact HB1.out.trans (HB.out.mono HB1.out.size)
   ·go_wp2_with fail
    go_ret
    first | exact ⟨_, rfl, HB1.out.trans (HB.out.mono HB1.out.size)⟩ | exact HB1.out.trans (HB.out.mono HB1.out.size)
theorem At3.go {w w' : World} {b : Nat} {x y z : Value} (h : At3 w b x y z) (hB : Below w.heap.size w w') : Hid (At3 w' b x y z) := Lib.hid (h.below hB)
end Go.Proofs.YtbdhibcbpgjbmaaGreatDoor

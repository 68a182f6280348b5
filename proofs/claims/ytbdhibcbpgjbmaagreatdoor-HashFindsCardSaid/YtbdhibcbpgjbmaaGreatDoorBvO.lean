/- Package bitvec: Ones. -/
import Derived.Test.YtbdhibcbpgjbmaaGreatDoorBvJ
import Derived.Test.YtbdhibcbpgjbmaaGreatDoorBvL
namespace Go.Proofs.YtbdhibcbpgjbmaaGreatDoor
set_option maxRecDepth 100000
open Go.RowKit
set_option linter.unusedVariables false

theorem onesTo_skip {F : Nat → Bool} {a : Nat} : ∀ d, (∀ j, a ≤ j → j < a + d → F j = false) → onesTo F (a + d) = onesTo F a
 | 0, _ => rfl
 | d + 1, h => by
  rw [← Nat.add_assoc, onesTo_miss (h (a + d) (by omega) (by omega))]
  exact onesTo_skip d fun j h1 h2 => h j h1 (by omega)
theorem onesTo_skip' {F : Nat → Bool} {a b : Nat} (hab : a ≤ b) (h : ∀ j, a ≤ j → j < b → F j = false) : onesTo F b = onesTo F a := by
 obtain ⟨d, rfl⟩ := Nat.exists_eq_add_of_le hab
 exact onesTo_skip d h

/-- What is left of word k from bit t on. -/
def Left (F : Nat → Bool) (k t x : Nat) : Prop := x < 18446744073709551616 ∧ ∀ j, j < 64 → x.testBit j = (decide (t ≤ j) && F (64 * k + j))
theorem Left.start (F : Nat → Bool) (k : Nat) : Left F k 0 (bw F k) := ⟨bw_lt _ _, fun j hj => by rw [testBit_bw]; simp [hj]⟩
theorem Left.done {F : Nat → Bool} {k t : Nat} (h : Left F k t 0) (ht : t ≤ 64) : onesTo F (64 * (k + 1)) = onesTo F (64 * k + t) := by
 refine onesTo_skip' (by omega) fun j h1 h2 => ?_
 have := h.2 (j - 64 * k) (by omega)
 rw [Nat.zero_testBit, decide_eq_true (by omega), Bool.true_and, show 64 * k + (j - 64 * k) = j by omega] at this
 exact this.symm
theorem Left.next {F : Nat → Bool} {k t x : Nat} (h : Left F k t x) (h0 : x ≠ 0) :
  ∃ c, c = Lib.ctz 64 x ∧ t ≤ c ∧ c < 64 ∧ onesTo F (64 * k + (c + 1)) = onesTo F (64 * k + t) ++ [((64 * k + c : Nat) : Int)] ∧ Left F k (c + 1) (x &&& (x - 1)) := by
 obtain ⟨c1, c2, c3, c4⟩ := ctz_spec x h0 h.1
 generalize Lib.ctz 64 x = c at *
 have e := h.2 c c1
 rw [c2] at e
 have htc : t ≤ c := by
  apply Nat.le_of_not_lt; intro hlt; rw [decide_eq_false (by omega)] at e; simp at e
 have hF : F (64 * k + c) = true := by rw [decide_eq_true htc, Bool.true_and] at e; exact e.symm
 refine ⟨c, rfl, htc, c1, ?_, ?_, ?_⟩
 ·rw [← Nat.add_assoc, onesTo_hit hF]
  congr 1
  refine onesTo_skip' (by omega) fun j h1 h2 => ?_
  have := h.2 (j - 64 * k) (by omega)
  rw [c3 _ (by omega), decide_eq_true (by omega), Bool.true_and, show 64 * k + (j - 64 * k) = j by omega] at this
  exact this.symm
 ·exact Nat.lt_of_le_of_lt Nat.and_le_left h.1
 ·intro j hj
  rw [c4, h.2 j hj]
  by_cases h1 : c < j
  ·simp [h1, show t ≤ j by omega, show c + 1 ≤ j by omega]
  ·simp [h1, show ¬ c + 1 ≤ j by omega]

set_option maxHeartbeats 2000000 in
theorem ones_slc (v : Value) (l : List Bool) (w : World) (hv : IsBits w v l) (hl : l.length ≤ 1048576) (hT : TabAt w) :
  Calls Tryz.prog 114 #[v] w fun e w' => ∃ v, e = .returned v ∧ Slc w' (fun b => w.heap.size ≤ b) v (onesTo (sq l) l.length).length (ints (onesTo (sq l) l.length)) ∧ Below w.heap.size w w' := by
 obtain ⟨i0, hi, hz0, hz1, hz2⟩ := info_parts info_int
 have HV := Lib.hid hv
 obtain ⟨ao, cap, rfl, hcells⟩ := hv.opened
 obtain ⟨L, hL⟩ : ∃ L, (l.length + 63) / 64 = L := ⟨_, rfl⟩
 rw [hL] at hcells HV ⊢
 have hL2 : L ≤ 16384 := by omega
 have HL := Lib.hid (show onesTo (sq l) (64 * L) = onesTo (sq l) l.length from onesTo_skip' (by omega) fun j h1 _ => sq_out h1)
 have hcnt := cnt_le (sq l) l.length
 have HC := Lib.hid hcells; clear hcells hv hL
 go_enter Tryz.func114, Tryz.ntmps114
 go_wp2_with fail
 refine (count_calls _ l _ (HV.out.keep (keep_alloc _ _)) hl).mono ?_
 rintro e w1 ⟨rfl, hB⟩
 have hA1 : Hid (At2 w1 w.heap.size (.int .i64 l.length) (.slice ao L cap)) := Lib.hid ((At2.new _ _ _ _).below hB)
 have hB1 : Hid (Below w.heap.size w w1) := Lib.hid (((Below.refl w.heap.size w).alloc (Nat.le_refl _) (.cells #[.int .i64 l.length, .slice ao L cap] 81)).trans (hB.mono (by simp)))
 have hs1 : w.heap.size + 1 ≤ w1.heap.size := by have := hB.size; simpa using this
 clear hB
 go_wp2_with ((with_reducible refine wpList_make_own _ rfl _ _ 22 rfl (w.heap.size + 1) 3 i0 (.int .i64 0) 1 Tryz.underlying22 hi hz0 hz1 .i64 .i64 _ (cnt (sq l) l.length) rfl rfl rfl ?_ ?_ ?_ ?_))
 ·rw [hz2]; omega
 ·unfold maxLen; omega
 ·exact hs1
 intro w2 hown hgrow
 have hB2 : Below w1.heap.size w1 w2 := (Below.refl _ _).grown hgrow (Nat.le_refl _) (fun k hk => by cases hk)
 have hA2 : Hid (At2 w2 w.heap.size (.int .i64 l.length) (.slice ao L cap)) := Lib.hid (hA1.out.below hB2)
 have HB2 := Lib.hid (hB1.out.trans (hB2.mono hB1.out.size))
 have HO2 : Hid (w2.ownsRow (w.heap.size + 1) 3 1 (.slice (some ⟨w1.heap.size, 0, none⟩) 0 (cnt (sq l) l.length)) (onesTo (sq l) (64 * 0)).length (ints (onesTo (sq l) (64 * 0)))) := Lib.hid hown
 clear hown hgrow hB2
 obtain ⟨yl, y0, y1, yf⟩ := hA2.out
 clear yf
 go_wp2
 go_loopw [3, 12] (fun v i wr => ∃ k : Nat, k ≤ L ∧ i = .int .i64 k ∧ wr.ownsRow (w.heap.size + 1) 3 1 v (onesTo (sq l) (64 * k)).length (ints (onesTo (sq l) (64 * k))) ∧ At2 wr w.heap.size (.int .i64 l.length) (.slice ao L cap) ∧ Below w.heap.size w wr) (fun _ i _ => L - (intOf i).toNat)
 case atStart => exact ⟨0, by omega, rfl, HO2.out, hA2.out, HB2.out⟩
 case round =>
  obtain ⟨k, hk, rfl, hown, hA, hB⟩ := hrel
  have HO := Lib.hid hown; have HA := Lib.hid hA; have HB := Lib.hid hB
  obtain ⟨zl, z0, z1, zf⟩ := hA
  by_cases hlt : k < L
  ·obtain ⟨b, off, rfl, hc⟩ := HC.out k hlt
   have hcl := keep_below HB.out _ _ hc
   clear zf hown hB hc
   go_wp2
   go_loopg [3, 5] 64 (fun g v u wq => ∃ t x : Nat, t + g = 64 ∧ u = .int .u64 (x : Nat) ∧ Left (sq l) k t x ∧ wq.ownsRow (w.heap.size + 1) 3 1 v (onesTo (sq l) (64 * k + t)).length (ints (onesTo (sq l) (64 * k + t))) ∧ At2 wq w.heap.size (.int .i64 l.length) (.slice (some ⟨b, off, none⟩) L cap) ∧ Below w.heap.size w wq)
   case atStart => exact ⟨0, _, by omega, rfl, Left.start _ _, HO.out, HA.out, HB.out⟩
   case round =>
    obtain ⟨t, x, htg, rfl, hleft, hown, hA, hB⟩ := hrel
    have HO' := Lib.hid hown
    have HA' := Lib.hid hA
    have HB' := Lib.hid hB
    have hxl := hleft.1
    have hlen := onesTo_le (sq l) (64 * k + t)
    have hszq := hB.size
    have hszq2 := hA.1
    by_cases hx : x = 0
    ·have hx' : ((x : Int) != 0) = false := by rw [hx]; rfl
     have HE := Lib.hid (show onesTo (sq l) (64 * (k + 1)) = onesTo (sq l) (64 * k + t) by subst hx; exact hleft.done (by omega))
     clear hx hleft hown hA hB
     go_wp2
     go_roundw
     case rel => exact ⟨k + 1, by omega, by go_num, by rw [HE.out]; exact HO'.out, HA'.out, HB'.out⟩
     case measure => simp [intOf]; omega
    ·have hx' : ((x : Int) != 0) = true := by simp; omega
     have hx1 : 1 ≤ x := by omega
     obtain ⟨c, hc, htc, hc64, hone, hnext⟩ := hleft.next hx
     have HC' := Lib.hid hc
     have HX := Lib.hid hx; have H1 := Lib.hid hone; have HN := Lib.hid hnext
     have HAnd := Lib.hid (show bits BinOp.and IntKind.u64 (x : Int) ((x : Int) - 1) = ((x &&& (x - 1) : Nat) : Int) by
      have := u64_and_nat x (x - 1) hxl (by omega)
      rwa [show ((x - 1 : Nat) : Int) = (x : Int) - 1 by omega] at this)
     have HT' : Hid (TabAt wr) := Lib.hid (fun j hj => keep_below HB'.out _ _ (hT j hj))
     have htr := fun w h => trailing_calls x hxl hx w h
     rw [← hc] at htr
     have HTR := Lib.hid htr; clear hx hc hone hnext hleft hown hA hB htr
     go_wp2_with (first | (go_at_call 135; refine (HTR.out _ ?_).mono ?_; exact HT'.out; rintro e w' ⟨rfl, rfl⟩) | (at_builtin; refine wpList_append_own _ rfl _ _ 22 rfl (w.heap.size + 1) 3 i0 (.int .i64 0) 1 8 Tryz.underlying22 hi hz0 hz1 hz2 rfl (by decide) _ _ _ rfl (HO'.out.alloc _) ⟨wr.heap.size, 0, none⟩ 1 1 [.int .i64 ((k : Int) * 64 + (c : Int))] rfl rfl ?c1 ?c2 ?c3 ?c4 ?c5 ?_))
     case c1 =>
      intro j u hj
      match j, hj with
      | 0, hj => simp at hj; subst hj; simp [Addr.add]
     case c2 => intro u hu; simp at hu; subst hu; rfl
     case c3 => unfold maxLen; omega
     case c4 => omega
     case c5 => simp; omega
     intro v' w3 hown' hgrow _
     have HO3 := Lib.hid hown'
     have HB3 := Lib.hid (grown_below (HB'.out.alloc hszq _) (HO'.out.alloc _) (by omega) (by simp; omega) hgrow)
     have HA3 : Hid (At2 w3 w.heap.size (.int .i64 l.length) (.slice (some ⟨b, off, none⟩) L cap)) := Lib.hid ((HA'.out.alloc _).grown hgrow (fun e => by have := (World.ownsRow.lt HO'.out _ e.symm).1; omega))
     clear hown' hgrow
     go_wp2
     rw [HAnd.out]
     go_roundg (64 - (c + 1))
     case rel =>
      refine ⟨c + 1, _, by omega, rfl, HN.out, ?_, HA3.out, HB3.out⟩
      have := HO3.out
      rw [H1.out]
      have e : ((k : Int) * 64 + (c : Int)) = ((64 * k + c : Nat) : Int) := by omega
      rw [e] at this
      simpa [ints] using this
     case measure => omega
  ·have hkL : k = L := by omega
   have HE := Lib.hid hkL; clear hkL hown hB zf
   go_wp2
   go_ret
   refine ⟨_, rfl, ?_, HB.out⟩
   have := (Slc.owned HO.out).keep (Kept.refl _ _) (ok' := fun b => w.heap.size ≤ b) (fun b _ h => by omega)
   rwa [HE.out, HL.out] at this
theorem ones_calls (v : Value) (l : List Bool) (w : World) (hv : IsBits w v l) (hl : l.length ≤ 1048576) (hT : TabAt w) :
  Calls Tryz.prog 114 #[v] w fun e w' => ∃ v, e = .returned v ∧ Sl w' v (onesTo (sq l) l.length).length (ints (onesTo (sq l) l.length)) ∧ Below w.heap.size w w' :=
 (ones_slc v l w hv hl hT).mono fun _ _ ⟨v, h1, h2, h3⟩ => ⟨v, h1, h2.1.sl, h3⟩
end Go.Proofs.YtbdhibcbpgjbmaaGreatDoor

/- Package shape, walked: Split, With, Without, Same. -/
import Derived.Test.YtbdhibcbpgjbmaaGreatDoorShV
import Derived.Test.YtbdhibcbpgjbmaaGreatDoorCat
import Derived.Test.YtbdhibcbpgjbmaaGreatDoorVeC
import Derived.Test.YtbdhibcbpgjbmaaGreatDoorBvK
namespace Go.Proofs.YtbdhibcbpgjbmaaGreatDoor
open Go.RowKit
set_option linter.unusedVariables false
set_option maxRecDepth 100000

set_option maxHeartbeats 2000000 in
theorem sequali_calls {ok ok2 : Nat → Prop} (v1 v2 : Value) (xs ys : List Int) (w : World) (h1 : Slc w ok v1 xs.length (ints xs)) (h2 : Slc w ok2 v2 ys.length (ints ys)) (hm : xs.length ≤ maxLen) :
  Calls Tryz.prog 151 #[v1, v2] w fun e w' => e = .returned (.bool (xs == ys)) ∧ Below w.heap.size w w' := by
 unfold maxLen at hm
 obtain ⟨_, ao, cap, rfl, hc1⟩ := h1.1.sl
 obtain ⟨_, ao2, cap2, rfl, hc2⟩ := h2.1.sl
 have HC1 := Lib.hid hc1; have HC2 := Lib.hid hc2; clear hc1 hc2 h1 h2
 by_cases hlen : xs.length = ys.length
 ·obtain ⟨n, hn⟩ : ∃ n, n = xs.length := ⟨_, rfl⟩
  have hn2 : ys.length = n := by omega
  rw [hn2, ← hn]
  rw [← hn] at hm
  have HN := Lib.hid hn; have HN2 := Lib.hid hn2
  have hb : ((n : Int) != (n : Int)) = false := by simp
  clear hn hn2 hlen
  go_enter Tryz.func151, Tryz.ntmps151
  go_wp2
  go_loopw [13] (fun i wr => ∃ k q : Nat, k ≤ n ∧ i = .int .i64 k ∧ wr = w.drewN q ∧ xs.take k = ys.take k) (fun i _ => n - (intOf i).toNat)
  case atStart => exact ⟨0, 0, by omega, rfl, rfl, rfl⟩
  case round =>
   obtain ⟨k, q, hk, rfl, rfl, htk⟩ := hrel
   have HT := Lib.hid htk; clear htk
   by_cases hlt : k < n
   ·have hx : k < xs.length := by have := HN.out; omega
    have hy : k < ys.length := by have := HN2.out; omega
    obtain ⟨b, off, rfl, hcx⟩ := HC1.out k (by rw [ints_len]; exact hx)
    obtain ⟨b2, off2, rfl, hcy⟩ := HC2.out k (by rw [ints_len]; exact hy)
    rw [ints_get] at hcx hcy
    have HX := Lib.hid hx; have HY := Lib.hid hy
    have hi0 : (0 : Int) ≤ (k : Int) := by omega
    by_cases he : xs[k] = ys[k]
    ·have HE := Lib.hid he
     have hne : (xs[k] != ys[k]) = false := by simp [he]
     clear he
     go_wp2
     go_quiet (fail)
     go_wp2
     go_roundw
     case rel => exact ⟨k + 1, q + nq, by omega, by go_num, by first | rfl | rw [World.drewN_drewN], take_step HX.out HY.out HT.out HE.out⟩
     case measure => simp [intOf]; omega
    ·have HE := Lib.hid (ne_at hx hy he)
     have hne : (xs[k] != ys[k]) = true := by rw [bne_iff_ne]; exact he
     clear he
     go_wp2
     go_quiet (fail)
     go_wp2
     go_ret
     exact ⟨ret_b HE.out.symm, by first | exact Below.drewN' (Below.drewN' (Below.refl _ _) _) _ | exact Below.drewN' (Below.refl _ _) _⟩
   ·have hkn : k = n := by omega
    have HE := Lib.hid (eq_all (xs := xs) (ys := ys) (k := k) (by have := HN.out; omega) (by have := HN2.out; omega) HT.out)
    clear hkn
    go_wp2
    go_ret
    exact ⟨ret_b HE.out.symm, Below.drewN' (Below.refl _ _) _⟩
 ·have HE := Lib.hid (ne_len hlen)
  have hb : ((xs.length : Int) != (ys.length : Int)) = true := by simp; omega
  clear hlen
  go_enter Tryz.func151, Tryz.ntmps151
  go_wp2
  go_ret
  exact ⟨ret_b HE.out.symm, Below.refl _ _⟩
theorem ssame_calls {ok ok2 : Nat → Prop} (v v2 : Value) (s t : List Int) (w : World) (h1 : Slc w ok v s.length (ints s)) (l1 : s.length ≤ 1000) (h2 : Slc w ok2 v2 t.length (ints t)) (l2 : t.length ≤ 1000) :
  Calls Tryz.prog 148 #[v, v2] w fun e w' => e = .returned (.bool (decide (s = t))) ∧ Below w.heap.size w w' := by
 have H1 := Lib.hid h1; have H2 := Lib.hid h2
 have HL := Lib.hid (show s.length ≤ maxLen by unfold maxLen; omega)
 have HE := Lib.hid (show (s == t) = decide (s = t) by rw [Bool.eq_iff_iff]; simp)
 clear h1 h2
 go_enter Tryz.func148, Tryz.ntmps148
 go_wp2_with fail
 refine (sequali_calls _ _ s t _ H1.out H2.out HL.out).mono ?_
 rintro e w1 ⟨rfl, hB⟩
 have HB := Lib.hid hB; clear hB; rw [HE.out]
 go_wp2
 go_ret
 exact ⟨rfl, HB.out⟩

theorem results_tmp4S {fn : Func} {t u v x : Tmp} (h : fn.results = #[.tmp t, .tmp u, .tmp v, .tmp x]) (tmps : Array Value) (P : Program) (w : World) :
  (results fn tmps).run P w = .ok (.tuple #[tmps.getD t undef, tmps.getD u undef, tmps.getD v undef, tmps.getD x undef]) w := by
 simp [results, h]
theorem axisG_yes {s : List Int} {a : Int} (h : axisG s a = true) : ∃ k : Nat, a = (k : Int) ∧ k < s.length := by
 have h2 := of_decide_eq_true h
 obtain ⟨k, rfl⟩ := Int.eq_ofNat_of_zero_le h2.1
 exact ⟨k, rfl, by omega⟩
theorem splitG_no {s : List Int} {a : Int} (h : (goodS s && axisG s a) = false) : splitG s a = (0, 0, 0) := by unfold splitG; rw [if_neg (by rw [h]; decide)]
theorem splitG_yes {s : List Int} {a : Int} (h : (goodS s && axisG s a) = true) : splitG s a = ((prodR (s.take a.toNat) 1048576).1, s.getD a.toNat 0, (prodR (s.drop (a.toNat + 1)) 1048576).1) := if_pos h
theorem ret_split {s : List Int} {a x y z : Int} {b : Bool} (h : splitG s a = (x, y, z)) : Ending.returned (.tuple #[.int .i64 x, .int .i64 y, .int .i64 z, .bool b]) = .returned (.tuple #[.int .i64 (splitG s a).1, .int .i64 (splitG s a).2.1, .int .i64 (splitG s a).2.2, .bool b]) := by rw [h]
set_option maxHeartbeats 1000000 in
/-- A clone is a row of the call's own. -/
theorem cloneOwn_calls {ok : Nat → Prop} (v : Value) (l : List Int) (w : World) (hv : Slc w ok v l.length (ints l)) (hm0 : l.length ≤ 2000000) :
  Calls Tryz.prog 72 #[v] w fun e w' => ∃ v, e = .returned v ∧ w'.ownsRow w.heap.size 3 1 v l.length (ints l) ∧ Below w.heap.size w w' := by
 obtain ⟨i0, hi, hz0, hz1, hz2⟩ := info_parts info_int
 obtain ⟨ao, cap, rfl, h1, h2, _, hcells⟩ := hv.opened
 have hm : l.length ≤ maxLen := by unfold maxLen; omega
 clear hv h1 h2
 have qT : ∀ (w : World) (a : Option Addr) (n c n' c' : Nat), (binOp .eql 22 (.slice a n c) (.slice none n' c')).run Tryz.prog w = .ok (.bool a.isNone) w := fun w a n c n' c' => Lib.run_eql_slice_nil w _ _ a n c n' c' Tryz.underlying22
 cases ao with
 | none =>
  have h0 : l = [] := by
   cases l with
   | nil => rfl
   | cons z zs => obtain ⟨b, off, e, _⟩ := hcells 0 (by simp [ints]); cases e
  subst h0
  go_enter Tryz.func72, Tryz.ntmps72
  go_wp2
  go_ret
  exact ⟨_, rfl, World.ownsRow_nil _ _ _ _, Below.refl _ _⟩
 | some ad =>
  have hc : ∀ j u, (ints l)[j]? = some u → w.cell? (ad.add j) = some u := by
   intro j u hj
   obtain ⟨hj', e⟩ := List.getElem?_eq_some_iff.1 hj
   obtain ⟨b, off, e2, _, hcell⟩ := hcells j hj'
   obtain rfl := Option.some.inj e2
   rw [← e, Go.WideShapes.add_plain]; exact hcell
  have HC := Lib.hid hc
  have hone : Hid (∀ u ∈ ints l, u.oneCell' = true) := Lib.hid (ints_one1 l)
  have hown := World.ownsRow_lit (base := w.heap.size) (e := 3) (size := 1) w #[] 0 (Nat.le_refl _) (by unfold maxLen; omega) rfl
  have HO := Lib.hid hown
  have HL := Lib.hid (show (ints l).length = l.length * 1 by rw [ints_len, Nat.mul_one])
  clear hc hown hcells
  go_enter Tryz.func72, Tryz.ntmps72
  go_wp2_with (at_builtin; refine wpList_append_own _ rfl _ _ 22 rfl w.heap.size 3 i0 (.int .i64 0) 1 8 Tryz.underlying22 hi hz0 hz1 hz2 rfl (by decide) _ _ _ rfl HO.out ad l.length cap (ints l) rfl HL.out ?c1 hone.out ?c3 ?c4 ?c5 ?_)
  case c1 => exact fun j u hj => keep_alloc _ _ _ _ (HC.out j u hj)
  case c4 => omega
  intro v' w1 hown' hgrow _
  have HO1 := Lib.hid hown'
  have HB1 := Lib.hid (grown_below ((Below.refl w.heap.size w).alloc (Nat.le_refl _) _) HO.out (Nat.le_refl _) (by simp) hgrow)
  clear hown' hgrow
  go_wp2
  go_ret
  exact ⟨_, rfl, by have := HO1.out; simpa using this, HB1.out⟩

theorem ret_zb2 {z : Value} {a b : Bool} (h : a = b) : Ending.returned (.tuple #[z, .bool a]) = .returned (.tuple #[z, .bool b]) := by rw [h]
theorem withG_no {s : List Int} {a n : Int} (h : (axisG s a && goodS (s.set a.toNat n)) = false) : withG s a n = [] := by unfold withG; rw [if_neg (by rw [h]; decide)]
theorem withG_yes {s : List Int} {a n : Int} (h : (axisG s a && goodS (s.set a.toNat n)) = true) : withG s a n = s.set a.toNat n := if_pos h
theorem rowsC_two {w : World} {ok : Nat → Prop} {A B : Value} {l1 l2 : List Int} (hA : Slc w ok A l1.length (ints l1)) (hB : Slc w ok B l2.length (ints l2)) :
  RowsC (w.alloc (.cells #[A, B] 22)).drew ok (.slice (some ⟨w.heap.size, 0, none⟩) 2 2) [l1, l2] := by
 have ho := World.ownsRow_lit (base := w.heap.size) (e := 22) (size := 1) w #[A, B] 2 (Nat.le_refl _) (by unfold maxLen; omega) rfl
 have hb : Below w.heap.size w (w.alloc (.cells #[A, B] 22)).drew := Below.drewN' ((Below.refl _ _).alloc (Nat.le_refl _) _) 1
 refine ⟨_, _, rfl, fun i hi => ?_⟩
 match i, hi with
 | 0, _ => exact ⟨_, _, A, rfl, owns_cell ho 0 (by simp), hA.below hb⟩
 | 1, _ => exact ⟨_, _, B, rfl, owns_cell ho 1 (by simp), hB.below hb⟩
theorem outG_no {s : List Int} {a : Int} (h : axisG s a = false) : outSg s a = [] := by unfold outSg; rw [if_neg (by rw [h]; decide)]
theorem outG_yes {s : List Int} {k : Nat} (h : axisG s (k : Int) = true) : outSg s (k : Int) = s.take k ++ s.drop (k + 1) := by
 unfold outSg; rw [if_pos h, Int.toNat_natCast, List.eraseIdx_eq_take_drop_succ]
end Go.Proofs.YtbdhibcbpgjbmaaGreatDoor

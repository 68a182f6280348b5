/- Plain arrays, the document's functions walked: Ints, Item, Same. -/
import Derived.Test.YtbdhibcbpgjbmaaGreatDoorVaD
import Derived.Test.YtbdhibcbpgjbmaaGreatDoorBvK
import Derived.Test.YtbdhibcbpgjbmaaGreatDoorVeO
namespace Go.Proofs.YtbdhibcbpgjbmaaGreatDoor
open Go.RowKit Fl
set_option linter.unusedVariables false
set_option maxRecDepth 100000

set_option maxHeartbeats 1000000 in
theorem pints_calls (v1 v2 : Value) (xs ys : List Int) (w : World) (h1 : Sl w v1 xs.length (ints xs)) (h2 : Sl w v2 ys.length (ints ys)) (hm : xs.length ≤ maxLen) :
  Calls Tryz.prog 70 #[v1, v2] w fun e w' => e = .returned (.bool (xs == ys)) ∧ Below w.heap.size w w' := by
 unfold maxLen at hm
 obtain ⟨_, ao, cap, rfl, hc1⟩ := h1
 obtain ⟨_, ao2, cap2, rfl, hc2⟩ := h2
 have HC1 := Lib.hid hc1; have HC2 := Lib.hid hc2; clear hc1 hc2
 by_cases hlen : xs.length = ys.length
 ·obtain ⟨n, hn⟩ : ∃ n, n = xs.length := ⟨_, rfl⟩
  have hn2 : ys.length = n := by omega
  rw [hn2, ← hn]
  rw [← hn] at hm
  have HN := Lib.hid hn; have HN2 := Lib.hid hn2
  have hb : ((n : Int) != (n : Int)) = false := by simp
  clear hn hn2 hlen
  go_enter Tryz.func70, Tryz.ntmps70
  go_wp2
  go_loopw [5] (fun i wr => ∃ k q : Nat, k ≤ n ∧ i = .int .i64 k ∧ wr = w.drewN q ∧ xs.take k = ys.take k) (fun i _ => n - (intOf i).toNat)
  case atStart => exact ⟨0, 0, by omega, rfl, rfl, rfl⟩
  case round =>
   obtain ⟨k, q, hk, rfl, rfl, htk⟩ := hrel
   have HT := Lib.hid htk; clear htk
   by_cases hlt : k < n
   ·have hx : k < xs.length := by have := HN.out; omega
    have hy : k < ys.length := by have := HN2.out; omega
    obtain ⟨b, off, rfl, hcx⟩ := HC1.out k (by rw [ints_len]; exact hx)
    obtain ⟨b2, off2, rfl, hcy⟩ := HC2.out k (by rw [ints_len]; exact hy)
    rw [ints_get] at hcx hcy
    have HX := Lib.hid hx; have HY := Lib.hid hy
    have hi0 : (0 : Int) ≤ (k : Int) := by omega
    by_cases he : xs[k] = ys[k]
    ·have HE := Lib.hid he
     have hne : (xs[k] != ys[k]) = false := by simp [he]
     clear he
     go_wp2
     go_quiet (fail)
     go_wp2
     go_roundw
     case rel => exact ⟨k + 1, q + nq, by omega, by go_num, by first | rfl | rw [World.drewN_drewN], take_step HX.out HY.out HT.out HE.out⟩
     case measure => simp [intOf]; omega
    ·have HE := Lib.hid (ne_at hx hy he)
     have hne : (xs[k] != ys[k]) = true := by simpa using he
     clear he
     go_wp2
     go_quiet (fail)
     go_wp2
     go_ret
     exact ⟨ret_b HE.out.symm, by first | exact Below.drewN' (Below.drewN' (Below.refl _ _) _) _ | exact Below.drewN' (Below.refl _ _) _⟩
   ·have hkn : k = n := by omega
    have HE := Lib.hid (eq_all (xs := xs) (ys := ys) (k := k) (by have := HN.out; omega) (by have := HN2.out; omega) HT.out)
    clear hkn
    go_wp2
    go_ret
    exact ⟨ret_b HE.out.symm, Below.drewN' (Below.refl _ _) _⟩
 ·have HE := Lib.hid (ne_len hlen)
  have hb : ((xs.length : Int) != (ys.length : Int)) = true := by simp; omega
  clear hlen
  go_enter Tryz.func70, Tryz.ntmps70
  go_wp2
  go_ret
  exact ⟨ret_b HE.out.symm, Below.refl _ _⟩


/-- Numbers compared to the bit. -/
theorem pbits_calls (x y : Nat) (w : World) (hx : Num x) (hy : Num y) : Calls Tryz.prog 60 #[.float .f64 x, .float .f64 y] w fun e w' => e = .returned (.bool (x == y)) ∧ w = w' := by
 by_cases h : x = y
 ·subst h
  have := bits_same x w hx
  simpa using this
 ·have hv : V x ≠ V y := fun e => h (V_inj hx hy e)
  have ho := ord_ne hx.1 hy.1 hv
  have hb : Hid ((x == y) = false) := Lib.hid (by simpa using h)
  clear h hv hx hy
  rcases ho with ho | ho
  all_goals
   have ho' : FloatKind.f64.format.order x y = _ := ho
   clear ho; rw [hb.out]
   go_enter Tryz.func60, Tryz.ntmps60
   go_wp2
   go_ret
   exact ⟨rfl, rfl⟩

/-- Numbers of all items are numbers; boxes at most d deep. -/
def nice : Nat → PA → Prop
 | 0, _ => False
 | d + 1, p => ∀ x ∈ p.l, Num x.2.1 ∧ ∀ q ∈ x.2.2.2, nice d q
noncomputable def pq (p q : PA) : Bool := @decide (p = q) (Classical.propDecidable _)
noncomputable def iq (x y : PI) : Bool := @decide (x = y) (Classical.propDecidable _)
theorem pq_yes {p q : PA} (h : p = q) : pq p q = true := by unfold pq; exact @decide_eq_true _ (Classical.propDecidable _) h
theorem pq_no {p q : PA} (h : p ≠ q) : pq p q = false := by unfold pq; exact @decide_eq_false _ (Classical.propDecidable _) h
theorem iq_yes {p q : PI} (h : p = q) : iq p q = true := by unfold iq; exact @decide_eq_true _ (Classical.propDecidable _) h
theorem iq_no {p q : PI} (h : p ≠ q) : iq p q = false := by unfold iq; exact @decide_eq_false _ (Classical.propDecidable _) h
theorem pq_true {p q : PA} (h : pq p q = true) : p = q := by
 apply Classical.byContradiction; intro hn; rw [pq_no hn] at h; cases h
theorem pq_false {p q : PA} (h : pq p q = false) : p ≠ q := by
 intro hn; rw [pq_yes hn] at h; cases h
theorem iq_true {p q : PI} (h : iq p q = true) : p = q := by
 apply Classical.byContradiction; intro hn; rw [iq_no hn] at h; cases h
theorem iq_false {p q : PI} (h : iq p q = false) : p ≠ q := by
 intro hn; rw [iq_yes hn] at h; cases h
def BoolIs (b : Bool) (w : World) (e : Ending) (w' : World) : Prop := e = .returned (.bool b) ∧ Below w.heap.size w w'
theorem BoolIs.mk {n m : Bool} {w w' : World} (h : m = n) (hb : Below w.heap.size w w') : BoolIs n w (.returned (.bool m)) w' := ⟨by rw [h], hb⟩
theorem differ_at {α : Type} {xs ys : List α} {k : Nat} {x y : α} (h1 : xs[k]? = some x) (h2 : ys[k]? = some y) (h : x ≠ y) : xs ≠ ys := by
 intro e; subst e; rw [h1] at h2; exact h (Option.some.inj h2)
theorem take_eq_step {α : Type} {xs ys : List α} {k : Nat} {x y : α} (h1 : xs[k]? = some x) (h2 : ys[k]? = some y) (h : xs.take k = ys.take k) (e : x = y) : xs.take (k + 1) = ys.take (k + 1) := by
 subst e; rw [ptake h1, ptake h2, h]
theorem take_eq_all {α : Type} {xs ys : List α} {k : Nat} (h1 : xs.length ≤ k) (h2 : ys.length ≤ k) (h : xs.take k = ys.take k) : xs = ys := by
 rwa [List.take_of_length_le h1, List.take_of_length_le h2] at h

/-- Same, at depth d. -/
def SameAt (d : Nat) : Prop := ∀ (ok ok2 : Nat → Prop) (p q : PA) (u v : Value) (m : Nat) (w : World), nice d p → nice m q → IsP w ok u p → IsP w ok2 v q → Calls Tryz.prog 37 #[u, v] w (BoolIs (pq p q) w)

set_option maxHeartbeats 4000000 in
theorem pitem_calls (d : Nat) (ih : SameAt d) (ok ok2 : Nat → Prop) (x y : PI) (bo bo2 : Option Addr) (bc bc2 m : Nat) (w : World) (hnx : Num x.2.1) (hny : Num y.2.1) (hx : ∀ q ∈ x.2.2.2, nice d q) (hy : ∀ q ∈ y.2.2.2, nice m q)
  (hbx : IsB w ok (.slice bo x.2.2.2.length bc) x.2.2.2) (hby : IsB w ok2 (.slice bo2 y.2.2.2.length bc2) y.2.2.2) :
  Calls Tryz.prog 25 #[.agg #[.int .i64 x.1, .float .f64 x.2.1, .int .i32 x.2.2.1, .slice bo x.2.2.2.length bc], .agg #[.int .i64 y.1, .float .f64 y.2.1, .int .i32 y.2.2.1, .slice bo2 y.2.2.2.length bc2]] w (BoolIs (iq x y) w) := by
 have HIH := Lib.hid ih; have HX := Lib.hid hx; have HY := Lib.hid hy; have HBX := Lib.hid hbx; have HBY := Lib.hid hby
 obtain ⟨_, _, e, e1, e2⟩ := hbx.len
 cases e
 obtain ⟨_, _, e, e3, e4⟩ := hby.len
 cases e
 unfold maxLen at e2 e4
 clear hx hy hbx hby ih
 obtain ⟨k1, n1, c1, b1⟩ := x
 obtain ⟨k2, n2, c2, b2⟩ := y
 simp only at HX HY HBX HBY e1 e3 hnx hny ⊢
 obtain ⟨W1, hW1⟩ : ∃ W1, W1 = (w.alloc (.cells #[.int .i64 k1, .float .f64 n1, .int .i32 c1, .slice bo b1.length bc] 34)).alloc (.cells #[.int .i64 k2, .float .f64 n2, .int .i32 c2, .slice bo2 b2.length bc2] 34) := ⟨_, rfl⟩
 have HBn := Lib.hid (show Below w.heap.size w W1 by rw [hW1]; exact ((Below.refl _ _).alloc (Nat.le_refl _) _).alloc (by simp) _)
 have HA := Lib.hid (show Blk4 W1 w.heap.size _ _ _ _ by rw [hW1]; exact (Blk4.new w (.int .i64 k1) (.float .f64 n1) (.int .i32 c1) (.slice bo b1.length bc) 34).below (below_new _ _))
 have HA2 := Lib.hid (show Blk4 W1 (w.heap.size + 1) _ _ _ _ by rw [hW1]; have := Blk4.new (w.alloc (.cells #[.int .i64 k1, .float .f64 n1, .int .i32 c1, .slice bo b1.length bc] 34)) (.int .i64 k2) (.float .f64 n2) (.int .i32 c2) (.slice bo2 b2.length bc2) 34; simpa using this)
 have HQ := Lib.hid (pbits_calls n1 n2 W1 hnx hny)
 clear hnx hny
 obtain ⟨_, p0, p1, p2, p3, _⟩ := HA.out
 obtain ⟨_, q0, q1, q2, q3, _⟩ := HA2.out
 have hfold := hW1.symm
 clear hW1
 by_cases h1 : k1 = k2
 rotate_left
 ·have HC := Lib.hid (iq_no (p := (k1, n1, c1, b1)) (q := (k2, n2, c2, b2)) (fun e => h1 (by cases e; rfl)))
  have hne : (k1 != k2) = true := by simpa using h1
  clear h1
  go_enter Tryz.func25, Tryz.ntmps25
  go_wp2_with fail
  go_ret
  exact BoolIs.mk HC.out.symm HBn.out
 by_cases h2 : c1 = c2
 rotate_left
 ·have HC := Lib.hid (iq_no (p := (k1, n1, c1, b1)) (q := (k2, n2, c2, b2)) (fun e => h2 (by cases e; rfl)))
  have hne : (k1 != k2) = false := by simpa using h1
  have hne2 : (c1 != c2) = true := by simpa using h2
  clear h1 h2
  go_enter Tryz.func25, Tryz.ntmps25
  go_wp2_with fail
  go_ret
  exact BoolIs.mk HC.out.symm HBn.out
 have hne : (k1 != k2) = false := by simpa using h1
 have hne2 : (c1 != c2) = false := by simpa using h2
 by_cases h3 : n1 = n2
 rotate_left
 ·have HC := Lib.hid (iq_no (p := (k1, n1, c1, b1)) (q := (k2, n2, c2, b2)) (fun e => h3 (by cases e; rfl)))
  have HN := Lib.hid (show (n1 == n2) = false by simpa using h3)
  rw [HN.out] at HQ
  clear h1 h2 h3
  go_enter Tryz.func25, Tryz.ntmps25
  go_wp2_with fail
  refine HQ.out.mono ?_
  rintro e w' ⟨rfl, rfl⟩
  go_wp2_with fail
  go_ret
  exact BoolIs.mk HC.out.symm HBn.out
 have HN := Lib.hid (show (n1 == n2) = true by simpa using h3)
 rw [HN.out] at HQ
 by_cases h4 : b1.length = b2.length
 rotate_left
 ·have HC := Lib.hid (iq_no (p := (k1, n1, c1, b1)) (q := (k2, n2, c2, b2)) (fun e => h4 (by cases e; rfl)))
  have hne4 : ((b1.length : Int) != (b2.length : Int)) = true := by simp; omega
  clear h1 h2 h3 h4
  go_enter Tryz.func25, Tryz.ntmps25
  go_wp2_with fail
  refine HQ.out.mono ?_
  rintro e w' ⟨rfl, rfl⟩
  go_wp2_with fail
  go_ret
  exact BoolIs.mk HC.out.symm HBn.out
 have hne4 : ((b1.length : Int) != (b2.length : Int)) = false := by simp; omega
 have HE := Lib.hid (And.intro h1 (And.intro h2 (And.intro h3 h4)))
 clear h1 h2 h3 h4
 go_enter Tryz.func25, Tryz.ntmps25
 go_wp2_with fail
 refine HQ.out.mono ?_
 rintro e w' ⟨rfl, rfl⟩
 clear hfold
 go_wp2_with fail
 go_loopw [5] (fun i wr => ∃ k : Nat, k ≤ b1.length ∧ i = .int .i64 k ∧ b1.take k = b2.take k ∧ Below W1.heap.size W1 wr) (fun i _ => b1.length - (intOf i).toNat)
 case atStart => exact ⟨0, by omega, rfl, rfl, Below.refl _ _⟩
 case round =>
  obtain ⟨k, hk, rfl, htk, hB⟩ := hrel
  have HT := Lib.hid htk; have HB := Lib.hid hB
  have p3 := (HA.out.below hB).2.2.2.2.1
  have q3 := (HA2.out.below hB).2.2.2.2.1
  clear htk hB
  by_cases hlt : k < b1.length
  ·have hlt2 : k < b2.length := by have := HE.out.2.2.2; omega
   have g1 := List.getElem?_eq_getElem hlt
   have g2 := List.getElem?_eq_getElem hlt2
   obtain ⟨r1, hr1⟩ : ∃ r, r = b1[k] := ⟨_, rfl⟩
   obtain ⟨r2, hr2⟩ : ∃ r, r = b2[k] := ⟨_, rfl⟩
   rw [← hr1] at g1
   rw [← hr2] at g2
   clear hr1 hr2
   obtain ⟨b, off, so, sc, io, ic, rfl, _, f0, f1, f2, hP⟩ := (HBX.out.grow HBn.out).at g1
   obtain ⟨b', off', so', sc', io', ic', rfl, _, f0', f1', f2', hP'⟩ := (HBY.out.grow HBn.out).at g2
   have HF := Lib.hid (And.intro f0 (And.intro f1 f2))
   have HF' := Lib.hid (And.intro f0' (And.intro f1' f2'))
   have G1 := Lib.hid g1; have G2 := Lib.hid g2
   obtain ⟨t, ht⟩ : ∃ t, pq r1 r2 = t := ⟨_, rfl⟩
   have HS := Lib.hid (show ∀ wx, Below W1.heap.size W1 wx → Calls Tryz.prog 37 #[.agg #[.slice so r1.s.length sc, .slice io r1.l.length ic, .int .i64 r1.f], .agg #[.slice so' r2.s.length sc', .slice io' r2.l.length ic', .int .i64 r2.f]] wx fun e w' => e = .returned (.bool t) ∧ Below wx.heap.size wx w' from fun wx hx2 => by
    have := HIH.out ok ok2 r1 r2 _ _ m wx (HX.out r1 (List.mem_of_getElem? g1)) (HY.out r2 (List.mem_of_getElem? g2)) (hP.grow hx2) (hP'.grow hx2)
    rwa [ht] at this)
   have HTT := Lib.hid ht
   clear hP hP' g1 g2 f0 f1 f2 f0' f1' f2' ht p0 p1 p2 q0 q1 q2
   go_wp2_with fail
   refine region_grow W1 (by kernel_rfl) (by kernel_rfl) HB.out ?_
   intro Ω _ WW hW hI
   have HW' := Lib.hid hW
   have HI' := Lib.hid hI
   clear p3 q3
   have p3 := fun y => ((HA.out.below (hW y)).2.2.2.2.1)
   have q3 := fun y => ((HA2.out.below (hW y)).2.2.2.2.1)
   have f0 := fun y => keep_below (hW y) _ _ HF.out.1
   have f1 := fun y => keep_below (hW y) _ _ HF.out.2.1
   have f2 := fun y => keep_below (hW y) _ _ HF.out.2.2
   have f0' := fun y => keep_below (hW y) _ _ HF'.out.1
   have f1' := fun y => keep_below (hW y) _ _ HF'.out.2.1
   have f2' := fun y => keep_below (hW y) _ _ HF'.out.2.2
   clear hW hI
   repeat (go_big_quiet_step ((go_at_call 37; exact Calls.quiet_grow HW'.out HI'.out (HS.out _ (HW'.out _)))))
   refine wpQuiet_nil ?_
   rintro w3 ⟨y, rfl⟩
   clear p3 q3 f0 f1 f2 f0' f1' f2'
   cases t
   ·have HC := Lib.hid (iq_no (p := (k1, n1, c1, b1)) (q := (k2, n2, c2, b2)) (fun e => differ_at G1.out G2.out (pq_false HTT.out) (by cases e; rfl)))
    go_wp2_with fail
    go_ret
    exact BoolIs.mk HC.out.symm (HBn.out.trans ((HW'.out y).mono HBn.out.size))
   ·have HT2 := Lib.hid (take_eq_step G1.out G2.out HT.out (pq_true HTT.out))
    go_wp2_with fail
    go_roundw
    case rel => exact ⟨k + 1, by omega, by go_num, HT2.out, HW'.out y⟩
    case measure => simp [intOf]; omega
  ·have HC := Lib.hid (iq_yes (p := (k1, n1, c1, b1)) (q := (k2, n2, c2, b2)) (by
    obtain ⟨a1, a2, a3, a4⟩ := HE.out
    have := take_eq_all (by omega) (by omega) HT.out
    rw [a1, a2, a3, this]))
   go_wp2_with fail
   go_ret
   exact BoolIs.mk HC.out.symm (HBn.out.trans (HB.out.mono HBn.out.size))

theorem PA.ne_f {p q : PA} (h : p.f ≠ q.f) : p ≠ q := fun e => h (by rw [e])
theorem PA.ne_s {p q : PA} (h : p.s ≠ q.s) : p ≠ q := fun e => h (by rw [e])
theorem PA.ne_l {p q : PA} (h : p.l ≠ q.l) : p ≠ q := fun e => h (by rw [e])

set_option maxHeartbeats 4000000 in
theorem psame_step (d : Nat) (ih : SameAt d) : SameAt (d + 1) := by
 intro ok ok2 p q u v m w hnp hnq hp hq
 obtain ⟨m, rfl⟩ : ∃ m', m = m' + 1 := by cases m with | zero => exact hnq.elim | succ n => exact ⟨n, rfl⟩
 obtain ⟨so, sc, io, ic, rfl, hs, hit⟩ := hp.opened
 obtain ⟨so2, sc2, io2, ic2, rfl, hs2, hit2⟩ := hq.opened
 have HIH := Lib.hid ih; have HNP := Lib.hid hnp; have HNQ := Lib.hid hnq; have HI := Lib.hid hit; have HI2 := Lib.hid hit2
 obtain ⟨_, _, e, e1, e2⟩ := hit.len
 cases e
 obtain ⟨_, _, e, e3, e4⟩ := hit2.len
 cases e
 obtain ⟨_, _, e, e5, e6, _⟩ := hs.opened
 cases e
 have hsl : p.s.length ≤ maxLen := by omega
 unfold maxLen at e2 e4
 obtain ⟨W1, hW1⟩ : ∃ W1, W1 = (w.alloc (.cells #[.slice so p.s.length sc, .slice io p.l.length ic, .int .i64 p.f] 25)).alloc (.cells #[.slice so2 q.s.length sc2, .slice io2 q.l.length ic2, .int .i64 q.f] 25) := ⟨_, rfl⟩
 have HBn := Lib.hid (show Below w.heap.size w W1 by rw [hW1]; exact ((Below.refl _ _).alloc (Nat.le_refl _) _).alloc (by simp) _)
 have HA := Lib.hid (show At3 W1 w.heap.size _ _ _ by rw [hW1]; exact (At3.new w (.slice so p.s.length sc) (.slice io p.l.length ic) (.int .i64 p.f) 25).below (below_new _ _))
 have HA2 := Lib.hid (show At3 W1 (w.heap.size + 1) _ _ _ by rw [hW1]; have := At3.new (w.alloc (.cells #[.slice so p.s.length sc, .slice io p.l.length ic, .int .i64 p.f] 25)) (.slice so2 q.s.length sc2) (.slice io2 q.l.length ic2) (.int .i64 q.f) 25; simpa using this)
 have HQ := Lib.hid (pints_calls _ _ p.s q.s W1 (hs.below HBn.out).1.sl (hs2.below HBn.out).1.sl hsl)
 clear hnp hnq hp hq hit hit2 hs hs2 ih
 obtain ⟨_, p0, p1, p2, _⟩ := HA.out
 obtain ⟨_, q0, q1, q2, _⟩ := HA2.out
 have hfold := hW1.symm
 clear hW1
 by_cases h1 : p.f = q.f
 rotate_left
 ·have HC := Lib.hid (pq_no (PA.ne_f h1))
  have hne : (p.f != q.f) = true := by simpa using h1
  clear h1
  go_enter Tryz.func37, Tryz.ntmps37
  go_wp2_with fail
  go_ret
  exact BoolIs.mk HC.out.symm HBn.out
 have hne : (p.f != q.f) = false := by simpa using h1
 by_cases h2 : p.s = q.s
 rotate_left
 ·have HC := Lib.hid (pq_no (PA.ne_s h2))
  have HN := Lib.hid (show (p.s == q.s) = false by simpa using h2)
  rw [HN.out] at HQ
  clear h1 h2
  go_enter Tryz.func37, Tryz.ntmps37
  go_wp2_with fail
  refine HQ.out.mono ?_
  rintro e w1 ⟨rfl, hB⟩
  have HB := Lib.hid (HBn.out.trans (hB.mono HBn.out.size))
  clear hB
  go_wp2_with fail
  go_ret
  exact BoolIs.mk HC.out.symm HB.out
 have HN := Lib.hid (show (p.s == q.s) = true by simpa using h2)
 rw [HN.out] at HQ
 by_cases h4 : p.l.length = q.l.length
 rotate_left
 ·have HC := Lib.hid (pq_no (PA.ne_l (p := p) (q := q) (fun e => h4 (by rw [e]))))
  have hne4 : ((p.l.length : Int) != (q.l.length : Int)) = true := by simp; omega
  clear h1 h2 h4
  go_enter Tryz.func37, Tryz.ntmps37
  go_wp2_with fail
  refine HQ.out.mono ?_
  rintro e w1 ⟨rfl, hB⟩
  obtain ⟨_, p0, p1, p2, _⟩ := HA.out.below hB
  obtain ⟨_, q0, q1, q2, _⟩ := HA2.out.below hB
  have HB := Lib.hid (HBn.out.trans (hB.mono HBn.out.size))
  clear hB
  go_wp2_with fail
  go_ret
  exact BoolIs.mk HC.out.symm HB.out
 have hne4 : ((p.l.length : Int) != (q.l.length : Int)) = false := by simp; omega
 have HE := Lib.hid (And.intro h1 (And.intro h2 h4))
 clear h1 h2 h4
 go_enter Tryz.func37, Tryz.ntmps37
 go_wp2_with fail
 refine HQ.out.mono ?_
 rintro e w1 ⟨rfl, hB⟩
 have HBm := Lib.hid hB
 have HAm := Lib.hid (HA.out.below hB)
 have HAm2 := Lib.hid (HA2.out.below hB)
 clear hB p0 p1 p2 q0 q1 q2
 obtain ⟨_, p0, p1, p2, _⟩ := HAm.out
 obtain ⟨_, q0, q1, q2, _⟩ := HAm2.out
 clear hfold
 go_wp2_with fail
 go_loopw [5] (fun i wr => ∃ k : Nat, k ≤ p.l.length ∧ i = .int .i64 k ∧ p.l.take k = q.l.take k ∧ Below w1.heap.size w1 wr) (fun i _ => p.l.length - (intOf i).toNat)
 case atStart => exact ⟨0, by omega, rfl, rfl, Below.refl _ _⟩
 case round =>
  obtain ⟨k, hk, rfl, htk, hB⟩ := hrel
  have HT := Lib.hid htk; have HB := Lib.hid hB
  have p1 := (HAm.out.below hB).2.2.1
  have q1 := (HAm2.out.below hB).2.2.1
  clear htk hB
  by_cases hlt : k < p.l.length
  ·have hlt2 : k < q.l.length := by have := HE.out.2.2; omega
   have g1 := List.getElem?_eq_getElem hlt
   have g2 := List.getElem?_eq_getElem hlt2
   obtain ⟨r1, hr1⟩ : ∃ r, r = p.l[k] := ⟨_, rfl⟩
   obtain ⟨r2, hr2⟩ : ∃ r, r = q.l[k] := ⟨_, rfl⟩
   rw [← hr1] at g1
   rw [← hr2] at g2
   clear hr1 hr2
   obtain ⟨b, off, bo, bc, rfl, _, f0, f1, f2, f3, hP⟩ := ((HI.out.grow HBn.out).grow HBm.out).at g1
   obtain ⟨b', off', bo', bc', rfl, _, f0', f1', f2', f3', hP'⟩ := ((HI2.out.grow HBn.out).grow HBm.out).at g2
   have HF := Lib.hid (And.intro f0 (And.intro f1 (And.intro f2 f3)))
   have HF' := Lib.hid (And.intro f0' (And.intro f1' (And.intro f2' f3')))
   have G1 := Lib.hid g1; have G2 := Lib.hid g2
   obtain ⟨t, ht⟩ : ∃ t, iq r1 r2 = t := ⟨_, rfl⟩
   have HS := Lib.hid (show ∀ wx, Below w1.heap.size w1 wx → Calls Tryz.prog 25 #[.agg #[.int .i64 r1.1, .float .f64 r1.2.1, .int .i32 r1.2.2.1, .slice bo r1.2.2.2.length bc], .agg #[.int .i64 r2.1, .float .f64 r2.2.1, .int .i32 r2.2.2.1, .slice bo' r2.2.2.2.length bc']] wx fun e w' => e = .returned (.bool t) ∧ Below wx.heap.size wx w' from fun wx hx2 => by
    have h1 := HNP.out r1 (List.mem_of_getElem? g1)
    have h2 := HNQ.out r2 (List.mem_of_getElem? g2)
    have := pitem_calls d HIH.out ok ok2 r1 r2 bo bo' bc bc' m wx h1.1 h2.1 h1.2 h2.2 (hP.grow hx2) (hP'.grow hx2)
    rwa [ht] at this)
   have HTT := Lib.hid ht
   clear hP hP' g1 g2 f0 f1 f2 f3 f0' f1' f2' f3' ht p0 p2 q0 q2
   go_wp2_with fail
   refine region_grow w1 (by kernel_rfl) (by kernel_rfl) HB.out ?_
   intro Ω _ WW hW hI
   have HW' := Lib.hid hW
   have HI' := Lib.hid hI
   clear p1 q1
   have p1 := fun y => ((HAm.out.below (hW y)).2.2.1)
   have q1 := fun y => ((HAm2.out.below (hW y)).2.2.1)
   have f0 := fun y => keep_below (hW y) _ _ HF.out.1
   have f1 := fun y => keep_below (hW y) _ _ HF.out.2.1
   have f2 := fun y => keep_below (hW y) _ _ HF.out.2.2.1
   have f3 := fun y => keep_below (hW y) _ _ HF.out.2.2.2
   have f0' := fun y => keep_below (hW y) _ _ HF'.out.1
   have f1' := fun y => keep_below (hW y) _ _ HF'.out.2.1
   have f2' := fun y => keep_below (hW y) _ _ HF'.out.2.2.1
   have f3' := fun y => keep_below (hW y) _ _ HF'.out.2.2.2
   clear hW hI
   repeat (go_big_quiet_step ((go_at_call 25; exact Calls.quiet_grow HW'.out HI'.out (HS.out _ (HW'.out _)))))
   refine wpQuiet_nil ?_
   rintro w3 ⟨y, rfl⟩
   have HBW := Lib.hid (HBn.out.trans ((HBm.out.trans ((HW'.out y).mono HBm.out.size)).mono HBn.out.size))
   clear p1 q1 f0 f1 f2 f3 f0' f1' f2' f3'
   cases t
   ·have HC := Lib.hid (pq_no (PA.ne_l (differ_at G1.out G2.out (iq_false HTT.out))))
    go_wp2_with fail
    go_ret
    exact BoolIs.mk HC.out.symm HBW.out
   ·have HT2 := Lib.hid (take_eq_step G1.out G2.out HT.out (iq_true HTT.out))
    go_wp2_with fail
    go_roundw
    case rel => exact ⟨k + 1, by omega, by go_num, HT2.out, HW'.out y⟩
    case measure => simp [intOf]; omega
  ·have HC := Lib.hid (pq_yes (p := p) (q := q) (by
    obtain ⟨a1, a2, a3⟩ := HE.out
    exact PA.ext a2 (take_eq_all (by omega) (by omega) HT.out) a1))
   go_wp2_with fail
   go_ret
   exact BoolIs.mk HC.out.symm (HBn.out.trans ((HBm.out.trans (HB.out.mono HBm.out.size)).mono HBn.out.size))
theorem psame_calls (d : Nat) : SameAt d := by
 induction d with
 | zero => intro ok ok2 p q u v m w h; exact h.elim
 | succ d ih => exact psame_step d ih
end Go.Proofs.YtbdhibcbpgjbmaaGreatDoor

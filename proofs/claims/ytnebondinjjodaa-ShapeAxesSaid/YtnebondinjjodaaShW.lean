/- Package shape, walked: Split, With, Without, Same. -/
import Derived.Test.YtnebondinjjodaaShV
import Derived.Test.YtnebondinjjodaaCat
import Derived.Test.YtnebondinjjodaaVeC
import Derived.Test.YtnebondinjjodaaBvK
namespace Go.Proofs.Ytnebondinjjodaa
open Go.RowKit
set_option linter.unusedVariables false
set_option maxRecDepth 8000

set_option maxHeartbeats 2000000 in
theorem sequali_calls {ok ok2 : Nat → Prop} (v1 v2 : Value) (xs ys : List Int) (w : World) (h1 : Slc w ok v1 xs.length (ints xs)) (h2 : Slc w ok2 v2 ys.length (ints ys)) (hm : xs.length ≤ maxLen) :
    Calls Try.prog 31 #[v1, v2] w fun e w' => e = .returned (.bool (xs == ys)) ∧ Below w.heap.size w w' := by
  unfold maxLen at hm
  obtain ⟨_, ao, cap, rfl, hc1⟩ := h1.1.sl
  obtain ⟨_, ao2, cap2, rfl, hc2⟩ := h2.1.sl
  have HC1 := Lib.hid hc1
  have HC2 := Lib.hid hc2
  clear hc1 hc2 h1 h2
  by_cases hlen : xs.length = ys.length
  · obtain ⟨n, hn⟩ : ∃ n, n = xs.length := ⟨_, rfl⟩
    have hn2 : ys.length = n := by omega
    rw [hn2, ← hn]
    rw [← hn] at hm
    have HN := Lib.hid hn
    have HN2 := Lib.hid hn2
    have hb : ((n : Int) != (n : Int)) = false := by simp
    clear hn hn2 hlen
    go_enter Try.func31, Try.ntmps31
    go_wp2
    go_loopw [13] (fun i wr => ∃ k q : Nat, k ≤ n ∧ i = .int .i64 k ∧ wr = w.drewN q ∧ xs.take k = ys.take k) (fun i _ => n - (intOf i).toNat)
    case atStart => exact ⟨0, 0, by omega, rfl, rfl, rfl⟩
    case round =>
      obtain ⟨k, q, hk, rfl, rfl, htk⟩ := hrel
      have HT := Lib.hid htk
      clear htk
      by_cases hlt : k < n
      · have hx : k < xs.length := by have := HN.out; omega
        have hy : k < ys.length := by have := HN2.out; omega
        obtain ⟨b, off, rfl, hcx⟩ := HC1.out k (by rw [ints_len]; exact hx)
        obtain ⟨b2, off2, rfl, hcy⟩ := HC2.out k (by rw [ints_len]; exact hy)
        rw [ints_get] at hcx hcy
        have HX := Lib.hid hx
        have HY := Lib.hid hy
        have hi0 : (0 : Int) ≤ (k : Int) := by omega
        by_cases he : xs[k] = ys[k]
        · have HE := Lib.hid he
          have hne : (xs[k] != ys[k]) = false := by simp [he]
          clear he
          go_wp2
          go_quiet (fail)
          go_wp2
          go_roundw
          case rel => exact ⟨k + 1, q + nq, by omega, by go_num, by first | rfl | rw [World.drewN_drewN], take_step HX.out HY.out HT.out HE.out⟩
          case measure => simp [intOf]; omega
        · have HE := Lib.hid (ne_at hx hy he)
          have hne : (xs[k] != ys[k]) = true := by rw [bne_iff_ne]; exact he
          clear he
          go_wp2
          go_quiet (fail)
          go_wp2
          go_ret
          exact ⟨ret_b HE.out.symm, by first | exact Below.drewN' (Below.drewN' (Below.refl _ _) _) _ | exact Below.drewN' (Below.refl _ _) _⟩
      · have hkn : k = n := by omega
        have HE := Lib.hid (eq_all (xs := xs) (ys := ys) (k := k) (by have := HN.out; omega) (by have := HN2.out; omega) HT.out)
        clear hkn
        go_wp2
        go_ret
        exact ⟨ret_b HE.out.symm, Below.drewN' (Below.refl _ _) _⟩
  · have HE := Lib.hid (ne_len hlen)
    have hb : ((xs.length : Int) != (ys.length : Int)) = true := by simp; omega
    clear hlen
    go_enter Try.func31, Try.ntmps31
    go_wp2
    go_ret
    exact ⟨ret_b HE.out.symm, Below.refl _ _⟩
theorem ssame_calls {ok ok2 : Nat → Prop} (v v2 : Value) (s t : List Int) (w : World) (h1 : Slc w ok v s.length (ints s)) (l1 : s.length ≤ 1000) (h2 : Slc w ok2 v2 t.length (ints t)) (l2 : t.length ≤ 1000) :
    Calls Try.prog 22 #[v, v2] w fun e w' => e = .returned (.bool (decide (s = t))) ∧ Below w.heap.size w w' := by
  have H1 := Lib.hid h1
  have H2 := Lib.hid h2
  have HL := Lib.hid (show s.length ≤ maxLen by unfold maxLen; omega)
  have HE := Lib.hid (show (s == t) = decide (s = t) by rw [Bool.eq_iff_iff]; simp)
  clear h1 h2
  go_enter Try.func22, Try.ntmps22
  go_wp2_with fail
  refine (sequali_calls _ _ s t _ H1.out H2.out HL.out).mono ?_
  rintro e w1 ⟨rfl, hB⟩
  have HB := Lib.hid hB
  clear hB
  rw [HE.out]
  go_wp2
  go_ret
  exact ⟨rfl, HB.out⟩

theorem results_tmp4S {fn : Func} {t u v x : Tmp} (h : fn.results = #[.tmp t, .tmp u, .tmp v, .tmp x]) (tmps : Array Value) (P : Program) (w : World) :
    (results fn tmps).run P w = .ok (.tuple #[tmps.getD t undef, tmps.getD u undef, tmps.getD v undef, tmps.getD x undef]) w := by
  simp [results, h]
theorem axisG_yes {s : List Int} {a : Int} (h : axisG s a = true) : ∃ k : Nat, a = (k : Int) ∧ k < s.length := by
  have h2 := of_decide_eq_true h
  obtain ⟨k, rfl⟩ := Int.eq_ofNat_of_zero_le h2.1
  exact ⟨k, rfl, by omega⟩
theorem splitG_no {s : List Int} {a : Int} (h : (goodS s && axisG s a) = false) : splitG s a = (0, 0, 0) := by unfold splitG; rw [if_neg (by rw [h]; decide)]
theorem splitG_yes {s : List Int} {a : Int} (h : (goodS s && axisG s a) = true) : splitG s a = ((prodR (s.take a.toNat) 1048576).1, s.getD a.toNat 0, (prodR (s.drop (a.toNat + 1)) 1048576).1) := if_pos h
theorem ret_split {s : List Int} {a x y z : Int} {b : Bool} (h : splitG s a = (x, y, z)) : Ending.returned (.tuple #[.int .i64 x, .int .i64 y, .int .i64 z, .bool b]) = .returned (.tuple #[.int .i64 (splitG s a).1, .int .i64 (splitG s a).2.1, .int .i64 (splitG s a).2.2, .bool b]) := by rw [h]
set_option maxHeartbeats 4000000 in
theorem ssplit_calls {ok : Nat → Prop} (v : Value) (s : List Int) (axis : Int) (w : World) (hv : Slc w ok v s.length (ints s)) (hl : s.length ≤ 1000) :
    Calls Try.prog 19 #[v, .int .i64 axis] w fun e w' => e = .returned (.tuple #[.int .i64 (splitG s axis).1, .int .i64 (splitG s axis).2.1, .int .i64 (splitG s axis).2.2, .bool (goodS s && axisG s axis)]) ∧ Below w.heap.size w w' := by
  have HV := Lib.hid hv
  have HL := Lib.hid hl
  obtain ⟨ao, cap, rfl, hcap, _⟩ := hv.opened
  obtain ⟨gb, hgb⟩ : ∃ gb, (goodS s && axisG s axis) = gb := ⟨_, rfl⟩
  rw [hgb]
  cases hg : goodS s
  · have HG := Lib.hid hg
    have HA := Lib.hid (show (goodS s && axisG s axis) = false by rw [hg]; rfl)
    have e : gb = false := by rw [← hgb]; exact HA.out
    subst e
    clear hg hv hgb
    go_enter Try.func19, Try.ntmps19
    go_wp2_with fail
    refine (sgood_calls _ s _ HV.out HL.out).mono ?_
    rintro e w1 ⟨rfl, hB⟩
    have HB := Lib.hid hB
    clear hB
    rw [HG.out]
    go_wp2
    (try simp only [Exit.inBlock, Exit.then])
    refine bodyPost_ret (results_tmp4S rfl _ _ _) rfl ?_
    simp only [Array.getD_eq_getD_getElem?, List.getElem?_toArray, List.getElem?_cons_succ, List.getElem?_cons_zero, Option.getD_some]
    exact ⟨ret_split (splitG_no HA.out), HB.out⟩
  · have HG := Lib.hid hg
    cases ha : axisG s axis
    · have HX := Lib.hid ha
      have HA := Lib.hid (show (goodS s && axisG s axis) = false by rw [ha, Bool.and_false])
      have e : gb = false := by rw [← hgb]; exact HA.out
      subst e
      clear hg hv ha hgb
      go_enter Try.func19, Try.ntmps19
      go_wp2_with fail
      refine (sgood_calls _ s _ HV.out HL.out).mono ?_
      rintro e w1 ⟨rfl, hB⟩
      replace HV := Lib.hid (HV.out.below hB)
      have HB := Lib.hid hB
      clear hB
      rw [HG.out]
      go_wp2_with fail
      refine (shas_calls _ s _ _ HV.out HL.out).mono ?_
      rintro e w2 ⟨rfl, rfl⟩
      rw [HX.out]
      go_wp2
      (try simp only [Exit.inBlock, Exit.then])
      refine bodyPost_ret (results_tmp4S rfl _ _ _) rfl ?_
      simp only [Array.getD_eq_getD_getElem?, List.getElem?_toArray, List.getElem?_cons_succ, List.getElem?_cons_zero, Option.getD_some]
      exact ⟨ret_split (splitG_no HA.out), HB.out⟩
    · have HX := Lib.hid ha
      have HA := Lib.hid (show (goodS s && axisG s axis) = true by rw [hg, ha]; rfl)
      have e : gb = true := by rw [← hgb]; exact HA.out
      subst e
      clear hgb
      obtain ⟨k, rfl, hk⟩ := axisG_yes ha
      have HSP := Lib.hid (splitG_yes HA.out)
      obtain ⟨p, e1, hp⟩ : ∃ p e1, prodR (s.take k) 1048576 = (p, e1) := ⟨_, _, rfl⟩
      obtain ⟨q, f1, hq⟩ : ∃ q f1, prodR (s.drop (k + 1)) 1048576 = (q, f1) := ⟨_, _, rfl⟩
      obtain ⟨b, off, cap', x, e2, hx, hcx⟩ := slc_at (Value.int .i64) (show Slc w ok (.slice ao s.length cap) s.length (s.map (Value.int .i64)) from hv) k hk
      obtain ⟨e2a, e2b⟩ : ao = some ⟨b, off, none⟩ ∧ cap = cap' := by cases e2; exact ⟨rfl, rfl⟩
      subst e2a
      rw [Int.toNat_natCast, hp, hq, List.getD_eq_getElem?_getD, hx] at HSP
      replace HSP : Hid (splitG s (k : Int) = (p, x, q)) := HSP
      have HP := Lib.hid hp
      have HQ := Lib.hid hq
      have HX1 := Lib.hid (Slc.take HV.out k (by omega))
      have HCX := Lib.hid hcx
      obtain ⟨T1, hT1⟩ : ∃ T1, s.take k = T1 := ⟨_, rfl⟩
      have HT1L := Lib.hid (show T1.length ≤ 1000 by rw [← hT1, List.length_take]; omega)
      have HT1N := Lib.hid (show k = T1.length by rw [← hT1, List.length_take]; omega)
      rw [hT1] at HP HX1
      obtain ⟨T2, hT2⟩ : ∃ T2, s.drop (k + 1) = T2 := ⟨_, rfl⟩
      have HT2L := Lib.hid (show T2.length ≤ 1000 by rw [← hT2, List.length_drop]; omega)
      rw [hT2] at HQ
      clear hg hv ha hp hq hx hcx e2 e2b hT1
      by_cases hce : cap = k + 1
      · have hT0 : T2 = [] := by rw [← hT2]; exact List.drop_eq_nil_of_le (by omega)
        subst hT0
        have HD := Lib.hid (show Slc w ok (.slice (some ⟨b, off, none⟩) 0 0) ([] : List Int).length (ints []) from ⟨⟨rfl, _, _, rfl, fun i hi => absurd hi (by simp [ints])⟩, _, _, rfl, Nat.le_refl _, by unfold maxLen; omega⟩)
        clear hT2
        subst hce
        go_enter Try.func19, Try.ntmps19
        go_wp2_with fail
        refine (sgood_calls _ s _ HV.out HL.out).mono ?_
        rintro e w1 ⟨rfl, hB⟩
        replace HV := Lib.hid (HV.out.below hB)
        replace HX1 := Lib.hid (HX1.out.below hB)
        replace HD := Lib.hid (HD.out.below hB)
        replace HCX := Lib.hid (keep_below hB _ _ HCX.out)
        have HB := Lib.hid hB
        clear hB
        rw [HG.out]
        go_wp2_with fail
        refine (shas_calls _ s _ _ HV.out HL.out).mono ?_
        rintro e w2 ⟨rfl, rfl⟩
        rw [HX.out]
        go_wp2_with fail
        refine (sproduct_calls _ T1 _ _ (by have := HX1.out; rwa [← HT1N.out] at this ⊢) HT1L.out).mono ?_
        rintro e w3 ⟨rfl, hB⟩
        replace HD := Lib.hid (HD.out.below hB)
        replace HCX := Lib.hid (keep_below hB _ _ HCX.out)
        replace HB := Lib.hid (HB.out.trans (hB.mono HB.out.size))
        clear hB
        rw [HP.out]
        go_wp2_with fail
        refine (sproduct_calls _ [] _ _ HD.out (by first | exact HT2L.out | decide)).mono ?_
        rintro e w4 ⟨rfl, hB⟩
        have hcx := keep_below hB _ _ HCX.out
        replace HB := Lib.hid (HB.out.trans (hB.mono HB.out.size))
        clear hB
        rw [HQ.out]
        go_wp2
        go_quiet (fail)
        go_wp2
        (try simp only [Exit.inBlock, Exit.then])
        refine bodyPost_ret (results_tmp4S rfl _ _ _) rfl ?_
        simp only [Array.getD_eq_getD_getElem?, List.getElem?_toArray, List.getElem?_cons_succ, List.getElem?_cons_zero, Option.getD_some]
        exact ⟨ret_split HSP.out, Below.drewN' HB.out _⟩
      · have HD := Lib.hid (Slc.drop HV.out (k + 1) (by omega))
        rw [hT2] at HD
        clear hT2
        go_enter Try.func19, Try.ntmps19
        go_wp2_with fail
        refine (sgood_calls _ s _ HV.out HL.out).mono ?_
        rintro e w1 ⟨rfl, hB⟩
        replace HV := Lib.hid (HV.out.below hB)
        replace HX1 := Lib.hid (HX1.out.below hB)
        replace HD := Lib.hid (HD.out.below hB)
        replace HCX := Lib.hid (keep_below hB _ _ HCX.out)
        have HB := Lib.hid hB
        clear hB
        rw [HG.out]
        go_wp2_with fail
        refine (shas_calls _ s _ _ HV.out HL.out).mono ?_
        rintro e w2 ⟨rfl, rfl⟩
        rw [HX.out]
        go_wp2_with fail
        refine (sproduct_calls _ T1 _ _ (by have := HX1.out; rwa [← HT1N.out] at this ⊢) HT1L.out).mono ?_
        rintro e w3 ⟨rfl, hB⟩
        replace HD := Lib.hid (HD.out.below hB)
        replace HCX := Lib.hid (keep_below hB _ _ HCX.out)
        replace HB := Lib.hid (HB.out.trans (hB.mono HB.out.size))
        clear hB
        rw [HP.out]
        go_wp2_with fail
        refine (sproduct_calls _ T2 _ _ HD.out (by first | exact HT2L.out | decide)).mono ?_
        rintro e w4 ⟨rfl, hB⟩
        have hcx := keep_below hB _ _ HCX.out
        replace HB := Lib.hid (HB.out.trans (hB.mono HB.out.size))
        clear hB
        rw [HQ.out]
        go_wp2
        go_quiet (fail)
        go_wp2
        (try simp only [Exit.inBlock, Exit.then])
        refine bodyPost_ret (results_tmp4S rfl _ _ _) rfl ?_
        simp only [Array.getD_eq_getD_getElem?, List.getElem?_toArray, List.getElem?_cons_succ, List.getElem?_cons_zero, Option.getD_some]
        exact ⟨ret_split HSP.out, Below.drewN' HB.out _⟩

set_option maxHeartbeats 1000000 in
/-- A clone is a row of the call's own. -/
theorem cloneOwn_calls {ok : Nat → Prop} (v : Value) (l : List Int) (w : World) (hv : Slc w ok v l.length (ints l)) (hm0 : l.length ≤ 2000000) :
    Calls Try.prog 29 #[v] w fun e w' => ∃ v, e = .returned v ∧ w'.ownsRow w.heap.size 3 1 v l.length (ints l) ∧ Below w.heap.size w w' := by
  obtain ⟨i0, hi, hz0, hz1, hz2⟩ := info_parts info_int
  obtain ⟨ao, cap, rfl, h1, h2, _, hcells⟩ := hv.opened
  have hm : l.length ≤ maxLen := by unfold maxLen; omega
  clear hv h1 h2
  have qT : ∀ (w : World) (a : Option Addr) (n c n' c' : Nat), (binOp .eql 22 (.slice a n c) (.slice none n' c')).run Try.prog w = .ok (.bool a.isNone) w := fun w a n c n' c' => Lib.run_eql_slice_nil w _ _ a n c n' c' Try.underlying22
  cases ao with
  | none =>
    have h0 : l = [] := by
      cases l with
      | nil => rfl
      | cons z zs => obtain ⟨b, off, e, _⟩ := hcells 0 (by simp [ints]); cases e
    subst h0
    go_enter Try.func29, Try.ntmps29
    go_wp2
    go_ret
    exact ⟨_, rfl, World.ownsRow_nil _ _ _ _, Below.refl _ _⟩
  | some ad =>
    have hc : ∀ j u, (ints l)[j]? = some u → w.cell? (ad.add j) = some u := by
      intro j u hj
      obtain ⟨hj', e⟩ := List.getElem?_eq_some_iff.1 hj
      obtain ⟨b, off, e2, _, hcell⟩ := hcells j hj'
      obtain rfl := Option.some.inj e2
      rw [← e, Go.WideShapes.add_plain]; exact hcell
    have HC := Lib.hid hc
    have hone : Hid (∀ u ∈ ints l, u.oneCell' = true) := Lib.hid (ints_one1 l)
    have hown := World.ownsRow_lit (base := w.heap.size) (e := 3) (size := 1) w #[] 0 (Nat.le_refl _) (by unfold maxLen; omega) rfl
    have HO := Lib.hid hown
    have HL := Lib.hid (show (ints l).length = l.length * 1 by rw [ints_len, Nat.mul_one])
    clear hc hown hcells
    go_enter Try.func29, Try.ntmps29
    go_wp2_with (at_builtin; refine wpList_append_own _ rfl _ _ 22 rfl w.heap.size 3 i0 (.int .i64 0) 1 8 Try.underlying22 hi hz0 hz1 hz2 rfl (by decide) _ _ _ rfl HO.out ad l.length cap (ints l) rfl HL.out ?c1 hone.out ?c3 ?c4 ?c5 ?_)
    case c1 => exact fun j u hj => keep_alloc _ _ _ _ (HC.out j u hj)
    case c4 => omega
    intro v' w1 hown' hgrow _
    have HO1 := Lib.hid hown'
    have HB1 := Lib.hid (grown_below ((Below.refl w.heap.size w).alloc (Nat.le_refl _) _) HO.out (Nat.le_refl _) (by simp) hgrow)
    clear hown' hgrow
    go_wp2
    go_ret
    exact ⟨_, rfl, by have := HO1.out; simpa using this, HB1.out⟩

theorem ret_zb2 {z : Value} {a b : Bool} (h : a = b) : Ending.returned (.tuple #[z, .bool a]) = .returned (.tuple #[z, .bool b]) := by rw [h]
theorem withG_no {s : List Int} {a n : Int} (h : (axisG s a && goodS (s.set a.toNat n)) = false) : withG s a n = [] := by unfold withG; rw [if_neg (by rw [h]; decide)]
theorem withG_yes {s : List Int} {a n : Int} (h : (axisG s a && goodS (s.set a.toNat n)) = true) : withG s a n = s.set a.toNat n := if_pos h
set_option maxHeartbeats 4000000 in
theorem swith_calls {ok : Nat → Prop} (v : Value) (s : List Int) (axis n : Int) (w : World) (hv : Slc w ok v s.length (ints s)) (hl : s.length ≤ 1000) :
    Calls Try.prog 20 #[v, .int .i64 axis, .int .i64 n] w fun e w' => ∃ z, e = .returned (.tuple #[z, .bool (axisG s axis && goodS (s.set axis.toNat n))]) ∧ Slc w' (fun b => w.heap.size ≤ b) z (withG s axis n).length (ints (withG s axis n)) ∧ Below w.heap.size w w' := by
  have HV := Lib.hid hv
  have HL := Lib.hid hl
  obtain ⟨ao, cap, rfl, _⟩ := hv.opened
  obtain ⟨gb, hgb⟩ : ∃ gb, (axisG s axis && goodS (s.set axis.toNat n)) = gb := ⟨_, rfl⟩
  have HGB := Lib.hid hgb
  rw [hgb]
  clear hv
  cases ha : axisG s axis
  · have HX := Lib.hid ha
    have e : gb = false := by rw [← hgb, ha]; rfl
    subst e
    clear ha hgb
    go_enter Try.func20, Try.ntmps20
    go_wp2_with fail
    refine (shas_calls _ s _ _ HV.out HL.out).mono ?_
    rintro e w1 ⟨rfl, rfl⟩
    rw [HX.out]
    go_wp2
    go_ret2
    exact ⟨_, rfl, slc_nilG _ _ (withG_no HGB.out), Below.refl _ _⟩
  · have HX := Lib.hid ha
    obtain ⟨k, rfl, hk⟩ := axisG_yes ha
    have HGS := Lib.hid (show goodS (s.set k n) = gb by rw [← hgb, ha, Bool.true_and, Int.toNat_natCast])
    clear ha hgb
    go_enter Try.func20, Try.ntmps20
    go_wp2_with fail
    refine (shas_calls _ s _ _ HV.out HL.out).mono ?_
    rintro e w1 ⟨rfl, rfl⟩
    rw [HX.out]
    go_wp2_with fail
    refine (cloneOwn_calls _ s _ HV.out (by omega)).mono ?_
    rintro e w2 ⟨vz, rfl, hown, hB⟩
    obtain ⟨g, cz, rfl, hge, _⟩ := owns_shape hown (by omega)
    have HO := Lib.hid hown
    have HB := Lib.hid hB
    have HGE := Lib.hid hge
    have hcw := owns_cell hown k (by rw [ints_len]; exact hk)
    have hfr := World.ownsRow.frozenAt hown k
    rw [ints_get] at hcw
    obtain ⟨y, hy⟩ : ∃ y, y = s[k]'hk := ⟨_, rfl⟩
    rw [← hy] at hcw
    have hst := (World.ownsRow.stored hown k (.int .i64 n)).1
    rw [show (ints s).set k (Value.int .i64 n) = ints (s.set k n) by simp [ints, List.map_set]] at hst
    have HST := Lib.hid (Slc.owned hst)
    have HBS := Lib.hid (hB.setCell (p := ⟨g, k, none⟩) hge (.int .i64 n))
    have HSL := Lib.hid (show (s.set k n).length = s.length from List.length_set)
    clear hown hB hge hy hst
    go_wp2_with fail
    refine (sgood_calls _ (s.set k n) _ (by rw [HSL.out]; exact HST.out) (by rw [HSL.out]; exact HL.out)).mono ?_
    rintro e w3 ⟨rfl, hB⟩
    have HST3 := Lib.hid (HST.out.below hB)
    have HB3 := Lib.hid (HBS.out.trans (hB.mono HBS.out.size))
    clear hB
    rw [HGS.out]
    cases gb
    · go_wp2
      go_ret2
      exact ⟨_, rfl, slc_nilG _ _ (withG_no HGB.out), HB3.out⟩
    · go_wp2
      go_ret2
      refine ⟨_, rfl, ?_, HB3.out⟩
      rw [withG_yes HGB.out, Int.toNat_natCast, HSL.out]
      exact HST3.out

theorem rowsC_two {w : World} {ok : Nat → Prop} {A B : Value} {l1 l2 : List Int} (hA : Slc w ok A l1.length (ints l1)) (hB : Slc w ok B l2.length (ints l2)) :
    RowsC (w.alloc (.cells #[A, B] 22)).drew ok (.slice (some ⟨w.heap.size, 0, none⟩) 2 2) [l1, l2] := by
  have ho := World.ownsRow_lit (base := w.heap.size) (e := 22) (size := 1) w #[A, B] 2 (Nat.le_refl _) (by unfold maxLen; omega) rfl
  have hb : Below w.heap.size w (w.alloc (.cells #[A, B] 22)).drew := Below.drewN' ((Below.refl _ _).alloc (Nat.le_refl _) _) 1
  refine ⟨_, _, rfl, fun i hi => ?_⟩
  match i, hi with
  | 0, _ => exact ⟨_, _, A, rfl, owns_cell ho 0 (by simp), hA.below hb⟩
  | 1, _ => exact ⟨_, _, B, rfl, owns_cell ho 1 (by simp), hB.below hb⟩
theorem outG_no {s : List Int} {a : Int} (h : axisG s a = false) : outG s a = [] := by unfold outG; rw [if_neg (by rw [h]; decide)]
theorem outG_yes {s : List Int} {k : Nat} (h : axisG s (k : Int) = true) : outG s (k : Int) = s.take k ++ s.drop (k + 1) := by
  unfold outG; rw [if_pos h, Int.toNat_natCast, List.eraseIdx_eq_take_drop_succ]
set_option maxHeartbeats 4000000 in
theorem swithout_calls {ok : Nat → Prop} (v : Value) (s : List Int) (axis : Int) (w : World) (hv : Slc w ok v s.length (ints s)) (hl : s.length ≤ 1000) :
    Calls Try.prog 21 #[v, .int .i64 axis] w fun e w' => ∃ z, e = .returned (.tuple #[z, .bool (axisG s axis)]) ∧ Slc w' (fun b => w.heap.size ≤ b) z (outG s axis).length (ints (outG s axis)) ∧ Below w.heap.size w w' := by
  have HV := Lib.hid hv
  have HL := Lib.hid hl
  obtain ⟨ao, cap, rfl, hcap, _⟩ := hv.opened
  obtain ⟨gb, hgb⟩ : ∃ gb, axisG s axis = gb := ⟨_, rfl⟩
  have HGB := Lib.hid hgb
  rw [hgb]
  cases gb
  · clear hgb hv
    go_enter Try.func21, Try.ntmps21
    go_wp2_with fail
    refine (shas_calls _ s _ _ HV.out HL.out).mono ?_
    rintro e w1 ⟨rfl, rfl⟩
    rw [HGB.out]
    go_wp2
    go_ret2
    exact ⟨_, rfl, slc_nilG _ _ (outG_no HGB.out), Below.refl _ _⟩
  · obtain ⟨k, rfl, hk⟩ := axisG_yes hgb
    obtain ⟨b, off, cap', x, e2, hx, hcx⟩ := slc_at (Value.int .i64) (show Slc w ok (.slice ao s.length cap) s.length (s.map (Value.int .i64)) from hv) k hk
    obtain ⟨e2a, e2b⟩ : ao = some ⟨b, off, none⟩ ∧ cap = cap' := by cases e2; exact ⟨rfl, rfl⟩
    subst e2a
    have HX1 := Lib.hid (Slc.take HV.out k (by omega))
    have HOG := Lib.hid (outG_yes HGB.out)
    clear hgb hv hx hcx e2 e2b
    by_cases hce : cap = k + 1
    · have hw : IntKind.i64.wrap ((k : Int) + 1) = (k : Int) + 1 := by rw [IntKind.wrap_i64]; omega
      have hT0 : s.drop (k + 1) = [] := List.drop_eq_nil_of_le (by omega)
      subst hce
      have HD := Lib.hid (show Slc w ok (.slice (some ⟨b, off, none⟩) 0 0) (s.drop (k + 1)).length (ints (s.drop (k + 1))) by rw [hT0]; exact ⟨⟨rfl, _, _, rfl, fun i hi => absurd hi (by simp [ints])⟩, _, _, rfl, Nat.le_refl _, by unfold maxLen; omega⟩)
      clear hT0
      go_enter Try.func21, Try.ntmps21
      go_wp2_with fail
      refine (shas_calls _ s _ _ HV.out HL.out).mono ?_
      rintro e w1 ⟨rfl, rfl⟩
      rw [HGB.out]
      go_wp2
      refine still_tail 7 (by kernel_rfl) (by kernel_rfl) ?_
      simp only [List.take_succ_cons, List.take_zero, List.drop_succ_cons, List.drop_zero]
      repeat (refine wpStill_step (fun K hK => ?_); (try rw [hw]); go_simp; (try (rw [if_pos (by omega)]; dsimp only)); (first | (refine hK _ ?_; clear hK K) | (refine ⟨rfl, hK _ ?_⟩; clear hK K)))
      refine wpStill_nil ?_
      go_wp2_with fail
      refine (sconcat_calls (ok := ok) _ [s.take k, s.drop (k + 1)] _ (rowsC_two HX1.out HD.out) (by simp) (by simp; omega)).mono ?_
      rintro e w2 ⟨z, rfl, hz, hB⟩
      have HZ := Lib.hid hz
      have HB := Lib.hid ((Below.drewN' (below_newS w _) 1).trans (hB.mono (by show w.heap.size ≤ (w.alloc _).heap.size; simp)))
      clear hz hB
      go_wp2
      go_ret2
      refine ⟨_, rfl, ?_, HB.out⟩
      rw [HOG.out]
      have h := HZ.out
      rw [show [s.take k, s.drop (k + 1)].flatten = s.take k ++ s.drop (k + 1) by simp] at h
      exact h.wideG (fun b h => Nat.le_trans (by show w.heap.size ≤ (w.alloc _).heap.size; simp) h)
    · have hw : IntKind.i64.wrap ((k : Int) + 1) = (k : Int) + 1 := by rw [IntKind.wrap_i64]; omega
      have hlen : s.length - (k + 1) ≤ cap - (k + 1) := by omega
      have HD := Lib.hid (Slc.drop HV.out (k + 1) (by omega))
      go_enter Try.func21, Try.ntmps21
      go_wp2_with fail
      refine (shas_calls _ s _ _ HV.out HL.out).mono ?_
      rintro e w1 ⟨rfl, rfl⟩
      rw [HGB.out]
      go_wp2
      refine still_tail 7 (by kernel_rfl) (by kernel_rfl) ?_
      simp only [List.take_succ_cons, List.take_zero, List.drop_succ_cons, List.drop_zero]
      repeat (refine wpStill_step (fun K hK => ?_); (try rw [hw]); go_simp; (try (rw [if_pos (by omega)]; dsimp only)); (first | (refine hK _ ?_; clear hK K) | (refine ⟨rfl, hK _ ?_⟩; clear hK K)))
      refine wpStill_nil ?_
      go_wp2_with fail
      refine (sconcat_calls (ok := ok) _ [s.take k, s.drop (k + 1)] _ (rowsC_two HX1.out HD.out) (by simp) (by simp; omega)).mono ?_
      rintro e w2 ⟨z, rfl, hz, hB⟩
      have HZ := Lib.hid hz
      have HB := Lib.hid ((Below.drewN' (below_newS w _) 1).trans (hB.mono (by show w.heap.size ≤ (w.alloc _).heap.size; simp)))
      clear hz hB
      go_wp2
      go_ret2
      refine ⟨_, rfl, ?_, HB.out⟩
      rw [HOG.out]
      have h := HZ.out
      rw [show [s.take k, s.drop (k + 1)].flatten = s.take k ++ s.drop (k + 1) by simp] at h
      exact h.wideG (fun b h => Nat.le_trans (by show w.heap.size ≤ (w.alloc _).heap.size; simp) h)
end Go.Proofs.Ytnebondinjjodaa

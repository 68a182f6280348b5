/- Package num, walked: powers. -/
import Derived.Test.YtlgdkpiaibhpjaaNuD
import Derived.Deep.Draws
import Derived.LoopTactic
import Derived.Below
namespace Go.Proofs.Ytlgdkpiaibhpjaa
open Go.RowKit Fl
set_option linter.unusedVariables false
theorem wh_wf {x : Nat} {n : Int} (h : Wh x n) : (Lit.int .i64 n).wf = true := by
  have hm : IntKind.i64.min = -9223372036854775808 ∧ IntKind.i64.max = 9223372036854775807 := by decide
  have := h.2.1
  simp only [Lit.wf, decide_eq_true_eq, Bool.and_eq_true]
  rw [hm.1, hm.2]; omega
theorem rest_yes (a b : Nat) (m n : Int) (w : World) (ha : Wh a m) (hb : Wh b n) : Calls Try.prog 38 #[.float .f64 a, .float .f64 b] w fun e w' => e = .returned (.tuple #[.float .f64 (floatOfInt .f64 (rst m n)), .int .i64 0]) ∧ w = w' := by
  have HA := Lib.hid ha
  have HB := Lib.hid hb
  have hc2 : ∀ w, (convert 2 22 (.int .i64 (rst m n))).run Try.prog w = .ok (.float .f64 (floatOfInt .f64 (rst m n))) w := fun w => run_convert_int_float w 2 22 .i64 .f64 _ (by kernel_rfl) (by kernel_rfl)
  clear ha hb
  go_enter Try.func38, Try.ntmps38
  go_wp2_with (first | ((with_reducible refine (whole_yes _ _ _ HA.out).mono ?_); rintro e w' ⟨rfl, rfl⟩) | ((with_reducible refine (whole_yes _ _ _ HB.out).mono ?_); rintro e w' ⟨rfl, rfl⟩) | ((with_reducible refine (restint_calls _ _ _ (wh_wf HA.out) (wh_wf HB.out)).mono ?_); rintro e w' ⟨rfl, rfl⟩))
  go_ret2
  exact ⟨rfl, rfl⟩
theorem rest_no1 (a b : Nat) (w : World) (ha' : a < 18446744073709551616) (ha : ∀ n, ¬ Wh a n) (hb' : b < 18446744073709551616) : Calls Try.prog 38 #[.float .f64 a, .float .f64 b] w fun e w' => e = .returned (.tuple #[.float .f64 0, .int .i64 24]) ∧ w = w' := by
  have HA := Lib.hid ha
  have HA' := Lib.hid ha'
  have HB' := Lib.hid hb'
  clear ha ha' hb'
  by_cases hb : ∃ n, Wh b n
  · obtain ⟨n, hn⟩ := hb
    have HB := Lib.hid hn
    clear hn
    go_enter Try.func38, Try.ntmps38
    go_wp2_with (first | ((with_reducible refine (whole_no _ _ HA'.out HA.out).mono ?_); rintro e w' ⟨rfl, rfl⟩) | ((with_reducible refine (whole_yes _ _ _ HB.out).mono ?_); rintro e w' ⟨rfl, rfl⟩))
    go_ret2
    exact ⟨rfl, rfl⟩
  · have HB : Hid (∀ n, ¬ Wh b n) := Lib.hid (fun n hn => hb ⟨n, hn⟩)
    clear hb
    go_enter Try.func38, Try.ntmps38
    go_wp2_with (first | ((with_reducible refine (whole_no _ _ HA'.out HA.out).mono ?_); rintro e w' ⟨rfl, rfl⟩) | ((with_reducible refine (whole_no _ _ HB'.out HB.out).mono ?_); rintro e w' ⟨rfl, rfl⟩))
    go_ret2
    exact ⟨rfl, rfl⟩
theorem rest_no2 (a b : Nat) (m : Int) (w : World) (ha : Wh a m) (hb' : b < 18446744073709551616) (hb : ∀ n, ¬ Wh b n) : Calls Try.prog 38 #[.float .f64 a, .float .f64 b] w fun e w' => e = .returned (.tuple #[.float .f64 0, .int .i64 24]) ∧ w = w' := by
  have HA := Lib.hid ha
  have HB' := Lib.hid hb'
  have HB := Lib.hid hb
  clear ha hb hb'
  go_enter Try.func38, Try.ntmps38
  go_wp2_with (first | ((with_reducible refine (whole_yes _ _ _ HA.out).mono ?_); rintro e w' ⟨rfl, rfl⟩) | ((with_reducible refine (whole_no _ _ HB'.out HB.out).mono ?_); rintro e w' ⟨rfl, rfl⟩))
  go_ret2
  exact ⟨rfl, rfl⟩

/-- A word that is what it is said to be, or no number at all. -/
def FV (v : Nat) (o : Option Nat) : Prop := v < 18446744073709551616 ∧ ((o = some v) ∨ (o = none ∧ ∃ s t, Ieee.double.read v = .nan s t))
/-- A product, where there is one. -/
def fm (a b : Option Nat) : Option Nat := a.bind fun x => b.bind fun y => Ieee.double.mul x y
theorem mul_nan {x y : Nat} (h : (∃ s t, Ieee.double.read x = .nan s t) ∨ ∃ s t, Ieee.double.read y = .nan s t) : Ieee.double.mul x y = none := by
  unfold Ieee.Format.mul
  rcases h with ⟨s, t, h⟩ | ⟨s, t, h⟩ <;> rw [h]
  · rfl
  · cases Ieee.double.read x <;> rfl
theorem read_nan (s : Bool) (r : Nat) (h1 : 9218868437227405312 < r) (h2 : r < 9223372036854775808) : ∃ s' t, Ieee.double.read (Ieee.double.word s r) = .nan s' t := by
  have h := word_sg s r h2
  have hn : ¬ Fnt (Ieee.double.word s r) := fun e => by have := e.2; rw [h.2.1] at this; omega
  rcases read_non h.1 hn with ⟨s', _, e⟩ | h'
  · have : Ieee.double.word s r % 9223372036854775808 = 9218868437227405312 := by rw [e]; cases s' <;> decide
    rw [h.2.1] at this; omega
  · exact h'
theorem mul_any (P : Program) (w : World) {v1 v2 : Nat} {o1 o2 : Option Nat} (h1 : FV v1 o1) (h2 : FV v2 o2) :
    ∃ z q, (∀ t, (binOp .mul t (.float .f64 v1) (.float .f64 v2)).run P w = .ok (.float .f64 z) (w.drewN q)) ∧ FV z (fm o1 o2) := by
  have hm : fm o1 o2 = Ieee.double.mul v1 v2 := by
    rcases h1.2 with rfl | ⟨rfl, hn⟩
    · rcases h2.2 with rfl | ⟨rfl, hn⟩
      · rfl
      · rw [mul_nan (.inr hn)]; rfl
    · rw [mul_nan (.inl hn)]; rfl
  cases hz : Ieee.double.mul v1 v2 with
  | some z =>
    refine ⟨z, 0, fun t => run_float_arith w .mul t .f64 v1 v2 z hz, bits_lt (op := .mul) hz, .inl ?_⟩
    rw [hm, hz]
  | none =>
    have hr : ∀ t, (binOp .mul t (.float .f64 v1) (.float .f64 v2)).run P w = .ok (.float .f64 ((Question.nanBits .f64 v1 v2).cut (w.tape w.drawn (.nanBits .f64 v1 v2)))) (w.drewN 1) := by
      intro t
      have hz' : FloatKind.f64.format.mul v1 v2 = none := hz
      simp [binOp, Op.floatArith, hz', choose, Sem.run, Question.forced]
      rfl
    refine ⟨_, 1, hr, ?_⟩
    generalize w.tape w.drawn (.nanBits .f64 v1 v2) = t
    have e : ∃ s r, (Question.nanBits .f64 v1 v2).cut t = Ieee.double.word s r ∧ 9218868437227405312 < r ∧ r < 9223372036854775808 := by
      show ∃ s r, (t % 2) * 2 ^ 63 + 0x7ff0000000000000 + 1 + (t / 2) % (2 ^ 52 - 1) = Ieee.double.word s r ∧ _
      refine ⟨t % 2 == 1, 9218868437227405312 + 1 + (t / 2) % 4503599627370495, ?_, by omega, by omega⟩
      unfold Ieee.Format.word
      rw [dbl_sw]
      rcases Nat.mod_two_eq_zero_or_one t with h | h <;> simp [h] <;> omega
    obtain ⟨s, r, e, r1, r2⟩ := e
    rw [e]
    exact ⟨(word_sg s r r2).1, .inr ⟨by rw [hm, hz], read_nan s r r1 r2⟩⟩
/-- 1 multiplied with a number, so often. -/
def tms : Nat → Nat → Option Nat → Option Nat → Option Nat
  | 0, _, o, _ => o
  | n + 1, k, o, x => if k = 0 then o else tms n (k / 2) (if k % 2 = 1 then fm o x else o) (fm x x)
theorem tms_zero (n : Nat) (o x : Option Nat) : tms n 0 o x = o := by cases n <;> rfl
theorem one_fv : FV 4607182418800017408 (some 4607182418800017408) := ⟨by decide, .inl rfl⟩
def Tmd (tot : Option Nat) (w : World) (e : Ending) (w' : World) : Prop := ∃ v m, e = .returned (.float .f64 v) ∧ FV v tot ∧ w' = w.drewN m
set_option maxHeartbeats 1000000 in
theorem times_calls (x k : Nat) (w : World) (hx : x < 18446744073709551616) (hk : k < 1024) : Calls Try.prog 55 #[.float .f64 x, .int .i64 k] w (Tmd (tms 10 k (some 4607182418800017408) (some x)) w) := by
  obtain ⟨tot, htot⟩ : ∃ tot, tms 10 k (some 4607182418800017408) (some x) = tot := ⟨_, rfl⟩
  rw [htot]
  have HT := Lib.hid htot
  have HX : Hid (FV x (some x)) := Lib.hid ⟨hx, .inl rfl⟩
  have HK : Hid (k < 2 ^ 10) := Lib.hid hk
  clear htot hx hk
  go_enter Try.func55, Try.ntmps55
  go_wp2
  go_loopw [0, 1, 5] (fun u0 u1 u5 wr => ∃ n kk X O : Nat, ∃ ox oo m, u0 = .float .f64 X ∧ u1 = .int .i64 kk ∧ u5 = .float .f64 O ∧ FV X ox ∧ FV O oo ∧ kk < 2 ^ n ∧ kk < 1024 ∧ tms n kk oo ox = tot ∧ wr = w.drewN m) (fun _ u1 _ _ => (intOf u1).toNat)
  case atStart => exact ⟨10, k, x, _, some x, _, 0, rfl, rfl, rfl, HX.out, one_fv, HK.out, HK.out, HT.out, rfl⟩
  case round =>
    obtain ⟨n, kk, X, O, ox, oo, m, rfl, rfl, rfl, hX, hO, hlt, hkb, heq, rfl⟩ := hrel
    rcases Nat.eq_zero_or_pos kk with h0 | h0
    · subst h0
      have HE : Hid (oo = tot) := Lib.hid (by rw [← heq, tms_zero])
      have HO := Lib.hid hO
      clear heq hX hO hlt
      go_wp2
      go_ret
      exact ⟨O, m, rfl, HE.out ▸ HO.out, rfl⟩
    · have hn : n ≠ 0 := by rintro rfl; simp at hlt; omega
      obtain ⟨n', rfl⟩ : ∃ n', n = n' + 1 := ⟨n - 1, by omega⟩
      have hlt' : Hid (kk / 2 < 2 ^ n') := Lib.hid (by rw [Nat.pow_succ] at hlt; omega)
      have heq' : tms n' (kk / 2) (if kk % 2 = 1 then fm oo ox else oo) (fm ox ox) = tot := by rw [← heq, tms, if_neg (c := kk = 0) (by omega)]
      by_cases hodd : kk % 2 = 1
      · rw [if_pos hodd] at heq'
        have HQ := Lib.hid heq'
        obtain ⟨z, q, hop, hz⟩ := mul_any Try.prog (w.drewN m) hO hX
        obtain ⟨x2, q2, hop2, hx2⟩ := mul_any Try.prog (w.drewN (m + q)) hX hX
        have hodd' : ((kk : Int) % 2 == 1) = true := by simp; omega
        have HZ := Lib.hid hz
        have HX2 := Lib.hid hx2
        clear heq heq' hodd hX hO hz hx2 hlt hn
        go_wp2
        go_roundw
        case rel => exact ⟨n', kk / 2, x2, z, _, _, _, rfl, by go_num, rfl, HX2.out, HZ.out, hlt'.out, by omega, HQ.out, rfl⟩
        case measure => simp [intOf]; omega
      · rw [if_neg hodd] at heq'
        have HQ := Lib.hid heq'
        obtain ⟨x2, q2, hop2, hx2⟩ := mul_any Try.prog (w.drewN m) hX hX
        have hodd' : ((kk : Int) % 2 == 1) = false := by simp; omega
        have HO := Lib.hid hO
        have HX2 := Lib.hid hx2
        clear heq heq' hodd hX hO hx2 hlt hn
        go_wp2
        go_roundw
        case rel => exact ⟨n', kk / 2, x2, O, _, _, _, rfl, by go_num, rfl, HX2.out, HO.out, hlt'.out, by omega, HQ.out, rfl⟩
        case measure => simp [intOf]; omega
/-- A number multiplied with itself, told with an error. -/
def pwr (a : Nat) (n : Int) : Nat × Int :=
  match tms 10 n.natAbs (some 4607182418800017408) (some a) with
  | none => (0, 24)
  | some z => if 0 ≤ n then rs z else if z % 9223372036854775808 < 9218868437227405312 ∧ V z ≠ 0 then rs ((Ieee.double.div 4607182418800017408 z).getD 0) else (0, 24)
def Pwd (r : Nat × Int) (w : World) (e : Ending) (w' : World) : Prop := e = .returned (.tuple #[.float .f64 r.1, .int .i64 r.2]) ∧ ∃ m, w' = w.drewN m
theorem ret_p {r : Nat × Int} {a : Nat} {i : Int} (h : r = (a, i)) : Ending.returned (.tuple #[.float .f64 a, .int .i64 i]) = .returned (.tuple #[.float .f64 r.1, .int .i64 r.2]) := by rw [h]
theorem power_no (a b : Nat) (w : World) (hb : b < 18446744073709551616) (h : ∀ n, ¬ Wh b n) : Calls Try.prog 39 #[.float .f64 a, .float .f64 b] w (Pwd (0, 24) w) := by
  have HB := Lib.hid hb
  have HN := Lib.hid h
  clear hb h
  go_enter Try.func39, Try.ntmps39
  go_wp2_with ((with_reducible refine (whole_no _ _ HB.out HN.out).mono ?_); rintro e w' ⟨rfl, rfl⟩)
  go_ret2
  exact ⟨rfl, 0, rfl⟩
theorem power_much (a b : Nat) (n : Int) (w : World) (h : Wh b n) (hn : 1023 < n.natAbs) : Calls Try.prog 39 #[.float .f64 a, .float .f64 b] w (Pwd (0, 24) w) := by
  have HB := Lib.hid h
  have HW := Lib.hid (show -9223372036854775808 < n ∧ n ≤ 9223372036854775807 by have := h.2.1; omega)
  obtain ⟨k, hk⟩ : ∃ k : Nat, n.natAbs = k := ⟨_, rfl⟩
  rw [hk] at hn
  have HK := Lib.hid hk
  clear h hk
  go_enter Try.func39, Try.ntmps39
  go_wp2_with (first | ((with_reducible refine (whole_yes _ _ _ HB.out).mono ?_); rintro e w' ⟨rfl, rfl⟩) | ((with_reducible refine (size_calls _ _ HW.out.1 HW.out.2).mono ?_); rintro e w' ⟨rfl, rfl⟩; rw [HK.out]))
  go_ret2
  exact ⟨rfl, 0, rfl⟩
theorem div_one_zero (w : World) : Calls Try.prog 24 #[.float .f64 4607182418800017408, .float .f64 0] w fun e w' => e = .returned (.tuple #[.float .f64 0, .int .i64 24]) ∧ w = w' := div_zero _ w one_fin (by rw [V_one]; have := pw_pos 1074; omega)
theorem pwr_none {a : Nat} {n : Int} (h : tms 10 n.natAbs (some 4607182418800017408) (some a) = none) : pwr a n = (0, 24) := by unfold pwr; rw [h]
theorem pwr_up {a z : Nat} {n : Int} (h : tms 10 n.natAbs (some 4607182418800017408) (some a) = some z) (hn : 0 ≤ n) : pwr a n = rs z := by unfold pwr; rw [h]; exact if_pos hn
theorem pwr_down {a z y : Nat} {n : Int} (h : tms 10 n.natAbs (some 4607182418800017408) (some a) = some z) (hn : n < 0) (hz : Fnt z) (h0 : V z ≠ 0) (hy : Ieee.double.div 4607182418800017408 z = some y) : pwr a n = rs y := by
  unfold pwr; rw [h]
  show (if 0 ≤ n then rs z else _) = _
  rw [if_neg (by omega), if_pos ⟨hz.2, h0⟩, hy, Option.getD_some]
theorem pwr_off {a z : Nat} {n : Int} (h : tms 10 n.natAbs (some 4607182418800017408) (some a) = some z) (hn : n < 0) (hz : ¬ (Fnt z ∧ V z ≠ 0)) (hb : z < 18446744073709551616) : pwr a n = (0, 24) := by
  unfold pwr; rw [h]
  show (if 0 ≤ n then rs z else _) = _
  rw [if_neg (by omega), if_neg (fun e => hz ⟨⟨hb, e.1⟩, e.2⟩)]
theorem nan_not {v : Nat} (h : ∃ s t, Ieee.double.read v = .nan s t) : ¬ Fnt v := by
  intro hf
  obtain ⟨m, k, h1, _⟩ := read_fin hf
  obtain ⟨s, t, h2⟩ := h
  rw [h1] at h2; cases h2
set_option maxHeartbeats 1000000 in
theorem power_calls (a b : Nat) (n : Int) (w : World) (ha : a < 18446744073709551616) (h : Wh b n) (hn : n.natAbs ≤ 1023) : Calls Try.prog 39 #[.float .f64 a, .float .f64 b] w (Pwd (pwr a n) w) := by
  have HB := Lib.hid h
  have HA := Lib.hid ha
  have HW := Lib.hid (show -9223372036854775808 < n ∧ n ≤ 9223372036854775807 by have := h.2.1; omega)
  obtain ⟨k, hk⟩ : ∃ k : Nat, n.natAbs = k := ⟨_, rfl⟩
  rw [hk] at hn
  have HK := Lib.hid hk
  have hkb := Lib.hid (show k < 1024 by omega)
  obtain ⟨tot, ht⟩ : ∃ tot, tms 10 k (some 4607182418800017408) (some a) = tot := ⟨_, rfl⟩
  have HT : Hid (tms 10 n.natAbs (some 4607182418800017408) (some a) = tot) := Lib.hid (by rw [hk]; exact ht)
  have HT' := Lib.hid ht
  clear h hk ht ha
  rcases Int.lt_or_le n 0 with h0 | h0
  · go_enter Try.func39, Try.ntmps39
    go_wp2_with (first | ((with_reducible refine (whole_yes _ _ _ HB.out).mono ?_); rintro e w' ⟨rfl, rfl⟩) | ((with_reducible refine (size_calls _ _ HW.out.1 HW.out.2).mono ?_); rintro e w' ⟨rfl, rfl⟩; rw [HK.out]))
    refine (times_calls _ _ _ HA.out hkb.out).mono ?_
    rintro e w' ⟨v, m, rfl, hv, rfl⟩
    rw [HT'.out] at hv
    have HV := Lib.hid hv
    clear hv
    go_wp2_with fail
    refine (result_calls _ _ HV.out.1).mono ?_
    rintro e w' ⟨rfl, rfl⟩
    by_cases hf : Fnt v
    · have hr := rs_fin hf
      rw [hr]
      have hs : tot = some v := by
        rcases HV.out.2 with h | h
        · exact h
        · exact absurd hf (nan_not h.2)
      have hzn := ze_num hf
      have hzv := @ze_val v
      by_cases hv0 : V v = 0
      · have hz0 : ze v = 0 := hzn.2 (V_eq_zero.1 (by rw [hzv, hv0]))
        rw [hz0]
        have HR : Hid (pwr a n = (0, 24)) := Lib.hid (pwr_off (by rw [HT.out, hs]) h0 (fun e => e.2 hv0) HV.out.1)
        clear hf hr hs hzn hzv hv0 hz0
        go_wp2_with ((with_reducible refine (div_one_zero _).mono ?_); rintro e w' ⟨rfl, rfl⟩)
        go_ret2
        exact ⟨ret_p HR.out, m, rfl⟩
      · have hze : ze v = v := if_neg (fun e => hv0 (V_eq_zero.2 e))
        rw [hze]
        obtain ⟨y, hy⟩ := div_some one_fin hf hv0
        have HR : Hid (pwr a n = rs y) := Lib.hid (pwr_down (by rw [HT.out, hs]) h0 hf hv0 hy)
        have HY : Hid (floatBits .quo .f64 4607182418800017408 v = some y) := Lib.hid hy
        have HF := Lib.hid hf
        have H0 := Lib.hid hv0
        clear hf hr hs hzn hzv hv0 hze hy
        go_wp2_with ((with_reducible refine (div_calls _ _ y _ HF.out H0.out HY.out).mono ?_); rintro e w' ⟨rfl, rfl⟩)
        go_ret2
        exact ⟨by rw [HR.out]; rfl, m, rfl⟩
    · have hr := rs_non HV.out.1 hf
      rw [hr]
      have HR : Hid (pwr a n = (0, 24)) := Lib.hid (by
        rcases HV.out.2 with h | h
        · exact pwr_off (by rw [HT.out, h]) h0 (fun e => hf e.1) HV.out.1
        · exact pwr_none (by rw [HT.out, h.1]))
      clear hf hr
      go_wp2
      go_ret2
      exact ⟨ret_p HR.out, m, rfl⟩
  · go_enter Try.func39, Try.ntmps39
    go_wp2_with (first | ((with_reducible refine (whole_yes _ _ _ HB.out).mono ?_); rintro e w' ⟨rfl, rfl⟩) | ((with_reducible refine (size_calls _ _ HW.out.1 HW.out.2).mono ?_); rintro e w' ⟨rfl, rfl⟩; rw [HK.out]))
    refine (times_calls _ _ _ HA.out hkb.out).mono ?_
    rintro e w' ⟨v, m, rfl, hv, rfl⟩
    rw [HT'.out] at hv
    have HV := Lib.hid hv
    have HR : Hid (pwr a n = rs v) := Lib.hid (by
      rcases hv.2 with h | h
      · exact pwr_up (by rw [HT.out, h]) h0
      · rw [rs_non hv.1 (nan_not h.2)]; exact pwr_none (by rw [HT.out, h.1]))
    clear hv
    go_wp2_with fail
    refine (result_calls _ _ HV.out.1).mono ?_
    rintro e w' ⟨rfl, rfl⟩
    go_wp2
    go_ret2
    exact ⟨by rw [HR.out]; rfl, m, rfl⟩
theorem n1023_fin : Fnt 4652209618980700160 ∧ Fnt 13875581655835475968 := ⟨⟨by decide, by decide⟩, ⟨by decide, by decide⟩⟩
theorem V_1023 : V 4652209618980700160 = 1023 * pw 1074 := by
  have h := ofInt_val 1023 (by decide)
  rw [show floatOfInt .f64 1023 = 4652209618980700160 by kernel_rfl] at h; exact h
theorem V_m1023 : V 13875581655835475968 = -1023 * pw 1074 := by
  have h := ofInt_val (-1023) (by decide)
  rw [show floatOfInt .f64 (-1023) = 13875581655835475968 by kernel_rfl] at h; exact h
theorem rpower_no (a b : Nat) (w : World) (hb : b < 18446744073709551616) (h : ∀ n, ¬ Wh b n) : Calls Try.prog 40 #[.float .f64 a, .float .f64 b] w (Pwd (0, 24) w) := by
  have HB := Lib.hid hb
  have hN : false = true ↔ ∃ n, Wh b n := Iff.intro (fun e => by cases e) (fun e => by obtain ⟨n, e⟩ := e; exact absurd e (h n))
  have HN := Lib.hid hN
  clear hN
  clear hb h
  go_enter Try.func40, Try.ntmps40
  go_wp2_with ((with_reducible refine (rwhole_calls _ _ HB.out false HN.out).mono ?_); rintro e w' ⟨rfl, rfl⟩)
  go_ret2
  exact ⟨rfl, 0, rfl⟩
theorem wh_lt {b : Nat} {n m : Int} {c : Nat} (h : Wh b n) (hc : Fnt c) (hv : V c = m * pw 1074) : (n < m → FloatKind.f64.format.order b c = some .lt) ∧ (n = m → FloatKind.f64.format.order b c = some .eq) ∧ (m < n → FloatKind.f64.format.order b c = some .gt) := by
  have hp : (0 : Int) < pw 1074 := by exact_mod_cast pw_pos 1074
  refine ⟨fun e => ord_lt h.1 hc ?_, fun e => ord_eq h.1 hc ?_, fun e => ord_gt h.1 hc ?_⟩ <;> rw [h.2.2, hv]
  · exact Int.mul_lt_mul_of_pos_right e hp
  · rw [e]
  · exact Int.mul_lt_mul_of_pos_right e hp
theorem rpower_much (a b : Nat) (n : Int) (w : World) (h : Wh b n) (hn : 1023 < n.natAbs) : Calls Try.prog 40 #[.float .f64 a, .float .f64 b] w (Pwd (0, 24) w) := by
  have HB := Lib.hid h.1.1
  have hN : true = true ↔ ∃ n, Wh b n := Iff.intro (fun _ => Exists.intro n h) (fun _ => rfl)
  have HN := Lib.hid hN
  clear hN
  have h1 := wh_lt h n1023_fin.1 V_1023
  have h2 := wh_lt h n1023_fin.2 V_m1023
  rcases Int.lt_or_le n 0 with h0 | h0
  · have h3 := h1.1 (by omega)
    have h4 := h2.1 (by omega)
    clear h h1 h2
    go_enter Try.func40, Try.ntmps40
    go_wp2_with ((with_reducible refine (rwhole_calls _ _ HB.out true HN.out).mono ?_); rintro e w' ⟨rfl, rfl⟩)
    go_ret2
    exact ⟨rfl, 0, rfl⟩
  · have h3 := h1.2.2 (by omega)
    clear h h1 h2
    go_enter Try.func40, Try.ntmps40
    go_wp2_with ((with_reducible refine (rwhole_calls _ _ HB.out true HN.out).mono ?_); rintro e w' ⟨rfl, rfl⟩)
    go_ret2
    exact ⟨rfl, 0, rfl⟩
set_option maxHeartbeats 2000000 in
theorem rpower_calls (a b : Nat) (n : Int) (w : World) (ha : a < 18446744073709551616) (h : Wh b n) (hn : n.natAbs ≤ 1023) : Calls Try.prog 40 #[.float .f64 a, .float .f64 b] w (Pwd (pwr a n) w) := by
  have HB := Lib.hid h.1.1
  have hN : true = true ↔ ∃ n, Wh b n := Iff.intro (fun _ => Exists.intro n h) (fun _ => rfl)
  have HN := Lib.hid hN
  have h1 := wh_lt h n1023_fin.1 V_1023
  have h2 := wh_lt h n1023_fin.2 V_m1023
  have h3 := wh_lt (m := 0) h fin_zero (by rw [V_zero, Int.zero_mul])
  have hi := wh_int b n h
  have hc : ∀ w, (convert 22 2 (.float .f64 b)).run Try.prog w = .ok (.int .i64 n) w := fun w => run_convert_float_int w 22 2 .f64 .i64 b n (by kernel_rfl) (by kernel_rfl) hi
  have HA : Hid (FV a (some a)) := Lib.hid ⟨ha, .inl rfl⟩
  have HW := Lib.hid (show -9223372036854775808 < n ∧ n ≤ 9223372036854775807 by have := h.2.1; omega)
  obtain ⟨k, hk⟩ : ∃ k : Nat, n.natAbs = k := ⟨_, rfl⟩
  rw [hk] at hn
  have HK := Lib.hid hk
  have hkb := Lib.hid (show k < 1024 by omega)
  obtain ⟨tot, ht⟩ : ∃ tot, tms 10 k (some 4607182418800017408) (some a) = tot := ⟨_, rfl⟩
  have HT : Hid (tms 10 n.natAbs (some 4607182418800017408) (some a) = tot) := Lib.hid (by rw [hk]; exact ht)
  have HT' := Lib.hid ht
  have o1 : FloatKind.f64.format.order b 4652209618980700160 = some .lt ∨ FloatKind.f64.format.order b 4652209618980700160 = some .eq := by
    rcases Int.lt_or_le n 1023 with e | e
    · exact .inl (h1.1 e)
    · exact .inr (h1.2.1 (by omega))
  have o2 : FloatKind.f64.format.order b 13875581655835475968 = some .gt ∨ FloatKind.f64.format.order b 13875581655835475968 = some .eq := by
    rcases Int.lt_or_le (-1023) n with e | e
    · exact .inl (h2.2.2 e)
    · exact .inr (h2.2.1 (by omega))
  have o3 : (n < 0 ∧ FloatKind.f64.format.order b 0 = some .lt) ∨ (0 ≤ n ∧ FloatKind.f64.format.order b 0 = some .eq) ∨ (0 ≤ n ∧ FloatKind.f64.format.order b 0 = some .gt) := by
    rcases Int.lt_trichotomy n 0 with e | e | e
    · exact .inl ⟨e, h3.1 e⟩
    · exact .inr (.inl ⟨by omega, h3.2.1 e⟩)
    · exact .inr (.inr ⟨by omega, h3.2.2 e⟩)
  clear h hk ht ha h1 h2 h3 hi hN
  rcases o1 with o1 | o1 <;> rcases o2 with o2 | o2
  all_goals
    go_enter Try.func40, Try.ntmps40
    go_wp2_with (first | ((with_reducible refine (rwhole_calls _ _ HB.out true HN.out).mono ?_); rintro e w' ⟨rfl, rfl⟩) | ((with_reducible refine (rsize_calls _ _ HW.out.1 HW.out.2).mono ?_); rintro e w' ⟨rfl, rfl⟩; rw [HK.out]))
    go_loopw [6, 7, 8] (fun u6 u7 u8 wr => ∃ nn kk X O : Nat, ∃ ox oo m, u6 = .int .i64 kk ∧ u7 = .float .f64 O ∧ u8 = .float .f64 X ∧ (kk = 0 ∨ FV X ox) ∧ FV O oo ∧ kk < 2 ^ nn ∧ kk < 1024 ∧ tms nn kk oo ox = tot ∧ wr = w.drewN m) (fun u6 _ _ _ => (intOf u6).toNat)
    case atStart => exact ⟨10, k, a, _, some a, _, 0, rfl, rfl, rfl, .inr HA.out, one_fv, hkb.out, hkb.out, HT'.out, rfl⟩
    case round =>
      obtain ⟨nn, kk, X, O, ox, oo, m, rfl, rfl, rfl, hX, hO, hlt, hkb, heq, rfl⟩ := hrel
      rcases Nat.eq_zero_or_pos kk with h0 | h0
      · subst h0
        have HV : Hid (FV O tot) := Lib.hid (by rw [← heq, tms_zero]; exact hO)
        have HVb := Lib.hid HV.out.1
        clear heq hX hO hlt
        rcases o3 with ⟨n0, o3⟩ | ⟨n0, o3⟩ | ⟨n0, o3⟩
        · by_cases hf : Fnt O
          · have hs : tot = some O := by
              rcases HV.out.2 with h | h
              · exact h
              · exact absurd hf (nan_not h.2)
            have HF := Lib.hid hf
            by_cases hv0 : V O = 0
            · have hz : FloatKind.f64.format.order O 0 = some .eq := ord_eq hf fin_zero (by rw [V_zero, hv0])
              have HR : Hid (pwr a n = (0, 24)) := Lib.hid (pwr_off (by rw [HT.out, hs]) n0 (fun e => e.2 hv0) HV.out.1)
              clear hf hs hv0
              go_wp2_with ((with_reducible refine (rfinite_fin _ _ HF.out).mono ?_); rintro e w' ⟨rfl, rfl⟩)
              go_ret2
              exact ⟨ret_p HR.out, m, rfl⟩
            · have hz : FloatKind.f64.format.order O 0 = some .lt ∨ FloatKind.f64.format.order O 0 = some .gt := ord_ne hf fin_zero (by rw [V_zero]; exact hv0)
              obtain ⟨y, hy⟩ := div_some one_fin hf hv0
              have HR : Hid (pwr a n = rs y) := Lib.hid (pwr_down (by rw [HT.out, hs]) n0 hf hv0 hy)
              have hop : ∀ t w, (binOp .quo t (.float .f64 4607182418800017408) (.float .f64 O)).run Try.prog w = .ok (.float .f64 y) w := fun t w => run_float_arith w .quo t .f64 _ _ _ hy
              have HY := Lib.hid (bits_lt (op := .quo) hy)
              clear hf hs hv0 hy
              rcases hz with hz | hz
              all_goals
                go_wp2_with (first | ((with_reducible refine (rfinite_fin _ _ HF.out).mono ?_); rintro e w' ⟨rfl, rfl⟩) | ((with_reducible refine (done_calls _ _ HY.out).mono ?_); rintro e w' ⟨rfl, rfl⟩))
                go_ret2
                exact ⟨by rw [HR.out]; rfl, m, rfl⟩
          · have HF := Lib.hid hf
            have HR : Hid (pwr a n = (0, 24)) := Lib.hid (by
              rcases HV.out.2 with h | h
              · exact pwr_off (by rw [HT.out, h]) n0 (fun e => hf e.1) HV.out.1
              · exact pwr_none (by rw [HT.out, h.1]))
            clear hf
            go_wp2_with ((with_reducible refine (rfinite_non _ _ HVb.out HF.out).mono ?_); rintro e w' ⟨rfl, rfl⟩)
            go_ret2
            exact ⟨ret_p HR.out, m, rfl⟩
        all_goals
          have HR : Hid (pwr a n = rs O) := Lib.hid (by
            rcases HV.out.2 with h | h
            · exact pwr_up (by rw [HT.out, h]) n0
            · rw [rs_non HV.out.1 (nan_not h.2)]; exact pwr_none (by rw [HT.out, h.1]))
          go_wp2_with ((with_reducible refine (done_calls _ _ HVb.out).mono ?_); rintro e w' ⟨rfl, rfl⟩)
          go_ret2
          exact ⟨by rw [HR.out]; rfl, m, rfl⟩
      · have hnn : nn ≠ 0 := by rintro rfl; simp at hlt; omega
        obtain ⟨n', rfl⟩ : ∃ n', nn = n' + 1 := ⟨nn - 1, by omega⟩
        have hlt' : Hid (kk / 2 < 2 ^ n') := Lib.hid (by rw [Nat.pow_succ] at hlt; omega)
        have heq' : tms n' (kk / 2) (if kk % 2 = 1 then fm oo ox else oo) (fm ox ox) = tot := by rw [← heq, tms, if_neg (c := kk = 0) (by omega)]
        have hX : FV X ox := by rcases hX with h | h; omega; exact h
        have HX := Lib.hid hX
        by_cases hodd : kk % 2 = 1
        · rw [if_pos hodd] at heq'
          have HQ := Lib.hid heq'
          have hodd' : ((kk : Int) % 2 == 1) = true := by simp; omega
          obtain ⟨z, q, hop, hz⟩ := mul_any Try.prog (w.drewN m) hO hX
          have HZ := Lib.hid hz
          by_cases h1 : kk = 1
          · subst h1
            clear heq heq' hodd hX hO hz hlt hnn hlt'
            go_wp2
            go_roundw
            case rel => exact ⟨n', 0, X, z, _, _, _, rfl, rfl, rfl, .inl rfl, HZ.out, Nat.two_pow_pos _, by decide, HQ.out, rfl⟩
            case measure => simp [intOf]
          · obtain ⟨x2, q2, hop2, hx2⟩ := mul_any Try.prog (w.drewN (m + q)) hX hX
            have HX2 := Lib.hid hx2
            have h1' : 1 < kk := by omega
            clear heq heq' hodd hX hO hz hx2 hlt hnn h1
            go_wp2
            go_roundw
            case rel => exact ⟨n', kk / 2, x2, z, _, _, _, by go_num, rfl, rfl, .inr HX2.out, HZ.out, hlt'.out, by omega, HQ.out, rfl⟩
            case measure => simp [intOf]; omega
        · rw [if_neg hodd] at heq'
          have HQ := Lib.hid heq'
          have hodd' : ((kk : Int) % 2 == 1) = false := by simp; omega
          have HO := Lib.hid hO
          have h1' : 1 < kk := by omega
          obtain ⟨x2, q2, hop2, hx2⟩ := mul_any Try.prog (w.drewN m) hX hX
          have HX2 := Lib.hid hx2
          clear heq heq' hodd hX hO hx2 hlt hnn
          go_wp2
          go_roundw
          case rel => exact ⟨n', kk / 2, x2, O, _, _, _, by go_num, rfl, rfl, .inr HX2.out, HO.out, hlt'.out, by omega, HQ.out, rfl⟩
          case measure => simp [intOf]; omega
end Go.Proofs.Ytlgdkpiaibhpjaa

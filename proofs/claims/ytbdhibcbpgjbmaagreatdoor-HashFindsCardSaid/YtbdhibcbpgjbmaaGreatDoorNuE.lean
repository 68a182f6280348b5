/- Package num, walked: powers. -/
import Derived.Test.YtbdhibcbpgjbmaaGreatDoorNuD
import Derived.Deep.Draws
import Derived.LoopTactic
import Derived.Below
namespace Go.Proofs.YtbdhibcbpgjbmaaGreatDoor
set_option maxRecDepth 100000
open Go.RowKit Fl
set_option linter.unusedVariables false
theorem wh_wf {x : Nat} {n : Int} (h : Wh x n) : (Lit.int .i64 n).wf = true := by
  have hm : IntKind.i64.min = -9223372036854775808 ∧ IntKind.i64.max = 9223372036854775807 := by decide
  have := h.2.1
  simp only [Lit.wf, decide_eq_true_eq, Bool.and_eq_true]
  rw [hm.1, hm.2]; omega
/-- A word that is what it is said to be, or no number at all. -/
def FV (v : Nat) (o : Option Nat) : Prop := v < 18446744073709551616 ∧ ((o = some v) ∨ (o = none ∧ ∃ s t, Ieee.double.read v = .nan s t))
/-- A product, where there is one. -/
def fm (a b : Option Nat) : Option Nat := a.bind fun x => b.bind fun y => Ieee.double.mul x y
theorem mul_nan {x y : Nat} (h : (∃ s t, Ieee.double.read x = .nan s t) ∨ ∃ s t, Ieee.double.read y = .nan s t) : Ieee.double.mul x y = none := by
  unfold Ieee.Format.mul
  rcases h with ⟨s, t, h⟩ | ⟨s, t, h⟩ <;> rw [h]
  · rfl
  · cases Ieee.double.read x <;> rfl
theorem read_nan (s : Bool) (r : Nat) (h1 : 9218868437227405312 < r) (h2 : r < 9223372036854775808) : ∃ s' t, Ieee.double.read (Ieee.double.word s r) = .nan s' t := by
  have h := word_sg s r h2
  have hn : ¬ Fnt (Ieee.double.word s r) := fun e => by have := e.2; rw [h.2.1] at this; omega
  rcases read_non h.1 hn with ⟨s', _, e⟩ | h'
  · have : Ieee.double.word s r % 9223372036854775808 = 9218868437227405312 := by rw [e]; cases s' <;> decide
    rw [h.2.1] at this; omega
  · exact h'
theorem mul_any (P : Program) (w : World) {v1 v2 : Nat} {o1 o2 : Option Nat} (h1 : FV v1 o1) (h2 : FV v2 o2) :
    ∃ z q, (∀ t, (binOp .mul t (.float .f64 v1) (.float .f64 v2)).run P w = .ok (.float .f64 z) (w.drewN q)) ∧ FV z (fm o1 o2) := by
  have hm : fm o1 o2 = Ieee.double.mul v1 v2 := by
    rcases h1.2 with rfl | ⟨rfl, hn⟩
    · rcases h2.2 with rfl | ⟨rfl, hn⟩
      · rfl
      · rw [mul_nan (.inr hn)]; rfl
    · rw [mul_nan (.inl hn)]; rfl
  cases hz : Ieee.double.mul v1 v2 with
  | some z =>
    refine ⟨z, 0, fun t => run_float_arith w .mul t .f64 v1 v2 z hz, bits_lt (op := .mul) hz, .inl ?_⟩
    rw [hm, hz]
  | none =>
    have hr : ∀ t, (binOp .mul t (.float .f64 v1) (.float .f64 v2)).run P w = .ok (.float .f64 ((Question.nanBits .f64 v1 v2).cut (w.tape w.drawn (.nanBits .f64 v1 v2)))) (w.drewN 1) := by
      intro t
      have hz' : FloatKind.f64.format.mul v1 v2 = none := hz
      simp [binOp, Op.floatArith, hz', choose, Sem.run, Question.forced]
      rfl
    refine ⟨_, 1, hr, ?_⟩
    generalize w.tape w.drawn (.nanBits .f64 v1 v2) = t
    have e : ∃ s r, (Question.nanBits .f64 v1 v2).cut t = Ieee.double.word s r ∧ 9218868437227405312 < r ∧ r < 9223372036854775808 := by
      show ∃ s r, (t % 2) * 2 ^ 63 + 0x7ff0000000000000 + 1 + (t / 2) % (2 ^ 52 - 1) = Ieee.double.word s r ∧ _
      refine ⟨t % 2 == 1, 9218868437227405312 + 1 + (t / 2) % 4503599627370495, ?_, by omega, by omega⟩
      unfold Ieee.Format.word
      rw [dbl_sw]
      rcases Nat.mod_two_eq_zero_or_one t with h | h <;> simp [h] <;> omega
    obtain ⟨s, r, e, r1, r2⟩ := e
    rw [e]
    exact ⟨(word_sg s r r2).1, .inr ⟨by rw [hm, hz], read_nan s r r1 r2⟩⟩
/-- 1 multiplied with a number, so often. -/
def tms : Nat → Nat → Option Nat → Option Nat → Option Nat
  | 0, _, o, _ => o
  | n + 1, k, o, x => if k = 0 then o else tms n (k / 2) (if k % 2 = 1 then fm o x else o) (fm x x)
theorem tms_zero (n : Nat) (o x : Option Nat) : tms n 0 o x = o := by cases n <;> rfl
theorem one_fv : FV 4607182418800017408 (some 4607182418800017408) := ⟨by decide, .inl rfl⟩
def Tmd (tot : Option Nat) (w : World) (e : Ending) (w' : World) : Prop := ∃ v m, e = .returned (.float .f64 v) ∧ FV v tot ∧ w' = w.drewN m
/-- A number multiplied with itself, told with an error. -/
def pwr (a : Nat) (n : Int) : Nat × Int :=
  match tms 10 n.natAbs (some 4607182418800017408) (some a) with
  | none => (0, 24)
  | some z => if 0 ≤ n then rs z else if z % 9223372036854775808 < 9218868437227405312 ∧ V z ≠ 0 then rs ((Ieee.double.div 4607182418800017408 z).getD 0) else (0, 24)
def Pwd (r : Nat × Int) (w : World) (e : Ending) (w' : World) : Prop := e = .returned (.tuple #[.float .f64 r.1, .int .i64 r.2]) ∧ ∃ m, w' = w.drewN m
theorem ret_p {r : Nat × Int} {a : Nat} {i : Int} (h : r = (a, i)) : Ending.returned (.tuple #[.float .f64 a, .int .i64 i]) = .returned (.tuple #[.float .f64 r.1, .int .i64 r.2]) := by rw [h]
theorem pwr_none {a : Nat} {n : Int} (h : tms 10 n.natAbs (some 4607182418800017408) (some a) = none) : pwr a n = (0, 24) := by unfold pwr; rw [h]
theorem pwr_up {a z : Nat} {n : Int} (h : tms 10 n.natAbs (some 4607182418800017408) (some a) = some z) (hn : 0 ≤ n) : pwr a n = rs z := by unfold pwr; rw [h]; exact if_pos hn
theorem pwr_down {a z y : Nat} {n : Int} (h : tms 10 n.natAbs (some 4607182418800017408) (some a) = some z) (hn : n < 0) (hz : Fnt z) (h0 : V z ≠ 0) (hy : Ieee.double.div 4607182418800017408 z = some y) : pwr a n = rs y := by
  unfold pwr; rw [h]
  show (if 0 ≤ n then rs z else _) = _
  rw [if_neg (by omega), if_pos ⟨hz.2, h0⟩, hy, Option.getD_some]
theorem pwr_off {a z : Nat} {n : Int} (h : tms 10 n.natAbs (some 4607182418800017408) (some a) = some z) (hn : n < 0) (hz : ¬ (Fnt z ∧ V z ≠ 0)) (hb : z < 18446744073709551616) : pwr a n = (0, 24) := by
  unfold pwr; rw [h]
  show (if 0 ≤ n then rs z else _) = _
  rw [if_neg (by omega), if_neg (fun e => hz ⟨⟨hb, e.1⟩, e.2⟩)]
theorem nan_not {v : Nat} (h : ∃ s t, Ieee.double.read v = .nan s t) : ¬ Fnt v := by
  intro hf
  obtain ⟨m, k, h1, _⟩ := read_fin hf
  obtain ⟨s, t, h2⟩ := h
  rw [h1] at h2; cases h2
theorem n1023_fin : Fnt 4652209618980700160 ∧ Fnt 13875581655835475968 := ⟨⟨by decide, by decide⟩, ⟨by decide, by decide⟩⟩
theorem V_1023 : V 4652209618980700160 = 1023 * pw 1074 := by
  have h := ofInt_val 1023 (by decide)
  rw [show floatOfInt .f64 1023 = 4652209618980700160 by kernel_rfl] at h; exact h
theorem V_m1023 : V 13875581655835475968 = -1023 * pw 1074 := by
  have h := ofInt_val (-1023) (by decide)
  rw [show floatOfInt .f64 (-1023) = 13875581655835475968 by kernel_rfl] at h; exact h
theorem wh_lt {b : Nat} {n m : Int} {c : Nat} (h : Wh b n) (hc : Fnt c) (hv : V c = m * pw 1074) : (n < m → FloatKind.f64.format.order b c = some .lt) ∧ (n = m → FloatKind.f64.format.order b c = some .eq) ∧ (m < n → FloatKind.f64.format.order b c = some .gt) := by
  have hp : (0 : Int) < pw 1074 := by exact_mod_cast pw_pos 1074
  refine ⟨fun e => ord_lt h.1 hc ?_, fun e => ord_eq h.1 hc ?_, fun e => ord_gt h.1 hc ?_⟩ <;> rw [h.2.2, hv]
  · exact Int.mul_lt_mul_of_pos_right e hp
  · rw [e]
  · exact Int.mul_lt_mul_of_pos_right e hp
end Go.Proofs.YtbdhibcbpgjbmaaGreatDoor

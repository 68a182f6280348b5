/- Package num, walked: rests. -/
import Derived.Test.YtlgdkpiaibhpjaaNuC
namespace Go.Proofs.Ytlgdkpiaibhpjaa
open Go.RowKit Fl
set_option linter.unusedVariables false
/-- What is left of b by a: 0, or of the sign of a. -/
def rst (a b : Int) : Int := if a = 0 then b else if b.tmod a ≠ 0 ∧ (b.tmod a < 0 ↔ ¬ a < 0) then b.tmod a + a else b.tmod a
theorem tmod_bounds {a b : Int} (ha : a ≠ 0) : (b.tmod a).natAbs < a.natAbs := by
  have h : b.tmod a = b.tmod (a.natAbs : Int) := by
    rcases Int.lt_or_le a 0 with h | h
    · rw [show ((a.natAbs : Nat) : Int) = -a by omega, Int.tmod_neg]
    · rw [show ((a.natAbs : Nat) : Int) = a by omega]
  have h1 := Int.tmod_lt_of_pos b (b := (a.natAbs : Int)) (by omega)
  have h2 := Int.lt_tmod_of_pos b (b := (a.natAbs : Int)) (by omega)
  rw [← h] at h1 h2
  omega
theorem tdiv_bounds {a b : Int} (h1 : -9223372036854775808 ≤ b) (h2 : b ≤ 9223372036854775807) (ha : a ≠ 0) (hm : a ≠ -1) : -9223372036854775808 ≤ b.tdiv a ∧ b.tdiv a ≤ 9223372036854775807 := by
  have h3 : (b.tdiv a).natAbs = b.natAbs / a.natAbs := Int.natAbs_tdiv b a
  have h4 := Nat.div_le_self b.natAbs a.natAbs
  rcases Int.lt_or_le a 0 with h | h
  · have h5 : b.natAbs / a.natAbs ≤ b.natAbs / 2 := Nat.div_le_div_left (by omega) (by decide)
    omega
  · rcases Int.lt_or_le b 0 with g | g
    · have : b.tdiv a ≤ 0 := by
        obtain ⟨m, rfl⟩ : ∃ m : Nat, b = -(m : Int) := ⟨b.natAbs, by omega⟩
        rw [Int.neg_tdiv]
        have := Int.tdiv_nonneg (a := (m : Int)) (b := a) (by omega) h
        omega
      omega
    · have := Int.tdiv_nonneg (a := b) (b := a) g h
      omega
theorem wf_i64 {a : Int} (h : (Lit.int .i64 a).wf = true) : -9223372036854775808 ≤ a ∧ a ≤ 9223372036854775807 := by
  have hm : IntKind.i64.min = -9223372036854775808 ∧ IntKind.i64.max = 9223372036854775807 := by decide
  simp only [Lit.wf, decide_eq_true_eq, Bool.and_eq_true] at h
  rw [hm.1, hm.2] at h; exact h
set_option maxHeartbeats 1000000 in
theorem restint_calls (a b : Int) (w : World) (ha : (Lit.int .i64 a).wf = true) (hb : (Lit.int .i64 b).wf = true) : Calls Try.prog 36 #[.int .i64 a, .int .i64 b] w fun e w' => e = .returned (.int .i64 (rst a b)) ∧ w = w' := by
  obtain ⟨a1, a2⟩ := wf_i64 ha
  obtain ⟨b1, b2⟩ := wf_i64 hb
  clear ha hb
  by_cases h0 : a = 0
  · subst h0
    have HR := Lib.hid (show b = rst 0 b from (if_pos rfl).symm)
    go_enter Try.func36, Try.ntmps36
    go_wp2
    go_ret
    exact ⟨ret_i HR.out, rfl⟩
  have hz : ((a : Int) == 0) = false := by simpa using h0
  have hbd := tmod_bounds (b := b) h0
  have hdef : rst a b = if b.tmod a ≠ 0 ∧ (b.tmod a < 0 ↔ ¬ a < 0) then b.tmod a + a else b.tmod a := if_neg h0
  obtain ⟨r, hr⟩ : ∃ r, b.tmod a = r := ⟨_, rfl⟩
  rw [hr] at hbd hdef
  have hw : wrap64 (r + a) = r + a ∨ ¬ (r < 0 ↔ ¬ a < 0) := by
    by_cases h : (r < 0 ↔ ¬ a < 0)
    · exact .inl (IntWalk.wrap64_in _ (by omega))
    · exact .inr h
  have HD := Lib.hid hdef
  clear hdef
  rcases Int.lt_trichotomy r 0 with r0 | r0 | r0 <;> rcases Int.lt_trichotomy a 0 with s0 | s0 | s0 <;> try omega
  all_goals
    rcases hw with hw | hw <;> try omega
    try have hz1 : ((r : Int) != 0) = true := by simp; omega
    go_enter Try.func36, Try.ntmps36
    go_wp2
    all_goals
      go_ret
      exact ⟨ret_i (by rw [HD.out]; split <;> first | rfl | omega | (exfalso; simp_all <;> omega)), rfl⟩
set_option maxHeartbeats 1000000 in
theorem rrest_calls (a b : Int) (w : World) (ha : (Lit.int .i64 a).wf = true) (hb : (Lit.int .i64 b).wf = true) : Calls Try.prog 37 #[.int .i64 a, .int .i64 b] w fun e w' => e = .returned (.int .i64 (rst a b)) ∧ w = w' := by
  obtain ⟨a1, a2⟩ := wf_i64 ha
  obtain ⟨b1, b2⟩ := wf_i64 hb
  clear ha hb
  by_cases h0 : a = 0
  · subst h0
    have HR := Lib.hid (show b = rst 0 b from (if_pos rfl).symm)
    go_enter Try.func37, Try.ntmps37
    go_wp2
    go_ret
    exact ⟨ret_i HR.out, rfl⟩
  by_cases h1 : a = -1
  · subst h1
    have HR := Lib.hid (show 0 = rst (-1) b from by
      have hbd := tmod_bounds (a := -1) (b := b) (by decide)
      have h2 : b.tmod (-1) = 0 := by omega
      unfold rst
      rw [if_neg (by decide), h2]; simp)
    go_enter Try.func37, Try.ntmps37
    go_wp2
    go_ret
    exact ⟨ret_i HR.out, rfl⟩
  have hz : ((a : Int) == 0) = false := by simpa using h0
  have hz' : ((a : Int) == -1) = false := by simpa using h1
  have hbd := tmod_bounds (b := b) h0
  have hq := tdiv_bounds b1 b2 h0 h1
  have hqm := Int.mul_tdiv_add_tmod b a
  have hdef : rst a b = if b.tmod a ≠ 0 ∧ (b.tmod a < 0 ↔ ¬ a < 0) then b.tmod a + a else b.tmod a := if_neg h0
  have hsn : (0 ≤ b → 0 ≤ b.tmod a) ∧ (b ≤ 0 → b.tmod a ≤ 0) := by
    constructor
    · intro h; exact Int.tmod_nonneg a h
    · intro h
      have := Int.tmod_nonneg a (show 0 ≤ -b by omega)
      rw [Int.neg_tmod] at this; omega
  have hle : (b.tmod a).natAbs ≤ b.natAbs := by
    rw [Int.natAbs_tmod]; exact Nat.mod_le _ _
  obtain ⟨r, hr⟩ : ∃ r, b.tmod a = r := ⟨_, rfl⟩
  rw [hr] at hbd hdef hqm hsn hle
  rw [Int.mul_comm] at hqm
  obtain ⟨q, hq'⟩ : ∃ q, b.tdiv a = q := ⟨_, rfl⟩
  rw [hq'] at hq hqm
  obtain ⟨m, hm⟩ : ∃ m, q * a = m := ⟨_, rfl⟩
  rw [hm] at hqm
  have e1 : wrap64 q = q := IntWalk.wrap64_in _ (by omega)
  have e2 : wrap64 m = m := IntWalk.wrap64_in _ (by omega)
  have e3 : wrap64 (b - m) = r := by rw [show b - m = r by omega]; exact IntWalk.wrap64_in _ (by omega)
  have hw : wrap64 (r + a) = r + a ∨ ¬ (r < 0 ↔ ¬ a < 0) := by
    by_cases h : (r < 0 ↔ ¬ a < 0)
    · exact .inl (IntWalk.wrap64_in _ (by omega))
    · exact .inr h
  have HD := Lib.hid hdef
  clear hdef hqm hr hsn hle
  rcases Int.lt_trichotomy r 0 with r0 | r0 | r0 <;> rcases Int.lt_trichotomy a 0 with s0 | s0 | s0 <;> try omega
  all_goals
    rcases hw with hw | hw <;> try omega
    go_enter Try.func37, Try.ntmps37
    go_wp2
    all_goals
      go_ret
      exact ⟨ret_i (by rw [HD.out]; split <;> first | rfl | omega | (exfalso; simp_all <;> omega)), rfl⟩
end Go.Proofs.Ytlgdkpiaibhpjaa

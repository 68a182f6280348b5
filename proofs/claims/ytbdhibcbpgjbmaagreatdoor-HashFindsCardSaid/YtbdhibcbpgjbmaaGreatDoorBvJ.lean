/- Package bitvec: Rank, Count, First. -/
import Derived.Test.YtbdhibcbpgjbmaaGreatDoorBvB
namespace Go.Proofs.YtbdhibcbpgjbmaaGreatDoor
set_option maxRecDepth 100000
open Go.RowKit
set_option linter.unusedVariables false

theorem cnt_word (F : Nat → Bool) (q : Nat) : cnt (bw F q).testBit 64 = cnt (fun t => F (64 * q + t)) 64 :=
 cnt_congr _ fun k hk => by rw [testBit_bw, decide_eq_true hk, Bool.true_and]
theorem cnt_step (F : Nat → Bool) (q : Nat) : cnt F (64 * (q + 1)) = cnt F (64 * q) + cnt (bw F q).testBit 64 := by
 rw [cnt_word, Nat.mul_succ, cnt_add]
theorem cnt_zero (F : Nat → Bool) (n : Nat) (h : ∀ k, k < n → F k = false) : cnt F n = 0 := by
 rw [cnt_congr (G := fun _ => false) n h]
 induction n with
 | zero => rfl
 | succ n ih => rw [cnt, ih (fun k hk => h k (by omega))]; rfl
theorem cnt_low (F : Nat → Bool) (q r : Nat) (hr : r < 64) : cnt (bw F q &&& (2 ^ r - 1)).testBit 64 = cnt (fun t => F (64 * q + t)) r := by
 have h1 : cnt (bw F q &&& (2 ^ r - 1)).testBit 64 = cnt (bw F q &&& (2 ^ r - 1)).testBit (r + (64 - r)) := by rw [show r + (64 - r) = 64 by omega]
 rw [h1, cnt_add]
 rw [cnt_zero _ (64 - r) (fun k hk => by rw [Nat.testBit_and, Nat.testBit_two_pow_sub_one]; simp), Nat.add_zero]
 exact cnt_congr _ fun k hk => by rw [Nat.testBit_and, Nat.testBit_two_pow_sub_one, testBit_bw]; simp [hk]; omega
theorem rank_split (F : Nat → Bool) (m q r : Nat) (h : m = 64 * q + r) : cnt F m = cnt F (64 * q) + cnt (fun t => F (64 * q + t)) r := by subst h; exact cnt_add F (64 * q) r

set_option maxHeartbeats 1000000 in
theorem rank_calls (v : Value) (l : List Bool) (a : Int) (m : Nat) (hm : min (max a 0) l.length = (m : Int)) (w : World) (hv : IsBits w v l) (hl : l.length ≤ 1048576) :
  Calls Tryz.prog 147 #[v, .int .i64 a] w fun e w' => e = .returned (.int .i64 (cnt (sq l) m : Nat)) ∧ Below w.heap.size w w' := by
 obtain ⟨ao, cap, rfl, hcells⟩ := hv.opened
 obtain ⟨L, hL⟩ : ∃ L, (l.length + 63) / 64 = L := ⟨_, rfl⟩
 rw [hL] at hcells ⊢
 have hml : m ≤ l.length := by omega
 obtain ⟨q, hq⟩ : ∃ q : Nat, (m : Int) / 64 = (q : Int) := ⟨m / 64, by omega⟩
 obtain ⟨r, hr⟩ : ∃ r : Nat, (m : Int) % 64 = (r : Int) := ⟨m % 64, by omega⟩
 have hr64 : r < 64 := by omega
 have hqL : q ≤ L := by omega
 have hq2 : q ≤ 16384 := by omega
 have HQL := Lib.hid (show 0 < r → q < L by omega)
 have HM := Lib.hid hm
 have HE := Lib.hid (rank_split (sq l) m q r (by omega))
 obtain ⟨W0, hW0⟩ : ∃ W0, W0 = w.alloc (.cells #[.int .i64 l.length, .slice ao L cap] 81) := ⟨_, rfl⟩
 have hP0 : Hid (At2 W0 w.heap.size (.int .i64 l.length) (.slice ao L cap)) := Lib.hid (by rw [hW0]; exact At2.new _ _ _ _)
 have HW : Hid (Below w.heap.size w W0) := Lib.hid (by rw [hW0]; exact (Below.refl _ _).alloc (Nat.le_refl _) _)
 have HC : Hid (∀ i, i < L → ∃ b off, ao = some ⟨b, off, none⟩ ∧ W0.cell? ⟨b, off + i, none⟩ = some (.int .u64 (bw (sq l) i : Nat))) := Lib.hid (fun i hi => by
  obtain ⟨b, off, e, hc⟩ := hcells i hi
  exact ⟨b, off, e, keep_below HW.out _ _ hc⟩)
 clear hcells hv hm hL
 go_enter Tryz.func147, Tryz.ntmps147
 go_wp2_with (go_at_call 123; refine (clamp_nat _ _ m HM.out _).mono ?_; rintro e w' ⟨rfl, rfl⟩)
 rw [← hW0]
 try simp only [hq]
 clear hW0
 go_loop [5, 14] (fun c i => ∃ k : Nat, k ≤ q ∧ i = .int .i64 k ∧ c = .int .i64 (cnt (sq l) (64 * k) : Nat)) (fun _ i => q - (intOf i).toNat)
 case atStart => exact ⟨0, by omega, rfl, rfl⟩
 case round =>
  obtain ⟨k, hk, rfl, rfl⟩ := hrel
  obtain ⟨pl, p0, p1, pf⟩ := hP0.out
  clear pf
  have hcnt := cnt_le (sq l) (64 * k)
  by_cases hlt : k < q
  ·obtain ⟨b, off, rfl, hcl⟩ := HC.out k (by omega)
   have hbw := bw_lt (sq l) k
   have hc2 := cnt_le (bw (sq l) k).testBit 64
   have HS := Lib.hid (cnt_step (sq l) k)
   go_wp2_with (go_at_call 150; refine (onesCount_calls _ ?_ _).mono ?_; exact hbw; rintro e w' ⟨rfl, rfl⟩)
   go_round
   case rel => exact ⟨k + 1, by omega, by go_num, by rw [HS.out]; go_num⟩
   case measure => simp [intOf]; omega
  ·have hkq : k = q := by omega
   have hcq : cnt (sq l) (64 * k) = cnt (sq l) (64 * q) := by rw [hkq]
   have HCQ := Lib.hid hcq; clear hkq hcq
   rcases Nat.eq_zero_or_pos r with hr0 | hr0
   ·have hr' : (m : Int) % 64 = 0 := by omega
    have HE0 := Lib.hid (show cnt (sq l) m = cnt (sq l) (64 * k) by rw [HE.out, hr0, HCQ.out]; rfl)
    clear hr hr0
    go_wp2
    go_ret
    exact ⟨ret_i (by rw [HE0.out]), HW.out⟩
   ·obtain ⟨b, off, rfl, hcl⟩ := HC.out q (HQL.out hr0)
    have HA0 := (u64_and_nat (bw (sq l) q) (2 ^ r - 1) (bw_lt _ _) (Nat.lt_of_lt_of_le (Nat.sub_lt (Nat.two_pow_pos _) (by decide)) (show 2 ^ r ≤ 2 ^ 64 from Nat.pow_le_pow_right (by decide) (by omega))))
    rw [Nat.and_two_pow_sub_one_eq_mod] at HA0
    have HA := Lib.hid HA0; clear HA0
    have hLo0 := cnt_low (sq l) q r hr64
    rw [Nat.and_two_pow_sub_one_eq_mod] at hLo0
    have HLo := Lib.hid hLo0; clear hLo0
    have hlt2 : bw (sq l) q % 2 ^ r < 18446744073709551616 := Nat.lt_of_le_of_lt (Nat.mod_le _ _) (bw_lt _ _)
    have hc3 := cnt_le (bw (sq l) q % 2 ^ r).testBit 64
    have hqL' : q < L := HQL.out hr0
    have q1 : IntKind.i64.wrap (q : Int) = q := IntWalk.i64_in _ (by omega)
    have q2 : IntKind.i64.wrap ((cnt (sq l) (64 * k) : Int) + (cnt (bw (sq l) q % 2 ^ r).testBit 64 : Int)) = (cnt (sq l) (64 * k) : Int) + (cnt (bw (sq l) q % 2 ^ r).testBit 64 : Int) := IntWalk.i64_in _ (by omega)
    go_wp2
    go_quiet ((first | (go_at_call 142; exact Calls.quiet_of_same (stl (low_nat r hr64 _))) | (go_at_call 150; rw [HA.out]; exact Calls.quiet_of_same (stl (onesCount_calls _ hlt2 _)))))
    go_wp2
    go_ret
    exact ⟨ret_i (by rw [HE.out, ← HCQ.out, ← HLo.out]; omega), Below.drewN' HW.out _⟩

set_option maxHeartbeats 1000000 in
theorem count_calls (v : Value) (l : List Bool) (w : World) (hv : IsBits w v l) (hl : l.length ≤ 1048576) :
  Calls Tryz.prog 134 #[v] w fun e w' => e = .returned (.int .i64 (cnt (sq l) l.length : Nat)) ∧ Below w.heap.size w w' := by
 have HV := Lib.hid hv
 obtain ⟨ao, cap, rfl, hcells⟩ := hv.opened
 clear hv hcells
 go_enter Tryz.func134, Tryz.ntmps134
 go_wp2_with fail
 refine (rank_calls _ l _ l.length (by omega) _ (HV.out.keep (keep_alloc _ _)) hl).mono ?_
 rintro e w1 ⟨rfl, hB⟩
 have HB := Lib.hid (((Below.refl w.heap.size w).alloc (Nat.le_refl _) (.cells #[.int .i64 l.length, .slice ao ((l.length + 63) / 64) cap] 81)).trans (hB.mono (by simp)))
 clear hB
 go_wp2
 go_ret
 exact ⟨rfl, HB.out⟩

/-- The first place that is true. -/
def firstOf (l : List Bool) : Nat := ((List.range l.length).filter (sq l)).head?.getD l.length
theorem filter_none (F : Nat → Bool) (n : Nat) (h : ∀ k, k < n → F k = false) : (List.range n).filter F = [] := by
 rw [List.filter_eq_nil_iff]; intro a ha; rw [h a (List.mem_range.1 ha)]; simp
theorem firstOf_none (l : List Bool) (h : ∀ k, k < l.length → sq l k = false) : firstOf l = l.length := by
 rw [firstOf, filter_none _ _ h]; rfl
theorem firstOf_at (l : List Bool) (m : Nat) (hm : m < l.length) (h : ∀ k, k < m → sq l k = false) (hb : sq l m = true) : firstOf l = m := by
 have e : List.range l.length = List.range m ++ (List.range (l.length - m)).map (m + ·) := by
  rw [show l.length = m + (l.length - m) by omega, List.range_add]; simp
 obtain ⟨d, hd⟩ : ∃ d, l.length - m = d + 1 := ⟨l.length - m - 1, by omega⟩
 rw [firstOf, e, List.filter_append, filter_none _ _ h, hd, List.range_succ_eq_map]
 simp [hb]
theorem ctz_spec (x : Nat) (h0 : x ≠ 0) (h : x < 18446744073709551616) : Lib.ctz 64 x < 64 ∧ x.testBit (Lib.ctz 64 x) = true ∧ (∀ j, j < Lib.ctz 64 x → x.testBit j = false) ∧ ∀ j, (x &&& (x - 1)).testBit j = (x.testBit j && decide (Lib.ctz 64 x < j)) := by
 obtain ⟨m, hm, hk⟩ := Lib.ctzFrom_spec 64 x (by omega) h
 have e : Lib.ctz 64 x = Lib.ctzFrom 64 x := by simp [Lib.ctz, h0]
 rw [e]
 generalize Lib.ctzFrom 64 x = t at *
 have ht (j : Nat) : x.testBit j = (decide (t ≤ j) && (2 * m + 1).testBit (j - t)) := by rw [hm, Nat.testBit_two_pow_mul]
 have hx1 : x - 1 = 2 ^ t * (2 * m) + (2 ^ t - 1) := by
  have := Nat.two_pow_pos t
  rw [hm, Nat.mul_add, Nat.mul_one]; omega
 have ht1 (j : Nat) : (x - 1).testBit j = if j < t then true else (2 * m).testBit (j - t) := by
  rw [hx1, Nat.testBit_two_pow_mul_add (2 * m) (b := 2 ^ t - 1) (by have := Nat.two_pow_pos t; omega), Nat.testBit_two_pow_sub_one]
  split <;> rename_i h <;> simp [h]
 refine ⟨hk, ?_, fun j hj => ?_, fun j => ?_⟩
 ·rw [ht]; simp [Nat.testBit_zero]
 ·rw [ht]; simp; omega
 ·rw [Nat.testBit_and, ht1, ht]
  by_cases h1 : j < t
  ·simp [h1, show ¬ t ≤ j by omega]
  ·by_cases h2 : j = t
   ·subst h2; simp [Nat.testBit_zero]
   ·obtain ⟨i, hi⟩ : ∃ i, j - t = i + 1 := ⟨j - t - 1, by omega⟩
    rw [if_neg h1, hi, Nat.testBit_succ, Nat.testBit_succ]
    simp only [show (2 * m + 1) / 2 = m by omega, show 2 * m / 2 = m by omega, decide_eq_true (show t ≤ j by omega), decide_eq_true (show t < j by omega)]
    cases m.testBit i <;> rfl

end Go.Proofs.YtbdhibcbpgjbmaaGreatDoor

/- Two slices compared: slices.Equal, the references' Bools, Nums, Ints; bitvec.Equal. -/
import Derived.Test.YtbdhibcbpgjbmaaGreatDoorBvB
namespace Go.Proofs.YtbdhibcbpgjbmaaGreatDoor
set_option maxRecDepth 100000
open Go.RowKit
set_option linter.unusedVariables false

theorem take_step {α : Type} {xs ys : List α} {k : Nat} (h1 : k < xs.length) (h2 : k < ys.length) (h : xs.take k = ys.take k) (e : xs[k] = ys[k]) : xs.take (k + 1) = ys.take (k + 1) := by
 rw [List.take_succ_eq_append_getElem h1, List.take_succ_eq_append_getElem h2, h, e]
theorem ne_at {α : Type} [BEq α] [LawfulBEq α] {xs ys : List α} {k : Nat} (h1 : k < xs.length) (h2 : k < ys.length) (e : xs[k] ≠ ys[k]) : (xs == ys) = false := by
 rw [beq_eq_false_iff_ne]; intro h; subst h; exact e rfl
theorem ne_len {α : Type} [BEq α] [LawfulBEq α] {xs ys : List α} (e : xs.length ≠ ys.length) : (xs == ys) = false := by
 rw [beq_eq_false_iff_ne]; intro h; subst h; exact e rfl
theorem eq_all {α : Type} [BEq α] [LawfulBEq α] {xs ys : List α} {k : Nat} (h1 : xs.length ≤ k) (h2 : ys.length ≤ k) (h : xs.take k = ys.take k) : (xs == ys) = true := by
 rw [List.take_of_length_le h1, List.take_of_length_le h2] at h; simp [h]

set_option maxHeartbeats 1000000 in
theorem bools_calls (v1 v2 : Value) (xs ys : List Bool) (w : World) (h1 : Sl w v1 xs.length (bools xs)) (h2 : Sl w v2 ys.length (bools ys)) (hm : xs.length ≤ maxLen) :
  Calls Tryz.prog 13 #[v1, v2] w fun e w' => e = .returned (.bool (xs == ys)) ∧ Below w.heap.size w w' := by
 unfold maxLen at hm
 obtain ⟨_, ao, cap, rfl, hc1⟩ := h1
 obtain ⟨_, ao2, cap2, rfl, hc2⟩ := h2
 have HC1 := Lib.hid hc1; have HC2 := Lib.hid hc2; clear hc1 hc2
 by_cases hlen : xs.length = ys.length
 ·obtain ⟨n, hn⟩ : ∃ n, n = xs.length := ⟨_, rfl⟩
  have hn2 : ys.length = n := by omega
  rw [hn2, ← hn]
  rw [← hn] at hm
  have HN := Lib.hid hn; have HN2 := Lib.hid hn2
  have hb : ((n : Int) != (n : Int)) = false := by simp
  clear hn hn2 hlen
  go_enter Tryz.func13, Tryz.ntmps13
  go_wp2
  go_loopw [5] (fun i wr => ∃ k q : Nat, k ≤ n ∧ i = .int .i64 k ∧ wr = w.drewN q ∧ xs.take k = ys.take k) (fun i _ => n - (intOf i).toNat)
  case atStart => exact ⟨0, 0, by omega, rfl, rfl, rfl⟩
  case round =>
   obtain ⟨k, q, hk, rfl, rfl, htk⟩ := hrel
   have HT := Lib.hid htk; clear htk
   by_cases hlt : k < n
   ·have hx : k < xs.length := by have := HN.out; omega
    have hy : k < ys.length := by have := HN2.out; omega
    obtain ⟨b, off, rfl, hcx⟩ := HC1.out k (by rw [bools_len]; exact hx)
    obtain ⟨b2, off2, rfl, hcy⟩ := HC2.out k (by rw [bools_len]; exact hy)
    rw [bools_get] at hcx hcy
    have HX := Lib.hid hx; have HY := Lib.hid hy
    have hi0 : (0 : Int) ≤ (k : Int) := by omega
    obtain ⟨bx, hbx⟩ : ∃ b : Bool, b = xs[k]'hx := ⟨_, rfl⟩
    obtain ⟨by', hby⟩ : ∃ b : Bool, b = ys[k]'hy := ⟨_, rfl⟩
    replace hcx : w.cell? ⟨b, off + k, none⟩ = some (.bool bx) := by rw [hbx]; exact hcx
    replace hcy : w.cell? ⟨b2, off2 + k, none⟩ = some (.bool by') := by rw [hby]; exact hcy
    replace hbx := hbx.symm
    replace hby := hby.symm
    cases bx <;> cases by'
    ·have HE := Lib.hid (hbx.trans hby.symm)
     clear hbx hby
     go_wp2
     go_quiet (fail)
     go_wp2
     go_roundw
     case rel => exact ⟨k + 1, q + nq, by omega, by go_num, by first | rfl | rw [World.drewN_drewN], take_step HX.out HY.out HT.out HE.out⟩
     case measure => simp [intOf]; omega
    ·have HE := Lib.hid (ne_at hx hy (by rw [hbx, hby]; simp))
     clear hbx hby
     go_wp2
     go_quiet (fail)
     go_wp2
     go_ret
     exact ⟨ret_b HE.out.symm, by first | exact Below.drewN' (Below.drewN' (Below.refl _ _) _) _ | exact Below.drewN' (Below.refl _ _) _⟩
    ·have HE := Lib.hid (ne_at hx hy (by rw [hbx, hby]; simp))
     clear hbx hby
     go_wp2
     go_quiet (fail)
     go_wp2
     go_ret
     exact ⟨ret_b HE.out.symm, by first | exact Below.drewN' (Below.drewN' (Below.refl _ _) _) _ | exact Below.drewN' (Below.refl _ _) _⟩
    ·have HE := Lib.hid (hbx.trans hby.symm)
     clear hbx hby
     go_wp2
     go_quiet (fail)
     go_wp2
     go_roundw
     case rel => exact ⟨k + 1, q + nq, by omega, by go_num, by first | rfl | rw [World.drewN_drewN], take_step HX.out HY.out HT.out HE.out⟩
     case measure => simp [intOf]; omega
   ·have hkn : k = n := by omega
    have HE := Lib.hid (eq_all (xs := xs) (ys := ys) (k := k) (by have := HN.out; omega) (by have := HN2.out; omega) HT.out)
    clear hkn
    go_wp2
    go_ret
    exact ⟨ret_b HE.out.symm, Below.drewN' (Below.refl _ _) _⟩
 ·have HE := Lib.hid (ne_len hlen)
  have hb : ((xs.length : Int) != (ys.length : Int)) = true := by simp; omega
  clear hlen
  go_enter Tryz.func13, Tryz.ntmps13
  go_wp2
  go_ret
  exact ⟨ret_b HE.out.symm, Below.refl _ _⟩

set_option maxHeartbeats 1000000 in
theorem ints_calls (v1 v2 : Value) (xs ys : List Int) (w : World) (h1 : Sl w v1 xs.length (ints xs)) (h2 : Sl w v2 ys.length (ints ys)) (hm : xs.length ≤ maxLen) :
  Calls Tryz.prog 11 #[v1, v2] w fun e w' => e = .returned (.bool (xs == ys)) ∧ Below w.heap.size w w' := by
 unfold maxLen at hm
 obtain ⟨_, ao, cap, rfl, hc1⟩ := h1
 obtain ⟨_, ao2, cap2, rfl, hc2⟩ := h2
 have HC1 := Lib.hid hc1; have HC2 := Lib.hid hc2; clear hc1 hc2
 by_cases hlen : xs.length = ys.length
 ·obtain ⟨n, hn⟩ : ∃ n, n = xs.length := ⟨_, rfl⟩
  have hn2 : ys.length = n := by omega
  rw [hn2, ← hn]
  rw [← hn] at hm
  have HN := Lib.hid hn; have HN2 := Lib.hid hn2
  have hb : ((n : Int) != (n : Int)) = false := by simp
  clear hn hn2 hlen
  go_enter Tryz.func11, Tryz.ntmps11
  go_wp2
  go_loopw [5] (fun i wr => ∃ k q : Nat, k ≤ n ∧ i = .int .i64 k ∧ wr = w.drewN q ∧ xs.take k = ys.take k) (fun i _ => n - (intOf i).toNat)
  case atStart => exact ⟨0, 0, by omega, rfl, rfl, rfl⟩
  case round =>
   obtain ⟨k, q, hk, rfl, rfl, htk⟩ := hrel
   have HT := Lib.hid htk; clear htk
   by_cases hlt : k < n
   ·have hx : k < xs.length := by have := HN.out; omega
    have hy : k < ys.length := by have := HN2.out; omega
    obtain ⟨b, off, rfl, hcx⟩ := HC1.out k (by rw [ints_len]; exact hx)
    obtain ⟨b2, off2, rfl, hcy⟩ := HC2.out k (by rw [ints_len]; exact hy)
    rw [ints_get] at hcx hcy
    have HX := Lib.hid hx; have HY := Lib.hid hy
    have hi0 : (0 : Int) ≤ (k : Int) := by omega
    by_cases he : xs[k] = ys[k]
    ·have HE := Lib.hid he
     have hne : (xs[k] != ys[k]) = false := by simp [he]
     clear he
     go_wp2
     go_quiet (fail)
     go_wp2
     go_roundw
     case rel => exact ⟨k + 1, q + nq, by omega, by go_num, by first | rfl | rw [World.drewN_drewN], take_step HX.out HY.out HT.out HE.out⟩
     case measure => simp [intOf]; omega
    ·have HE := Lib.hid (ne_at hx hy he)
     have hne : (xs[k] != ys[k]) = true := by simpa using he
     clear he
     go_wp2
     go_quiet (fail)
     go_wp2
     go_ret
     exact ⟨ret_b HE.out.symm, by first | exact Below.drewN' (Below.drewN' (Below.refl _ _) _) _ | exact Below.drewN' (Below.refl _ _) _⟩
   ·have hkn : k = n := by omega
    have HE := Lib.hid (eq_all (xs := xs) (ys := ys) (k := k) (by have := HN.out; omega) (by have := HN2.out; omega) HT.out)
    clear hkn
    go_wp2
    go_ret
    exact ⟨ret_b HE.out.symm, Below.drewN' (Below.refl _ _) _⟩
 ·have HE := Lib.hid (ne_len hlen)
  have hb : ((xs.length : Int) != (ys.length : Int)) = true := by simp; omega
  clear hlen
  go_enter Tryz.func11, Tryz.ntmps11
  go_wp2
  go_ret
  exact ⟨ret_b HE.out.symm, Below.refl _ _⟩

/-- bitvec.Equal. -/
theorem isBits_eq {w : World} {v : Value} {x : List Bool} (h : IsBits w v x) : ∃ s, v = .agg #[.int .i64 (x.length : Int), s] ∧ Sl w s (words x).length (u64s (words x)) := by
 obtain ⟨s, h1, h2⟩ := h
 exact ⟨s, h1, by rw [words_len]; exact h2⟩
end Go.Proofs.YtbdhibcbpgjbmaaGreatDoor

/- Package shape, walked: Product, Good, has. -/
import Derived.Test.YtbdhibcbpgjbmaaGreatDoorShQ
namespace Go.Proofs.YtbdhibcbpgjbmaaGreatDoor
open Go.RowKit
set_option linter.unusedVariables false
set_option maxRecDepth 100000

theorem quo_big {c x : Int} (hc : 1 ≤ c) (hx : 0 ≤ x) : 1048576 / c < x ↔ 1048576 < c * x := by
 have h1 := Int.mul_ediv_add_emod 1048576 c
 have h2 := Int.emod_nonneg 1048576 (show c ≠ 0 by omega)
 have h3 := Int.emod_lt_of_pos 1048576 (show 0 < c by omega)
 constructor
 ·intro h
  have := Int.mul_le_mul_of_nonneg_left (show 1048576 / c + 1 ≤ x by omega) (show 0 ≤ c by omega)
  rw [Int.mul_add, Int.mul_one] at this
  omega
 ·intro h
  apply Int.lt_of_not_ge
  intro hle
  have := Int.mul_le_mul_of_nonneg_left (show x ≤ 1048576 / c from hle) (show 0 ≤ c by omega)
  omega

set_option maxHeartbeats 2000000 in
theorem sproduct_calls {ok : Nat → Prop} (v : Value) (s : List Int) (most : Int) (w : World) (hv : Slc w ok v s.length (ints s)) (hl : s.length ≤ 9223372036854775807) :
  Calls Tryz.prog 95 #[v, .int .i64 most] w fun e w' => e = .returned (.tuple #[.int .i64 (prodR s most).1, .int .i64 (prodR s most).2]) ∧ Below w.heap.size w w' := by
 have HV := Lib.hid hv
 obtain ⟨ao, cap, rfl, _⟩ := hv.opened
 clear hv
 by_cases h8 : 8 < s.length
 ·have HP := Lib.hid (prodR_long (most := most) h8)
  go_enter Tryz.func95, Tryz.ntmps95
  go_wp2
  go_ret2
  exact ⟨ret_pr HP.out, Below.refl _ _⟩
 ·have H8 := Lib.hid h8
  have hlen : s.length ≤ 8 := by omega
  have HC := Lib.hid (scontf_calls _ s w HV.out (by omega))
  have HC2 := Lib.hid (scontz_calls _ s w HV.out (by omega))
  clear h8 hl
  cases hn : anyN s
  ·have HN := Lib.hid hn; clear hn
   obtain ⟨z, hz⟩ : ∃ z, anyZ s = z := ⟨_, rfl⟩
   have HZ := Lib.hid hz; clear hz
   go_enter Tryz.func95, Tryz.ntmps95
   go_wp2_with fail
   refine HC.out.mono ?_
   rintro e w1 ⟨rfl, rfl⟩
   rw [HN.out]
   go_wp2
   go_loopw [6, 16] (fun n i wr => ∃ k : Nat, k ≤ s.length ∧ i = .int .i64 k ∧ n = .int .i64 (nzp (s.take k)) ∧ wr = w ∧ nzp (s.take k) ≤ 1048576) (fun _ i _ => s.length - (intOf i).toNat)
   case atStart => exact ⟨0, by omega, rfl, rfl, rfl, by rw [List.take_zero, nzp_nil]; decide⟩
   case round =>
    obtain ⟨k, hk, rfl, rfl, rfl, hM⟩ := hrel
    have hP := nzp_pos (s.take k)
    obtain ⟨c, hc⟩ : ∃ c, c = nzp (s.take k) := ⟨_, rfl⟩
    have HNE := Lib.hid hc
    rw [← hc] at hM hP ⊢
    clear hc
    by_cases hlt : k < s.length
    ·obtain ⟨b, off, cap', x, e1, hx, hcx⟩ := slc_at (Value.int .i64) (show Slc _ ok (.slice ao s.length cap) s.length (s.map (Value.int .i64)) from HV.out) k hlt
     obtain ⟨e1a, e1b⟩ : ao = some ⟨b, off, none⟩ ∧ cap = cap' := by cases e1; exact ⟨rfl, rfl⟩
     subst e1a
     have HX := Lib.hid hx
     have hnn := anyN_mem hx HN.out
     clear hx e1 e1b
     by_cases hq : 1048576 / c < x
     ·have hq2 := (quo_big hP (by omega)).1 hq
      have hx0 : 0 < x := by
       apply Int.lt_of_not_ge
       intro h0
       have := Int.mul_le_mul_of_nonneg_left h0 (show 0 ≤ c by omega)
       omega
      have HP := Lib.hid (prodR_much (most := most) H8.out HN.out (by
       have h1 := nzp_take_le s (k + 1) (by omega)
       rw [nzp_take HX.out, if_pos hx0, ← HNE.out] at h1
       omega))
      clear hq2 hx0
      go_wp2
      go_ret2
      exact ⟨ret_pr HP.out, Below.refl _ _⟩
     ·have hq2 : ¬ 1048576 < c * x := fun h => hq ((quo_big hP (by omega)).2 h)
      by_cases hx0 : x < 1
      ·have HT := Lib.hid (show nzp (s.take (k + 1)) = c by rw [nzp_take HX.out, if_neg (by omega), ← HNE.out])
       clear hq2
       go_wp2
       go_roundw
       case rel => exact ⟨k + 1, by omega, by go_num, by rw [HT.out], by trivial, by rw [HT.out]; omega⟩
       case measure => simp [intOf]; omega
      ·have HT := Lib.hid (show nzp (s.take (k + 1)) = c * x by rw [nzp_take HX.out, if_pos (by omega), ← HNE.out])
       have hm0 : 0 ≤ c * x := Int.mul_nonneg (by omega) (by omega)
       obtain ⟨m, hm⟩ : ∃ m, c * x = m := ⟨_, rfl⟩
       rw [hm] at HT hq2 hm0
       go_wp2
       go_roundw
       case rel => exact ⟨k + 1, by omega, by go_num, by rw [HT.out], by trivial, by rw [HT.out]; omega⟩
       case measure => simp [intOf]; omega
    ·have hkl : k = s.length := by omega
     have HNF := Lib.hid (show nzp s = c by have := HNE.out; rw [hkl, List.take_length] at this; exact this.symm)
     have HP := Lib.hid (prodR_fit (most := most) H8.out HN.out (by rw [HNF.out]; omega))
     rw [HNF.out, HZ.out] at HP
     clear hkl
     go_wp2_with fail
     refine HC2.out.mono ?_
     rintro e w1 ⟨rfl, rfl⟩
     rw [HZ.out]
     cases z
     ·by_cases hmost : most < c
      ·go_wp2
       go_ret2
       exact ⟨ret_pr (HP.out.trans (by simp [hmost])), Below.refl _ _⟩
      ·go_wp2
       go_ret2
       exact ⟨ret_pr (HP.out.trans (by simp [hmost])), Below.refl _ _⟩
     ·by_cases hmost : most < 0
      ·go_wp2
       go_ret2
       exact ⟨ret_pr (HP.out.trans (by simp [hmost])), Below.refl _ _⟩
      ·go_wp2
       go_ret2
       exact ⟨ret_pr (HP.out.trans (by simp [hmost])), Below.refl _ _⟩
  ·have HP := Lib.hid (prodR_neg (most := most) H8.out hn)
   have HN := Lib.hid hn; clear hn
   go_enter Tryz.func95, Tryz.ntmps95
   go_wp2_with fail
   refine HC.out.mono ?_
   rintro e w1 ⟨rfl, rfl⟩
   rw [HN.out]
   go_wp2
   go_ret2
   exact ⟨ret_pr HP.out, Below.refl _ _⟩
end Go.Proofs.YtbdhibcbpgjbmaaGreatDoor

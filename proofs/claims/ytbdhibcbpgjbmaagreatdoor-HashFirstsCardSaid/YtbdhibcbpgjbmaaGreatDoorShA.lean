/- The reference's shapes, walked: Product, Good. -/
import Derived.Test.YtbdhibcbpgjbmaaGreatDoorShM
import Derived.Test.YtbdhibcbpgjbmaaGreatDoorBvB
namespace Go.Proofs.YtbdhibcbpgjbmaaGreatDoor
open Go.RowKit
set_option linter.unusedVariables false
set_option maxRecDepth 100000

theorem slc_at {α : Type} {w : World} {ok : Nat → Prop} {s : Value} {l : List α} (f : α → Value) (h : Slc w ok s l.length (l.map f)) (k : Nat) (hk : k < l.length) :
  ∃ b off cap x, s = .slice (some ⟨b, off, none⟩) l.length cap ∧ l[k]? = some x ∧ w.cell? ⟨b, off + k, none⟩ = some (f x) := by
 obtain ⟨ao, cap, rfl, _, _, _, hc⟩ := h.opened
 obtain ⟨b, off, rfl, _, hcl⟩ := hc k (by simpa using hk)
 refine ⟨b, off, cap, l[k], rfl, List.getElem?_eq_getElem hk, ?_⟩
 rw [hcl]; simp
theorem ret_ii {a b c d : Int} (h : (a, b) = (c, d)) : Ending.returned (.tuple #[.int .i64 a, .int .i64 b]) = .returned (.tuple #[.int .i64 c, .int .i64 d]) := by cases h; rfl
theorem ret_pr {s : List Int} {most a b : Int} (h : prodR s most = (a, b)) : Ending.returned (.tuple #[.int .i64 a, .int .i64 b]) = .returned (.tuple #[.int .i64 (prodR s most).1, .int .i64 (prodR s most).2]) := by rw [h]

set_option maxHeartbeats 2000000 in
theorem rproduct_calls {ok : Nat → Prop} (v : Value) (s : List Int) (most : Int) (w : World) (hv : Slc w ok v s.length (ints s)) (hl : s.length ≤ 9223372036854775807) :
  Calls Tryz.prog 94 #[v, .int .i64 most] w fun e w' => e = .returned (.tuple #[.int .i64 (prodR s most).1, .int .i64 (prodR s most).2]) ∧ w = w' := by
 have HV := Lib.hid hv
 obtain ⟨ao, cap, rfl, _⟩ := hv.opened
 clear hv
 by_cases h8 : 8 < s.length
 ·have HP := Lib.hid (prodR_long (most := most) h8)
  go_enter Tryz.func94, Tryz.ntmps94
  go_wp2
  go_ret2
  exact ⟨ret_pr HP.out, rfl⟩
 ·have H8 := Lib.hid h8
  have hlen : s.length ≤ 8 := by omega
  clear h8 hl
  go_enter Tryz.func94, Tryz.ntmps94
  go_wp2
  go_loopw [7, 8] (fun z i wr => ∃ k : Nat, k ≤ s.length ∧ i = .int .i64 k ∧ z = .bool (anyZ (s.take k)) ∧ wr = w ∧ anyN (s.take k) = false) (fun _ i _ => s.length - (intOf i).toNat)
  case atStart => exact ⟨0, by omega, rfl, rfl, rfl, rfl⟩
  case round =>
   obtain ⟨k, hk, rfl, rfl, rfl, hN⟩ := hrel
   have HN := Lib.hid hN; clear hN
   by_cases hlt : k < s.length
   ·obtain ⟨b, off, cap', x, e1, hx, hcx⟩ := slc_at (Value.int .i64) (show Slc _ ok (.slice ao s.length cap) s.length (s.map (Value.int .i64)) from HV.out) k hlt
    obtain ⟨e1a, e1b⟩ : ao = some ⟨b, off, none⟩ ∧ cap = cap' := by cases e1; exact ⟨rfl, rfl⟩
    subst e1a
    have HX := Lib.hid hx; clear hx e1 e1b
    by_cases hneg : x < 0
    ·have HP := Lib.hid (prodR_neg (most := most) H8.out (anyN_hit HX.out hneg))
     go_wp2
     go_ret2
     exact ⟨ret_pr HP.out, rfl⟩
    ·have HN2 := Lib.hid (show anyN (s.take (k + 1)) = false by rw [anyN_take HX.out, HN.out]; simpa using hneg)
     have HZ2 := Lib.hid (anyZ_take HX.out)
     obtain ⟨z, hz⟩ : ∃ z, z = anyZ (s.take k) := ⟨_, rfl⟩
     rw [← hz] at HZ2 ⊢
     clear hz
     cases z
     ·by_cases hx0 : x = 0
      ·subst hx0
       go_wp2
       go_roundw
       case rel => exact ⟨k + 1, by omega, by go_num, by rw [HZ2.out]; rfl, by trivial, HN2.out⟩
       case measure => simp [intOf]; omega
      ·have hx0' : (x == 0) = false := by simpa using hx0
       have HZ3 := Lib.hid (show anyZ (s.take (k + 1)) = false by rw [HZ2.out, hx0']; rfl)
       clear hx0
       go_wp2
       go_roundw
       case rel => exact ⟨k + 1, by omega, by go_num, by rw [HZ3.out], by trivial, HN2.out⟩
       case measure => simp [intOf]; omega
     ·go_wp2
      go_roundw
      case rel => exact ⟨k + 1, by omega, by go_num, by rw [HZ2.out]; rfl, by trivial, HN2.out⟩
      case measure => simp [intOf]; omega
   ·have hkl : k = s.length := by omega
    have HNN := Lib.hid (show anyN s = false by have := HN.out; rwa [hkl, List.take_length] at this)
    have hzz : s.take k = s := by rw [hkl, List.take_length]
    rw [hzz]; clear hkl hzz
    obtain ⟨z, hz⟩ : ∃ z, z = anyZ s := ⟨_, rfl⟩
    have HZZ := Lib.hid hz
    rw [← hz]
    clear hz
    go_wp2
    go_loopw [6, 9] (fun n i wq => ∃ k : Nat, k ≤ s.length ∧ i = .int .i64 k ∧ n = .int .i64 (nzp (s.take k)) ∧ wq = wr ∧ nzp (s.take k) ≤ 1048576) (fun _ i _ => s.length - (intOf i).toNat)
    case atStart => exact ⟨0, by omega, rfl, rfl, rfl, by rw [List.take_zero, nzp_nil]; decide⟩
    case round =>
     obtain ⟨k2, hk2, rfl, rfl, rfl, hM⟩ := hrel
     have hP := nzp_pos (s.take k2)
     obtain ⟨n, hn⟩ : ∃ n, n = nzp (s.take k2) := ⟨_, rfl⟩
     have HNE := Lib.hid hn
     rw [← hn] at hM hP ⊢
     clear hn
     by_cases hlt : k2 < s.length
     ·obtain ⟨b, off, cap', x, e1, hx, hcx⟩ := slc_at (Value.int .i64) (show Slc _ ok (.slice ao s.length cap) s.length (s.map (Value.int .i64)) from HV.out) k2 hlt
      obtain ⟨e1a, e1b⟩ : ao = some ⟨b, off, none⟩ ∧ cap = cap' := by cases e1; exact ⟨rfl, rfl⟩
      subst e1a
      have HX := Lib.hid hx
      have hnn := anyN_mem hx HNN.out
      clear hx e1 e1b
      by_cases hbig : 1048576 < x
      ·have HP := Lib.hid (prodR_much (most := most) H8.out HNN.out (by have := nzp_mem HX.out (by omega); omega))
       go_wp2
       go_ret2
       exact ⟨ret_pr HP.out, rfl⟩
      ·by_cases hpos : 0 < x
       ·have HT := Lib.hid (show nzp (s.take (k2 + 1)) = n * x by rw [nzp_take HX.out, if_pos hpos, ← HNE.out])
        obtain ⟨m, hm⟩ : ∃ m, n * x = m := ⟨_, rfl⟩
        have hm2 : m ≤ 1099511627776 := by
         have h1 : n * x ≤ 1048576 * x := Int.mul_le_mul_of_nonneg_right hM (by omega)
         omega
        have hm1 : 0 ≤ m := by
         have := Int.mul_nonneg (show 0 ≤ n by omega) (show 0 ≤ x by omega)
         omega
        rw [hm] at HT
        by_cases hmb : 1048576 < m
        ·have HP := Lib.hid (prodR_much (most := most) H8.out HNN.out (by have := nzp_take_le s (k2 + 1) (by omega); rw [HT.out] at this; omega))
         go_wp2
         go_ret2
         exact ⟨ret_pr HP.out, rfl⟩
        ·go_wp2
         go_roundw
         case rel => exact ⟨k2 + 1, by omega, by go_num, by rw [HT.out], by trivial, by rw [HT.out]; omega⟩
         case measure => simp [intOf]; omega
       ·have HT := Lib.hid (show nzp (s.take (k2 + 1)) = n by rw [nzp_take HX.out, if_neg hpos, ← HNE.out])
        go_wp2
        go_roundw
        case rel => exact ⟨k2 + 1, by omega, by go_num, by rw [HT.out], by trivial, by rw [HT.out]; omega⟩
        case measure => simp [intOf]; omega
     ·have hkl : k2 = s.length := by omega
      have HNF := Lib.hid (show nzp s = n by have := HNE.out; rw [hkl, List.take_length] at this; exact this.symm)
      have HP := Lib.hid (prodR_fit (most := most) H8.out HNN.out (by rw [HNF.out]; omega))
      rw [HNF.out, ← HZZ.out] at HP
      clear hkl
      cases z
      ·by_cases hmost : most < n
       ·go_wp2
        go_ret2
        exact ⟨ret_pr (HP.out.trans (by simp [hmost])), rfl⟩
       ·go_wp2
        go_ret2
        exact ⟨ret_pr (HP.out.trans (by simp [hmost])), rfl⟩
      ·by_cases hmost : most < 0
       ·go_wp2
        go_ret2
        exact ⟨ret_pr (HP.out.trans (by simp [hmost])), rfl⟩
       ·go_wp2
        go_ret2
        exact ⟨ret_pr (HP.out.trans (by simp [hmost])), rfl⟩
/-- May a shape be? -/
def goodS (s : List Int) : Bool := (prodR s 1048576).2 == 0
end Go.Proofs.YtbdhibcbpgjbmaaGreatDoor

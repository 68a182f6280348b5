/- The reference of layer 2: Into, Truth, Ones. -/
import Derived.Test.YtkigkcncbobhaaaDoorBvB
namespace Go.Proofs.YtkigkcncbobhaaaDoor
open Go.RowKit
set_option linter.unusedVariables false

/-- A number brought between two. -/
def into (n least most : Int) : Int := if n < least then least else if most < n then most else n
set_option maxHeartbeats 400000 in
theorem into_calls (n least most : Int) (w : World) : Calls Tryd.prog 21 #[.int .i64 n, .int .i64 least, .int .i64 most] w fun e w' => e = .returned (.int .i64 (into n least most)) ∧ w = w' := by
  by_cases h1 : n < least
  · have H := Lib.hid (show into n least most = least by simp [into, h1])
    go_enter Tryd.func21, Tryd.ntmps21
    go_wp2
    go_ret
    exact ⟨ret_i H.out.symm, rfl⟩
  · by_cases h2 : most < n
    · have H := Lib.hid (show into n least most = most by simp [into, h1, h2])
      go_enter Tryd.func21, Tryd.ntmps21
      go_wp2
      go_ret
      exact ⟨ret_i H.out.symm, rfl⟩
    · have H := Lib.hid (show into n least most = n by simp [into, h1, h2])
      go_enter Tryd.func21, Tryd.ntmps21
      go_wp2
      go_ret
      exact ⟨ret_i H.out.symm, rfl⟩

theorem tab_bit (t k : Nat) (m : Int) (hm : m = 2 ^ k) : ((t : Int) / m % 2 == 1) = t.testBit k := by
  subst hm
  have e : ((t : Int) / 2 ^ k) = ((t / 2 ^ k : Nat) : Int) := by simp
  rw [e, Nat.testBit_eq_decide_div_mod_eq, Bool.eq_iff_iff, beq_iff_eq, decide_eq_true_iff]
  omega
set_option maxHeartbeats 400000 in
theorem rtruth_calls (t : Nat) (ht : t < 256) (x y : Bool) (w : World) : Calls Tryd.prog 19 #[.int .u8 t, .bool x, .bool y] w fun e w' => e = .returned (.bool (tab t x y)) ∧ w = w' := by
  cases x <;> cases y
  · have H := Lib.hid (tab_bit t 0 1 (by decide))
    go_enter Tryd.func19, Tryd.ntmps19
    go_wp2
    go_ret
    refine ⟨ret_b ?_, rfl⟩
    first | exact H.out | simpa [tab] using H.out
  · have H := Lib.hid (tab_bit t 1 2 (by decide))
    go_enter Tryd.func19, Tryd.ntmps19
    go_wp2
    go_ret
    refine ⟨ret_b ?_, rfl⟩
    first | exact H.out | simpa [tab] using H.out
  · have H := Lib.hid (tab_bit t 2 4 (by decide))
    go_enter Tryd.func19, Tryd.ntmps19
    go_wp2
    go_ret
    refine ⟨ret_b ?_, rfl⟩
    first | exact H.out | simpa [tab] using H.out
  · have H := Lib.hid (tab_bit t 3 8 (by decide))
    go_enter Tryd.func19, Tryd.ntmps19
    go_wp2
    go_ret
    refine ⟨ret_b ?_, rfl⟩
    first | exact H.out | simpa [tab] using H.out

/-- The places below k that are true. -/
def onesTo (F : Nat → Bool) (k : Nat) : List Int := ((List.range k).filter F).map fun j : Nat => (j : Int)
theorem onesTo_hit {F : Nat → Bool} {k : Nat} (h : F k = true) : onesTo F (k + 1) = onesTo F k ++ [(k : Int)] := by
  simp [onesTo, List.range_succ, List.filter_append, h]
theorem onesTo_miss {F : Nat → Bool} {k : Nat} (h : F k = false) : onesTo F (k + 1) = onesTo F k := by
  simp [onesTo, List.range_succ, List.filter_append, h]
theorem onesTo_le (F : Nat → Bool) (k : Nat) : (onesTo F k).length ≤ k := by
  have := List.length_filter_le F (List.range k)
  simp only [List.length_range] at this
  simpa [onesTo] using this
theorem onesTo_cnt (F : Nat → Bool) : ∀ k, (onesTo F k).length = cnt F k
  | 0 => rfl
  | k + 1 => by
    cases h : F k
    · rw [onesTo_miss h, onesTo_cnt F k, cnt, h]; rfl
    · rw [onesTo_hit h, List.length_append, onesTo_cnt F k, cnt, h]; rfl

set_option maxHeartbeats 1000000 in
theorem rones_calls (v : Value) (l : List Bool) (w : World) (hv : Sl w v l.length (bools l)) (hm : l.length ≤ 1048576) :
    Calls Tryd.prog 20 #[v] w fun e w' => ∃ v, e = .returned v ∧ Sl w' v (onesTo (sq l) l.length).length (ints (onesTo (sq l) l.length)) ∧ Below w.heap.size w w' := by
  obtain ⟨i0, hi, hz0, hz1, hz2⟩ := info_parts info_int
  obtain ⟨_, ao, cap, rfl, hcells⟩ := hv
  have HC := Lib.hid hcells
  clear hcells
  go_enter Tryd.func20, Tryd.ntmps20
  go_wp2
  go_loopw [3, 4] (fun v i wr => ∃ k : Nat, k ≤ l.length ∧ i = .int .i64 k ∧ wr.ownsRow w.heap.size 3 1 v (onesTo (sq l) k).length (ints (onesTo (sq l) k)) ∧ Below w.heap.size w wr) (fun _ i _ => l.length - (intOf i).toNat)
  case atStart => exact ⟨0, by omega, rfl, World.ownsRow_nil _ _ _ _, Below.refl _ _⟩
  case round =>
    obtain ⟨k, hk, rfl, hown, hB⟩ := hrel
    have HO := Lib.hid hown
    have HB := Lib.hid hB
    by_cases hlt : k < l.length
    · obtain ⟨b, off, rfl, hc⟩ := HC.out k (by rw [bools_len]; exact hlt)
      have hcl := keep_below hB _ _ hc
      rw [bools_get] at hcl
      obtain ⟨bx, hbx⟩ : ∃ b : Bool, b = l[k]'hlt := ⟨_, rfl⟩
      replace hcl : wr.cell? ⟨b, off + k, none⟩ = some (.bool bx) := by rw [hbx]; exact hcl
      have HX := Lib.hid ((sq_in hlt).trans hbx.symm)
      have hle := onesTo_le (sq l) k
      have hsz := hB.size
      clear hbx hc hown hB
      cases bx
      · go_wp2
        go_roundw
        case rel => exact ⟨k + 1, by omega, by go_num, by rw [onesTo_miss HX.out]; exact HO.out, HB.out⟩
        case measure => simp [intOf]; omega
      · go_wp2_with (at_builtin; refine wpList_append_own _ rfl _ _ 40 rfl w.heap.size 3 i0 (.int .i64 0) 1 8 Tryd.underlying40 hi hz0 hz1 hz2 rfl (by decide) _ _ _ rfl (HO.out.alloc _) ⟨wr.heap.size, 0, none⟩ 1 1 [.int .i64 k] rfl rfl ?c1 ?c2 ?c3 ?c4 ?c5 ?_)
        case c1 =>
          intro j u hj
          match j, hj with
          | 0, hj => simp at hj; subst hj; simp [Addr.add]
        case c2 => intro u hu; simp at hu; subst hu; rfl
        case c3 => unfold maxLen; omega
        case c4 => omega
        case c5 => simp; omega
        intro v' w1 hown' hgrow _
        have HO1 := Lib.hid hown'
        have HB1 := Lib.hid (grown_below (HB.out.alloc hsz _) (HO.out.alloc _) (Nat.le_refl _) (by simp; omega) hgrow)
        clear hown' hgrow
        go_wp2
        go_roundw
        case rel =>
          refine ⟨k + 1, by omega, by go_num, ?_, HB1.out⟩
          have := HO1.out
          rw [onesTo_hit HX.out]
          simpa [ints] using this
        case measure => simp [intOf]; omega
    · have hkl : k = l.length := by omega
      have HK := Lib.hid hkl
      clear hkl hown hB
      go_wp2
      go_ret
      exact ⟨_, rfl, by rw [← HK.out]; exact Sl.owned HO.out, HB.out⟩
end Go.Proofs.YtkigkcncbobhaaaDoor

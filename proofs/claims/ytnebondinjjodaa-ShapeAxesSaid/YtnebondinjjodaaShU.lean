/- Package shape, walked: At. -/
import Derived.Test.YtnebondinjjodaaShT
namespace Go.Proofs.Ytnebondinjjodaa
open Go.RowKit
set_option linter.unusedVariables false
set_option maxRecDepth 8000

theorem ret_at {s t : List Int} {a : Int} {b : Bool} (h1 : atG s t = a) (h2 : decide (0 ≤ placeR s t) = b) : Ending.returned (.tuple #[.int .i64 a, .bool b]) = .returned (.tuple #[.int .i64 (atG s t), .bool (decide (0 ≤ placeR s t))]) := by rw [h1, h2]
theorem ret_miss {s t : List Int} (h : placeR s t = -1) : Ending.returned (.tuple #[.int .i64 0, .bool false]) = .returned (.tuple #[.int .i64 (atG s t), .bool (decide (0 ≤ placeR s t))]) := by
  unfold atG; rw [h]; rfl
theorem ret_hit {s t : List Int} {p : Int} (h : placeR s t = p) (h0 : 0 ≤ p) : Ending.returned (.tuple #[.int .i64 p, .bool true]) = .returned (.tuple #[.int .i64 (atG s t), .bool (decide (0 ≤ placeR s t))]) := by
  unfold atG; rw [h, if_pos h0, decide_eq_true h0]

set_option maxHeartbeats 4000000 in
theorem sat_calls {ok ok2 : Nat → Prop} (v v2 : Value) (s t : List Int) (w : World) (h1 : Slc w ok v s.length (ints s)) (l1 : s.length ≤ 1000) (h2 : Slc w ok2 v2 t.length (ints t)) (l2 : t.length ≤ 1000) :
    Calls Try.prog 14 #[v, v2] w fun e w' => e = .returned (.tuple #[.int .i64 (atG s t), .bool (decide (0 ≤ placeR s t))]) ∧ Below w.heap.size w w' := by
  have H1 := Lib.hid h1
  have H2 := Lib.hid h2
  have L1 := Lib.hid l1
  obtain ⟨ao, cap, rfl, _⟩ := h1.opened
  obtain ⟨ao2, cap2, rfl, _⟩ := h2.opened
  clear h1 h2
  cases hg : goodS s
  · have HP := Lib.hid (show placeR s t = -1 by unfold placeR; rw [if_neg (by rw [hg]; simp)])
    have HG := Lib.hid hg
    clear hg
    go_enter Try.func14, Try.ntmps14
    go_wp2_with fail
    refine (sgood_calls _ s _ H1.out L1.out).mono ?_
    rintro e w1 ⟨rfl, hB⟩
    have HB := Lib.hid hB
    clear hB
    rw [HG.out]
    go_wp2
    go_ret2
    exact ⟨ret_miss HP.out, HB.out⟩
  · by_cases hst : s.length = t.length
    · have HNZ := Lib.hid (good_nz hg)
      have HG := Lib.hid hg
      have HST := Lib.hid hst
      obtain ⟨n, hn⟩ : ∃ n, n = s.length := ⟨_, rfl⟩
      have HN := Lib.hid hn
      rw [← hst, ← hn] at l2
      rw [← hst] at H2 ⊢
      rw [← hn] at H1 H2 L1 l1 ⊢
      have hb : ((n : Int) != (n : Int)) = false := by simp
      clear hg hst hn
      go_enter Try.func14, Try.ntmps14
      go_wp2_with fail
      refine (sgood_calls _ s _ (by rw [← HN.out]; exact H1.out) (by rw [← HN.out]; exact L1.out)).mono ?_
      rintro e w1 ⟨rfl, hB⟩
      replace H1 := Lib.hid (H1.out.below hB)
      replace H2 := Lib.hid (H2.out.below hB)
      have HB := Lib.hid hB
      clear hB
      rw [HG.out]
      go_wp2
      go_loopw [6, 21] (fun a i wr => ∃ (k : Nat) (p : Int), k ≤ n ∧ i = .int .i64 (k : Int) ∧ a = .int .i64 p ∧ plc (s.take k) (t.take k) = some p ∧ wr = w1) (fun _ i _ => n - (intOf i).toNat)
      case atStart => exact ⟨0, 0, by omega, rfl, rfl, rfl, rfl⟩
      case round =>
        obtain ⟨k, p, hk, rfl, rfl, hp, rfl⟩ := hrel
        have HPL := Lib.hid hp
        obtain ⟨b1, b2, _⟩ := plc_bound _ _ _ hp
        have hnz : nzp (s.take k) ≤ 1048576 := Int.le_trans (nzp_take_le s k (by rw [← HN.out]; exact hk)) HNZ.out
        clear hp
        by_cases hlt : k < n
        · obtain ⟨c1, o1, p1, a, e1, ha, hca⟩ := slc_at (Value.int .i64) (show Slc _ ok (.slice ao n cap) s.length (s.map (Value.int .i64)) by rw [← HN.out]; exact H1.out) k (by rw [← HN.out]; exact hlt)
          obtain ⟨c2, o2, p2, x, e2, hx, hcx⟩ := slc_at (Value.int .i64) (show Slc _ ok2 (.slice ao2 n cap2) t.length (t.map (Value.int .i64)) by rw [← HST.out, ← HN.out]; exact H2.out) k (by rw [← HST.out, ← HN.out]; exact hlt)
          obtain ⟨e1a, e1b⟩ : ao = some ⟨c1, o1, none⟩ ∧ cap = p1 := by cases e1; exact ⟨rfl, rfl⟩
          obtain ⟨e2a, e2b⟩ : ao2 = some ⟨c2, o2, none⟩ ∧ cap2 = p2 := by cases e2; exact ⟨rfl, rfl⟩
          subst e1a
          subst e2a
          have HAj := Lib.hid ha
          have HXj := Lib.hid hx
          clear ha hx e1 e2 e1b e2b
          by_cases hx0 : x < 0
          · have HP := Lib.hid (plc_bad HST.out HAj.out HXj.out HPL.out (by omega))
            go_wp2
            go_ret2
            exact ⟨ret_miss HP.out, HB.out⟩
          · by_cases hxa : a ≤ x
            · have HP := Lib.hid (plc_bad HST.out HAj.out HXj.out HPL.out (by omega))
              go_wp2
              go_ret2
              exact ⟨ret_miss HP.out, HB.out⟩
            · have hstep := plc_take HAj.out HXj.out HPL.out
              rw [if_pos ⟨by omega, by omega⟩] at hstep
              have hbd := plc_bound _ _ _ hstep
              have hle : nzp (s.take (k + 1)) ≤ 1048576 := Int.le_trans (nzp_take_le s (k + 1) (by rw [← HN.out]; omega)) HNZ.out
              have hpa : 0 ≤ p * a := Int.mul_nonneg b1 (by omega)
              obtain ⟨m, hm⟩ : ∃ m, p * a = m := ⟨_, rfl⟩
              rw [hm] at hstep hbd hpa
              have hb2 := hbd.2.1
              have HS1 := Lib.hid hstep
              clear hstep hbd b2 hnz
              go_wp2
              go_roundw
              case rel => exact ⟨k + 1, m + x, by omega, by go_num, rfl, HS1.out, by trivial⟩
              case measure => simp [intOf]; omega
        · have hkl : k = n := by omega
          have HP := Lib.hid (show placeR s t = p by
            have := HPL.out
            rw [hkl, HN.out, List.take_length, HST.out, List.take_length] at this
            unfold placeR; rw [if_pos ⟨HG.out, HST.out⟩, this]; rfl)
          have HP0 := Lib.hid b1
          clear hkl
          go_wp2
          go_ret2
          exact ⟨ret_hit HP.out HP0.out, HB.out⟩
    · have HP := Lib.hid (show placeR s t = -1 by unfold placeR; rw [if_neg (fun h => hst h.2)])
      have HG := Lib.hid hg
      have hb : ((t.length : Int) != (s.length : Int)) = true := by simp; omega
      clear hg hst
      go_enter Try.func14, Try.ntmps14
      go_wp2_with fail
      refine (sgood_calls _ s _ H1.out L1.out).mono ?_
      rintro e w1 ⟨rfl, hB⟩
      have HB := Lib.hid hB
      clear hB
      rw [HG.out]
      go_wp2
      go_ret2
      exact ⟨ret_miss HP.out, HB.out⟩
end Go.Proofs.Ytnebondinjjodaa

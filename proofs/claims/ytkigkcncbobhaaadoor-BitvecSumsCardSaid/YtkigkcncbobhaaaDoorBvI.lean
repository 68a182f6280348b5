/- Package bitvec: Len, At, Words, Tidy; slices.Clone. -/
import Derived.Test.YtkigkcncbobhaaaDoorBvB
import Derived.Lib.SliceRun
namespace Go.Proofs.YtkigkcncbobhaaaDoor
open Go.RowKit
set_option linter.unusedVariables false

set_option maxHeartbeats 400000 in
theorem len_calls (v : Value) (l : List Bool) (w : World) (hv : IsBits w v l) :
    Calls Tryd.prog 18 #[v] w fun e w' => e = .returned (.int .i64 (l.length : Nat)) ∧ Below w.heap.size w w' := by
  obtain ⟨ao, cap, rfl, _⟩ := hv.opened
  clear hv
  go_enter Tryd.func18, Tryd.ntmps18
  go_wp2
  go_ret
  exact ⟨rfl, (Below.refl _ _).alloc (Nat.le_refl _) _⟩

theorem bit_at (F : Nat → Bool) (q r : Nat) (hr : r < 64) : (bits BinOp.and IntKind.u64 ((bw F q : Int) / 2 ^ r) 1 == 1) = F (64 * q + r) := by
  have e : ((bw F q : Int) / 2 ^ r) = ((bw F q / 2 ^ r : Nat) : Int) := by simp
  have h : bw F q / 2 ^ r < 18446744073709551616 := Nat.lt_of_le_of_lt (Nat.div_le_self _ _) (bw_lt _ _)
  have t := testBit_bw F q r
  rw [decide_eq_true hr, Bool.true_and, Nat.testBit_eq_decide_div_mod_eq] at t
  rw [e, show (1 : Int) = ((1 : Nat) : Int) from rfl, u64_and_nat _ 1 h (by decide), nat_mask1, ← t, Bool.eq_iff_iff, beq_iff_eq, decide_eq_true_iff]
  omega
/-- Boolean i of a list, i a whole number. -/
def sqI (l : List Bool) (i : Int) : Bool := if 0 ≤ i then sq l i.toNat else false
set_option maxHeartbeats 1000000 in
theorem at_calls (v : Value) (l : List Bool) (i : Int) (w : World) (hv : IsBits w v l) (hl : l.length ≤ 1048576) :
    Calls Tryd.prog 12 #[v, .int .i64 i] w fun e w' => e = .returned (.bool (sqI l i)) ∧ Below w.heap.size w w' := by
  obtain ⟨ao, cap, rfl, hcells⟩ := hv.opened
  have HC := Lib.hid hcells
  clear hv hcells
  by_cases h0 : i < 0
  · have H := Lib.hid (show sqI l i = false by simp [sqI]; omega)
    go_enter Tryd.func12, Tryd.ntmps12
    go_wp2
    all_goals (go_ret; exact ⟨ret_b H.out.symm, (Below.refl _ _).alloc (Nat.le_refl _) _⟩)
  · by_cases h1 : (l.length : Int) ≤ i
    · have H := Lib.hid (show sqI l i = false by simp only [sqI]; split; exact sq_out (by omega); rfl)
      go_enter Tryd.func12, Tryd.ntmps12
      go_wp2
      all_goals (go_ret; exact ⟨ret_b H.out.symm, (Below.refl _ _).alloc (Nat.le_refl _) _⟩)
    · obtain ⟨k, rfl⟩ := Int.eq_ofNat_of_zero_le (show 0 ≤ i by omega)
      obtain ⟨L, hL⟩ : ∃ L, (l.length + 63) / 64 = L := ⟨_, rfl⟩
      rw [hL] at HC ⊢
      obtain ⟨q, hq⟩ : ∃ q : Nat, (k : Int) / 64 = (q : Int) := ⟨k / 64, by omega⟩
      obtain ⟨r, hr⟩ : ∃ r : Nat, (k : Int) % 64 = (r : Int) := ⟨k % 64, by omega⟩
      have hqL : q < L := by omega
      have hr64 : r < 64 := by omega
      obtain ⟨b, off, rfl, hc⟩ := HC.out q hqL
      have hcl := keep_alloc w (.cells #[.int .i64 l.length, .slice (some ⟨b, off, none⟩) L cap] 26) _ _ hc
      have H := Lib.hid (show (bits BinOp.and IntKind.u64 ((bw (sq l) q : Int) / 2 ^ r) 1 == 1) = sqI l k by
        rw [bit_at _ _ _ hr64, sqI, if_pos (by omega)]
        congr 1; omega)
      clear hc hL
      go_enter Tryd.func12, Tryd.ntmps12
      go_wp2
      all_goals (go_ret; exact ⟨ret_b H.out, (Below.refl _ _).alloc (Nat.le_refl _) _⟩)

set_option maxHeartbeats 1000000 in
theorem clone_calls (v : Value) (ws : List Nat) (w : World) (hv : Sl w v ws.length (u64s ws)) (hm : ws.length ≤ 2000000) :
    Calls Tryd.prog 48 #[v] w fun e w' => ∃ v, e = .returned v ∧ Sl w' v ws.length (u64s ws) ∧ Below w.heap.size w w' := by
  obtain ⟨i0, hi, hz0, hz1, hz2⟩ := info_parts info_u64
  obtain ⟨_, ao, cap, rfl, hcells⟩ := hv
  have qT : ∀ (w : World) (a : Option Addr) (n c n' c' : Nat), (binOp .eql 24 (.slice a n c) (.slice none n' c')).run Tryd.prog w = .ok (.bool a.isNone) w := fun w a n c n' c' => Lib.run_eql_slice_nil w _ _ a n c n' c' Tryd.underlying24
  cases ao with
  | none =>
    have h0 : ws = [] := by
      cases ws with
      | nil => rfl
      | cons z zs => obtain ⟨b, off, e, _⟩ := hcells 0 (by simp [u64s]); cases e
    subst h0
    go_enter Tryd.func48, Tryd.ntmps48
    go_wp2
    go_ret
    exact ⟨_, rfl, ⟨rfl, none, 0, rfl, fun i hi => absurd hi (by simp [u64s])⟩, Below.refl _ _⟩
  | some ad =>
    have hc : ∀ j u, (u64s ws)[j]? = some u → w.cell? (ad.add j) = some u := by
      intro j u hj
      obtain ⟨hj', e⟩ := List.getElem?_eq_some_iff.1 hj
      obtain ⟨b, off, e2, hcell⟩ := hcells j hj'
      obtain rfl := Option.some.inj e2
      rw [← e, Go.WideShapes.add_plain]; exact hcell
    have HC := Lib.hid hc
    have hone : Hid (∀ u ∈ u64s ws, u.oneCell' = true) := Lib.hid (by
      intro u hu
      simp only [u64s, List.mem_map] at hu
      obtain ⟨z, _, rfl⟩ := hu
      rfl)
    have hown := World.ownsRow_lit (base := w.heap.size) (e := 55) (size := 1) w #[] 0 (Nat.le_refl _) (by unfold maxLen; omega) rfl
    have HO := Lib.hid hown
    have HL := Lib.hid (show (u64s ws).length = ws.length * 1 by rw [u64s_len, Nat.mul_one])
    clear hc hown hcells
    go_enter Tryd.func48, Tryd.ntmps48
    go_wp2_with (at_builtin; refine wpList_append_own _ rfl _ _ 24 rfl w.heap.size 55 i0 (.int .u64 0) 1 8 Tryd.underlying24 hi hz0 hz1 hz2 rfl (by decide) _ _ _ rfl HO.out ad ws.length cap (u64s ws) rfl HL.out ?c1 hone.out ?c3 ?c4 ?c5 ?_)
    case c1 => exact fun j u hj => keep_alloc _ _ _ _ (HC.out j u hj)
    case c3 => unfold maxLen; omega
    case c4 => omega
    intro v' w1 hown' hgrow _
    have HO1 := Lib.hid hown'
    have HB1 := Lib.hid (grown_below ((Below.refl w.heap.size w).alloc (Nat.le_refl _) _) HO.out (Nat.le_refl _) (by simp) hgrow)
    clear hown' hgrow
    go_wp2
    go_ret
    exact ⟨_, rfl, by have := Sl.owned HO1.out; simpa using this, HB1.out⟩

set_option maxHeartbeats 1000000 in
theorem words_calls (v : Value) (l : List Bool) (w : World) (hv : IsBits w v l) (hl : l.length ≤ 1048576) :
    Calls Tryd.prog 32 #[v] w fun e w' => ∃ v, e = .returned v ∧ Sl w' v (words l).length (u64s (words l)) ∧ Below w.heap.size w w' := by
  obtain ⟨s, rfl, h1⟩ := hv
  rw [← words_len] at h1
  have H1 := Lib.hid h1
  obtain ⟨_, ao, cap, rfl, _⟩ := h1
  have HM := Lib.hid (show (words l).length ≤ 2000000 by rw [words_len]; omega)
  go_enter Tryd.func32, Tryd.ntmps32
  go_wp2_with fail
  refine (clone_calls _ _ _ (H1.out.keep (keep_alloc _ _)) HM.out).mono ?_
  rintro e w1 ⟨v, rfl, hs, hB⟩
  have HS := Lib.hid hs
  have HB := Lib.hid (((Below.refl w.heap.size w).alloc (Nat.le_refl _) (.cells #[.int .i64 l.length, .slice ao (words l).length cap] 26)).trans (hB.mono (by simp)))
  clear hs hB
  go_wp2
  go_ret
  exact ⟨_, rfl, HS.out, HB.out⟩

theorem last_clean (l : List Bool) (L r : Nat) (hL : (l.length + 63) / 64 = L + 1) (hr : l.length % 64 = r) (hr0 : r ≠ 0) : ((bw (sq l) L : Int) / 2 ^ r == 0) = true := by
  have e : ((bw (sq l) L : Int) / 2 ^ r) = ((bw (sq l) L / 2 ^ r : Nat) : Int) := by simp
  have h0 : bw (sq l) L / 2 ^ r = 0 := by
    apply Nat.eq_of_testBit_eq
    intro j
    rw [← Nat.shiftRight_eq_div_pow, Nat.testBit_shiftRight, testBit_bw, sq_out (by omega)]
    simp
  rw [e, h0]; rfl
set_option maxHeartbeats 1000000 in
theorem tidy_calls (v : Value) (l : List Bool) (w : World) (hv : IsBits w v l) (hl : l.length ≤ 1048576) :
    Calls Tryd.prog 35 #[v] w fun e w' => e = .returned (.bool true) ∧ Below w.heap.size w w' := by
  obtain ⟨ao, cap, rfl, hcells⟩ := hv.opened
  have HC := Lib.hid hcells
  clear hv hcells
  obtain ⟨K, hK⟩ : ∃ K, (l.length + 63) / 64 = K := ⟨_, rfl⟩
  rw [hK] at HC ⊢
  have HK := Lib.hid hK
  have hb : ((K : Int) != (K : Int)) = false := by simp
  have hwf := fun w => wordsFor_calls l.length (by omega) w
  rw [hK] at hwf
  have HW := Lib.hid hwf
  clear hwf
  by_cases hz : l.length % 64 = 0
  · have hz' : ((l.length : Int) % 64 == 0) = true := by simp; omega
    clear hK
    go_enter Tryd.func35, Tryd.ntmps35
    go_wp2
    go_quiet ((go_at_call 49; exact Calls.quiet_of_same (stl (HW.out _))))
    go_wp2
    go_ret
    exact ⟨rfl, Below.drewN' ((Below.refl _ _).alloc (Nat.le_refl _) _) _⟩
  · obtain ⟨r, hr⟩ : ∃ r : Nat, (l.length : Int) % 64 = (r : Int) := ⟨l.length % 64, by omega⟩
    have hz' : ((r : Int) == 0) = false := by simp; omega
    obtain ⟨L, rfl⟩ : ∃ L, K = L + 1 := ⟨K - 1, by omega⟩
    have H := Lib.hid (last_clean l L r hK (by omega) (by omega))
    have hr64 : r < 64 := by omega
    obtain ⟨b, off, rfl, hc⟩ := HC.out L (by omega)
    have hcl := keep_alloc w (.cells #[.int .i64 l.length, .slice (some ⟨b, off, none⟩) (L + 1) cap] 26) _ _ hc
    have hL2 : L ≤ 20000 := by omega
    have hb : (((L + 1 : Nat) : Int) != ((L + 1 : Nat) : Int)) = false := by simp
    clear hc hK
    go_enter Tryd.func35, Tryd.ntmps35
    go_wp2
    go_quiet ((go_at_call 49; exact Calls.quiet_of_same (stl (HW.out _))))
    go_wp2
    go_ret
    exact ⟨ret_b H.out, Below.drewN' ((Below.refl _ _).alloc (Nat.le_refl _) _) _⟩
end Go.Proofs.YtkigkcncbobhaaaDoor

/- BitvecPacks, walked. -/
import Derived.Test.YtkigkcncbobhaaaDoorBvS
namespace Go.Proofs.YtkigkcncbobhaaaDoor
open Go.RowKit
set_option linter.unusedVariables false

/-- The law behind its first guard: the want is decided. -/
theorem packs_mid (l : List Bool) (i : Int) : sqI l i = if 0 ≤ i ∧ i < l.length then sq l i.toNat else false := by
  unfold sqI
  by_cases h : 0 ≤ i
  · by_cases h2 : i < l.length
    · simp [h, h2]
    · rw [if_pos h, if_neg (by omega), sq_out (by omega)]
  · simp [h]
theorem bools_app (a b : List Bool) : bools (a ++ b) = bools a ++ bools b := by simp [bools]

set_option maxHeartbeats 4000000 in
theorem packs_calls (v : Value) (l : List Bool) (i n : Int) (b : Bool) (w : World) (hv : RowC w v (bools l)) (hl : l.length ≤ maxLen) (hT : TabAt w) :
    Calls Tryd.prog 3 #[v, .int .i64 i, .int .i64 n, .bool b] w fun e w' => e = .returned (.bool true) ∧ Below w.heap.size w w' := by
  obtain ⟨i0, hi, hz0, hz1, hz2⟩ := info_parts info_bool
  unfold maxLen at hl
  have HT := Lib.hid hT
  have HS := Lib.hid (hv.1.sl)
  obtain ⟨ao, cap, rfl, hcap, hcm, hcells⟩ := hv.opened
  rw [bools_len] at HS hcap ⊢
  clear hv hT
  by_cases hbig : 2000 < l.length ∨ 2000 < n
  · clear hcells
    by_cases hb1 : 2000 < l.length
    · clear hbig
      go_enter Tryd.func3, Tryd.ntmps3
      go_wp2_with fail
      refine (awake_calls w HT.out).mono ?_
      rintro e w1 ⟨rfl, hB⟩
      have HB := Lib.hid hB
      clear hB
      go_wp2
      go_ret
      exact ⟨rfl, HB.out⟩
    · have hb2 : 2000 < n := by omega
      clear hbig
      go_enter Tryd.func3, Tryd.ntmps3
      go_wp2_with fail
      refine (awake_calls w HT.out).mono ?_
      rintro e w1 ⟨rfl, hB⟩
      have HB := Lib.hid hB
      clear hB
      go_wp2
      go_ret
      exact ⟨rfl, HB.out⟩
  · have hb1 : ¬ 2000 < l.length := by omega
    have hb2 : ¬ 2000 < n := by omega
    have hl2 : l.length ≤ 1048576 := by omega
    clear hbig
    obtain ⟨m, hm⟩ : ∃ m : Nat, max n 0 = (m : Int) := ⟨(max n 0).toNat, by omega⟩
    have HM : Hid (min (max n 0) 1048576 = (m : Int)) := Lib.hid (by omega)
    have hm2 : m ≤ 2000 := by omega
    have HMX := Lib.hid hm
    clear hm
    by_cases h0 : i < 0
    · have HX : Hid (sqI l i = false) := Lib.hid (by simp [sqI]; omega)
      clear hcells
      go_enter Tryd.func3, Tryd.ntmps3
      go_wp2_with fail
      refine (pack_calls _ l w HS.out hl2).mono ?_
      rintro e w1 ⟨v1, rfl, hb, hB⟩
      have HB1 := Lib.hid hB
      have HS1 := Lib.hid (HS.out.keep (keep_below hB))
      obtain ⟨bo, bcap, rfl, _⟩ := hb.opened
      obtain ⟨L, hL⟩ : ∃ L, (l.length + 63) / 64 = L := ⟨_, rfl⟩
      rw [hL] at hb ⊢
      obtain ⟨W0, hW0⟩ : ∃ W0, W0 = w1.alloc (.cells #[.int .i64 l.length, .slice bo L bcap] 26) := ⟨_, rfl⟩
      have HP : Hid (At2 W0 w1.heap.size (.int .i64 l.length) (.slice bo L bcap)) := Lib.hid (by rw [hW0]; exact At2.new _ _ _ _)
      have HV : Hid (IsBits W0 (.agg #[.int .i64 l.length, .slice bo L bcap]) l) := Lib.hid (by rw [hW0]; exact hb.keep (keep_alloc _ _))
      have HS0 : Hid (Sl W0 (.slice ao l.length cap) l.length (bools l)) := Lib.hid (by rw [hW0]; exact HS1.out.keep (keep_alloc _ _))
      have HB0 : Hid (Below w.heap.size w W0) := Lib.hid (by rw [hW0]; exact HB1.out.alloc HB1.out.size _)
      have HT0 : Hid (TabAt W0) := Lib.hid (fun j hj => keep_below HB0.out _ _ (HT.out j hj))
      clear hb hL hB
      go_wp2_with fail
      rw [← hW0]
      clear hW0
      refine (shows_calls _ _ l _ HV.out HS0.out hl2).mono ?_
      rintro e w2 ⟨rfl, hB⟩
      have HP2 := Lib.hid (HP.out.below hB)
      have HV2 := Lib.hid (HV.out.keep (keep_below hB))
      have HB2 := Lib.hid (bthen' HB0.out hB)
      obtain ⟨pl, p0, p1, pf⟩ := HP2.out
      clear hB pf
      go_wp2_with fail
      refine (at_calls _ l _ _ HV2.out hl2).mono ?_
      rintro e w3 ⟨rfl, hB⟩
      rw [HX.out]
      have HB3 := Lib.hid (bthen' HB2.out hB)
      clear pl p0 p1 hB
      go_wp2
      go_loopw [11, 12] (fun v i wr => ∃ k : Nat, k ≤ m ∧ i = .int .i64 k ∧ wr.ownsRow w.heap.size 4 1 v k (bools (List.replicate k b)) ∧ Below w.heap.size w wr) (fun _ i _ => m - (intOf i).toNat)
      case atStart => exact ⟨0, by omega, rfl, World.ownsRow_nil _ _ _ _, HB3.out⟩
      case round =>
        obtain ⟨k, hk, rfl, hown, hB⟩ := hrel
        have HO := Lib.hid hown
        have HB := Lib.hid hB
        by_cases hlt : k < m
        · have hkn : (k : Int) < n := by have := HMX.out; omega
          have HSZ := Lib.hid hB.size
          have HM1 : Hid (k + 1 ≤ maxLen) := Lib.hid (by unfold maxLen; omega)
          have HM2 : Hid ((k + 1) * 1 ≤ 140737488355328) := Lib.hid (by omega)
          clear hown hB
          go_wp2_with (at_builtin; refine wpList_append_own _ rfl _ _ 22 rfl w.heap.size 4 i0 (.bool false) 1 1 Tryd.underlying22 hi hz0 hz1 hz2 rfl (by decide) _ _ _ rfl (HO.out.alloc _) ⟨wr.heap.size, 0, none⟩ 1 1 [.bool b] rfl rfl (cell_one_new _ _ _) (one_bool _) HM1.out HM2.out (base_alloc HSZ.out _) ?_)
          intro v' w4 hown' hgrow _
          have HO1 := Lib.hid hown'
          have HB4 := Lib.hid (grown_below (HB.out.alloc HSZ.out _) (HO.out.alloc _) (Nat.le_refl _) (base_alloc HSZ.out _) hgrow)
          clear hown' hgrow
          go_wp2
          go_roundw
          case rel =>
            refine ⟨k + 1, by omega, by go_num, ?_, HB4.out⟩
            rw [List.replicate_succ', bools_app]
            exact HO1.out
          case measure => simp [intOf]; omega
        · have hkn : n ≤ (k : Int) := by have := HMX.out; omega
          have hkm : k = m := by omega
          have HKM := Lib.hid hkm
          clear hown hB hkm
          go_wp2_with fail
          refine (make_calls n b m HM.out _).mono ?_
          rintro e w5 ⟨v5, rfl, hb5, hB⟩
          have HB5 := Lib.hid (bthen' HB.out hB)
          have HO5 : Hid (Sl w5 u11 (List.replicate m b).length (bools (List.replicate m b))) := Lib.hid (by
            have := (Sl.owned HO.out).keep (keep_below hB)
            rw [List.length_replicate, ← HKM.out]; exact this)
          have HV5 := Lib.hid hb5
          clear hb5 hB
          go_wp2_with fail
          refine (shows_calls _ _ _ _ HV5.out HO5.out (by simp; omega)).mono ?_
          rintro e w6 ⟨rfl, hB⟩
          have HB6 := Lib.hid (bthen' HB5.out hB)
          have HT6 : Hid (TabAt w6) := Lib.hid (fun j hj => keep_below HB6.out _ _ (HT.out j hj))
          clear hB
          go_wp2_with fail
          refine (awake_calls _ HT6.out).mono ?_
          rintro e w7 ⟨rfl, hB⟩
          have HB7 := Lib.hid (bthen' HB6.out hB)
          clear hB
          go_wp2
          go_ret
          exact ⟨rfl, HB7.out⟩
    · by_cases h1 : (l.length : Int) ≤ i
      · have HX : Hid (sqI l i = false) := Lib.hid (by rw [packs_mid, if_neg (by omega)])
        clear hcells
        go_enter Tryd.func3, Tryd.ntmps3
        go_wp2_with fail
        refine (pack_calls _ l w HS.out hl2).mono ?_
        rintro e w1 ⟨v1, rfl, hb, hB⟩
        have HB1 := Lib.hid hB
        have HS1 := Lib.hid (HS.out.keep (keep_below hB))
        obtain ⟨bo, bcap, rfl, _⟩ := hb.opened
        obtain ⟨L, hL⟩ : ∃ L, (l.length + 63) / 64 = L := ⟨_, rfl⟩
        rw [hL] at hb ⊢
        obtain ⟨W0, hW0⟩ : ∃ W0, W0 = w1.alloc (.cells #[.int .i64 l.length, .slice bo L bcap] 26) := ⟨_, rfl⟩
        have HP : Hid (At2 W0 w1.heap.size (.int .i64 l.length) (.slice bo L bcap)) := Lib.hid (by rw [hW0]; exact At2.new _ _ _ _)
        have HV : Hid (IsBits W0 (.agg #[.int .i64 l.length, .slice bo L bcap]) l) := Lib.hid (by rw [hW0]; exact hb.keep (keep_alloc _ _))
        have HS0 : Hid (Sl W0 (.slice ao l.length cap) l.length (bools l)) := Lib.hid (by rw [hW0]; exact HS1.out.keep (keep_alloc _ _))
        have HB0 : Hid (Below w.heap.size w W0) := Lib.hid (by rw [hW0]; exact HB1.out.alloc HB1.out.size _)
        have HT0 : Hid (TabAt W0) := Lib.hid (fun j hj => keep_below HB0.out _ _ (HT.out j hj))
        clear hb hL hB
        go_wp2_with fail
        rw [← hW0]
        clear hW0
        refine (shows_calls _ _ l _ HV.out HS0.out hl2).mono ?_
        rintro e w2 ⟨rfl, hB⟩
        have HP2 := Lib.hid (HP.out.below hB)
        have HV2 := Lib.hid (HV.out.keep (keep_below hB))
        have HB2 := Lib.hid (bthen' HB0.out hB)
        obtain ⟨pl, p0, p1, pf⟩ := HP2.out
        clear hB pf
        go_wp2_with fail
        refine (at_calls _ l _ _ HV2.out hl2).mono ?_
        rintro e w3 ⟨rfl, hB⟩
        rw [HX.out]
        have HB3 := Lib.hid (bthen' HB2.out hB)
        clear pl p0 p1 hB
        go_wp2
        go_loopw [11, 12] (fun v i wr => ∃ k : Nat, k ≤ m ∧ i = .int .i64 k ∧ wr.ownsRow w.heap.size 4 1 v k (bools (List.replicate k b)) ∧ Below w.heap.size w wr) (fun _ i _ => m - (intOf i).toNat)
        case atStart => exact ⟨0, by omega, rfl, World.ownsRow_nil _ _ _ _, HB3.out⟩
        case round =>
          obtain ⟨k, hk, rfl, hown, hB⟩ := hrel
          have HO := Lib.hid hown
          have HB := Lib.hid hB
          by_cases hlt : k < m
          · have hkn : (k : Int) < n := by have := HMX.out; omega
            have HSZ := Lib.hid hB.size
            have HM1 : Hid (k + 1 ≤ maxLen) := Lib.hid (by unfold maxLen; omega)
            have HM2 : Hid ((k + 1) * 1 ≤ 140737488355328) := Lib.hid (by omega)
            clear hown hB
            go_wp2_with (at_builtin; refine wpList_append_own _ rfl _ _ 22 rfl w.heap.size 4 i0 (.bool false) 1 1 Tryd.underlying22 hi hz0 hz1 hz2 rfl (by decide) _ _ _ rfl (HO.out.alloc _) ⟨wr.heap.size, 0, none⟩ 1 1 [.bool b] rfl rfl (cell_one_new _ _ _) (one_bool _) HM1.out HM2.out (base_alloc HSZ.out _) ?_)
            intro v' w4 hown' hgrow _
            have HO1 := Lib.hid hown'
            have HB4 := Lib.hid (grown_below (HB.out.alloc HSZ.out _) (HO.out.alloc _) (Nat.le_refl _) (base_alloc HSZ.out _) hgrow)
            clear hown' hgrow
            go_wp2
            go_roundw
            case rel =>
              refine ⟨k + 1, by omega, by go_num, ?_, HB4.out⟩
              rw [List.replicate_succ', bools_app]
              exact HO1.out
            case measure => simp [intOf]; omega
          · have hkn : n ≤ (k : Int) := by have := HMX.out; omega
            have hkm : k = m := by omega
            have HKM := Lib.hid hkm
            clear hown hB hkm
            go_wp2_with fail
            refine (make_calls n b m HM.out _).mono ?_
            rintro e w5 ⟨v5, rfl, hb5, hB⟩
            have HB5 := Lib.hid (bthen' HB.out hB)
            have HO5 : Hid (Sl w5 u11 (List.replicate m b).length (bools (List.replicate m b))) := Lib.hid (by
              have := (Sl.owned HO.out).keep (keep_below hB)
              rw [List.length_replicate, ← HKM.out]; exact this)
            have HV5 := Lib.hid hb5
            clear hb5 hB
            go_wp2_with fail
            refine (shows_calls _ _ _ _ HV5.out HO5.out (by simp; omega)).mono ?_
            rintro e w6 ⟨rfl, hB⟩
            have HB6 := Lib.hid (bthen' HB5.out hB)
            have HT6 : Hid (TabAt w6) := Lib.hid (fun j hj => keep_below HB6.out _ _ (HT.out j hj))
            clear hB
            go_wp2_with fail
            refine (awake_calls _ HT6.out).mono ?_
            rintro e w7 ⟨rfl, hB⟩
            have HB7 := Lib.hid (bthen' HB6.out hB)
            clear hB
            go_wp2
            go_ret
            exact ⟨rfl, HB7.out⟩
      · obtain ⟨j, rfl⟩ := Int.eq_ofNat_of_zero_le (show 0 ≤ i by omega)
        have hj : j < l.length := by omega
        obtain ⟨bx, hbx⟩ : ∃ b : Bool, b = l[j]'hj := ⟨_, rfl⟩
        have HX : Hid (sqI l (j : Int) = bx) := Lib.hid (by rw [hbx, packs_mid, if_pos (by omega)]; simp [sq, hj])
        cases bx
        · have HBX := Lib.hid hbx
          clear hbx
          go_enter Tryd.func3, Tryd.ntmps3
          go_wp2_with fail
          refine (pack_calls _ l w HS.out hl2).mono ?_
          rintro e w1 ⟨v1, rfl, hb, hB⟩
          have HB1 := Lib.hid hB
          have HS1 := Lib.hid (HS.out.keep (keep_below hB))
          obtain ⟨bo, bcap, rfl, _⟩ := hb.opened
          obtain ⟨L, hL⟩ : ∃ L, (l.length + 63) / 64 = L := ⟨_, rfl⟩
          rw [hL] at hb ⊢
          obtain ⟨W0, hW0⟩ : ∃ W0, W0 = w1.alloc (.cells #[.int .i64 l.length, .slice bo L bcap] 26) := ⟨_, rfl⟩
          have HP : Hid (At2 W0 w1.heap.size (.int .i64 l.length) (.slice bo L bcap)) := Lib.hid (by rw [hW0]; exact At2.new _ _ _ _)
          have HV : Hid (IsBits W0 (.agg #[.int .i64 l.length, .slice bo L bcap]) l) := Lib.hid (by rw [hW0]; exact hb.keep (keep_alloc _ _))
          have HS0 : Hid (Sl W0 (.slice ao l.length cap) l.length (bools l)) := Lib.hid (by rw [hW0]; exact HS1.out.keep (keep_alloc _ _))
          have HB0 : Hid (Below w.heap.size w W0) := Lib.hid (by rw [hW0]; exact HB1.out.alloc HB1.out.size _)
          have HT0 : Hid (TabAt W0) := Lib.hid (fun j hj => keep_below HB0.out _ _ (HT.out j hj))
          obtain ⟨cb, coff, rfl, hcc⟩ := hcells j (by rw [bools_len]; omega)
          have hcc1 : (w1.alloc (.cells #[.int .i64 l.length, .slice bo L bcap] 26)).cell? ⟨cb, coff + j, none⟩ = some (.bool false) := by
            rw [keep_alloc _ _ _ _ (keep_below HB1.out _ _ hcc), bools_get, ← HBX.out]
          clear hb hL hB
          go_wp2_with fail
          rw [← hW0]
          clear hW0 hcc1
          refine (shows_calls _ _ l _ HV.out HS0.out hl2).mono ?_
          rintro e w2 ⟨rfl, hB⟩
          have HP2 := Lib.hid (HP.out.below hB)
          have HV2 := Lib.hid (HV.out.keep (keep_below hB))
          have HB2 := Lib.hid (bthen' HB0.out hB)
          obtain ⟨pl, p0, p1, pf⟩ := HP2.out
          clear hB pf
          go_wp2_with fail
          refine (at_calls _ l _ _ HV2.out hl2).mono ?_
          rintro e w3 ⟨rfl, hB⟩
          rw [HX.out]
          have HB3 := Lib.hid (bthen' HB2.out hB)
          clear pl p0 p1 hB
          go_wp2
          go_loopw [11, 12] (fun v i wr => ∃ k : Nat, k ≤ m ∧ i = .int .i64 k ∧ wr.ownsRow w.heap.size 4 1 v k (bools (List.replicate k b)) ∧ Below w.heap.size w wr) (fun _ i _ => m - (intOf i).toNat)
          case atStart => exact ⟨0, by omega, rfl, World.ownsRow_nil _ _ _ _, HB3.out⟩
          case round =>
            obtain ⟨k, hk, rfl, hown, hB⟩ := hrel
            have HO := Lib.hid hown
            have HB := Lib.hid hB
            by_cases hlt : k < m
            · have hkn : (k : Int) < n := by have := HMX.out; omega
              have HSZ := Lib.hid hB.size
              have HM1 : Hid (k + 1 ≤ maxLen) := Lib.hid (by unfold maxLen; omega)
              have HM2 : Hid ((k + 1) * 1 ≤ 140737488355328) := Lib.hid (by omega)
              clear hown hB
              go_wp2_with (at_builtin; refine wpList_append_own _ rfl _ _ 22 rfl w.heap.size 4 i0 (.bool false) 1 1 Tryd.underlying22 hi hz0 hz1 hz2 rfl (by decide) _ _ _ rfl (HO.out.alloc _) ⟨wr.heap.size, 0, none⟩ 1 1 [.bool b] rfl rfl (cell_one_new _ _ _) (one_bool _) HM1.out HM2.out (base_alloc HSZ.out _) ?_)
              intro v' w4 hown' hgrow _
              have HO1 := Lib.hid hown'
              have HB4 := Lib.hid (grown_below (HB.out.alloc HSZ.out _) (HO.out.alloc _) (Nat.le_refl _) (base_alloc HSZ.out _) hgrow)
              clear hown' hgrow
              go_wp2
              go_roundw
              case rel =>
                refine ⟨k + 1, by omega, by go_num, ?_, HB4.out⟩
                rw [List.replicate_succ', bools_app]
                exact HO1.out
              case measure => simp [intOf]; omega
            · have hkn : n ≤ (k : Int) := by have := HMX.out; omega
              have hkm : k = m := by omega
              have HKM := Lib.hid hkm
              clear hown hB hkm
              go_wp2_with fail
              refine (make_calls n b m HM.out _).mono ?_
              rintro e w5 ⟨v5, rfl, hb5, hB⟩
              have HB5 := Lib.hid (bthen' HB.out hB)
              have HO5 : Hid (Sl w5 u11 (List.replicate m b).length (bools (List.replicate m b))) := Lib.hid (by
                have := (Sl.owned HO.out).keep (keep_below hB)
                rw [List.length_replicate, ← HKM.out]; exact this)
              have HV5 := Lib.hid hb5
              clear hb5 hB
              go_wp2_with fail
              refine (shows_calls _ _ _ _ HV5.out HO5.out (by simp; omega)).mono ?_
              rintro e w6 ⟨rfl, hB⟩
              have HB6 := Lib.hid (bthen' HB5.out hB)
              have HT6 : Hid (TabAt w6) := Lib.hid (fun j hj => keep_below HB6.out _ _ (HT.out j hj))
              clear hB
              go_wp2_with fail
              refine (awake_calls _ HT6.out).mono ?_
              rintro e w7 ⟨rfl, hB⟩
              have HB7 := Lib.hid (bthen' HB6.out hB)
              clear hB
              go_wp2
              go_ret
              exact ⟨rfl, HB7.out⟩
        · have HBX := Lib.hid hbx
          clear hbx
          go_enter Tryd.func3, Tryd.ntmps3
          go_wp2_with fail
          refine (pack_calls _ l w HS.out hl2).mono ?_
          rintro e w1 ⟨v1, rfl, hb, hB⟩
          have HB1 := Lib.hid hB
          have HS1 := Lib.hid (HS.out.keep (keep_below hB))
          obtain ⟨bo, bcap, rfl, _⟩ := hb.opened
          obtain ⟨L, hL⟩ : ∃ L, (l.length + 63) / 64 = L := ⟨_, rfl⟩
          rw [hL] at hb ⊢
          obtain ⟨W0, hW0⟩ : ∃ W0, W0 = w1.alloc (.cells #[.int .i64 l.length, .slice bo L bcap] 26) := ⟨_, rfl⟩
          have HP : Hid (At2 W0 w1.heap.size (.int .i64 l.length) (.slice bo L bcap)) := Lib.hid (by rw [hW0]; exact At2.new _ _ _ _)
          have HV : Hid (IsBits W0 (.agg #[.int .i64 l.length, .slice bo L bcap]) l) := Lib.hid (by rw [hW0]; exact hb.keep (keep_alloc _ _))
          have HS0 : Hid (Sl W0 (.slice ao l.length cap) l.length (bools l)) := Lib.hid (by rw [hW0]; exact HS1.out.keep (keep_alloc _ _))
          have HB0 : Hid (Below w.heap.size w W0) := Lib.hid (by rw [hW0]; exact HB1.out.alloc HB1.out.size _)
          have HT0 : Hid (TabAt W0) := Lib.hid (fun j hj => keep_below HB0.out _ _ (HT.out j hj))
          obtain ⟨cb, coff, rfl, hcc⟩ := hcells j (by rw [bools_len]; omega)
          have hcc1 : (w1.alloc (.cells #[.int .i64 l.length, .slice bo L bcap] 26)).cell? ⟨cb, coff + j, none⟩ = some (.bool true) := by
            rw [keep_alloc _ _ _ _ (keep_below HB1.out _ _ hcc), bools_get, ← HBX.out]
          clear hb hL hB
          go_wp2_with fail
          rw [← hW0]
          clear hW0 hcc1
          refine (shows_calls _ _ l _ HV.out HS0.out hl2).mono ?_
          rintro e w2 ⟨rfl, hB⟩
          have HP2 := Lib.hid (HP.out.below hB)
          have HV2 := Lib.hid (HV.out.keep (keep_below hB))
          have HB2 := Lib.hid (bthen' HB0.out hB)
          obtain ⟨pl, p0, p1, pf⟩ := HP2.out
          clear hB pf
          go_wp2_with fail
          refine (at_calls _ l _ _ HV2.out hl2).mono ?_
          rintro e w3 ⟨rfl, hB⟩
          rw [HX.out]
          have HB3 := Lib.hid (bthen' HB2.out hB)
          clear pl p0 p1 hB
          go_wp2
          go_loopw [11, 12] (fun v i wr => ∃ k : Nat, k ≤ m ∧ i = .int .i64 k ∧ wr.ownsRow w.heap.size 4 1 v k (bools (List.replicate k b)) ∧ Below w.heap.size w wr) (fun _ i _ => m - (intOf i).toNat)
          case atStart => exact ⟨0, by omega, rfl, World.ownsRow_nil _ _ _ _, HB3.out⟩
          case round =>
            obtain ⟨k, hk, rfl, hown, hB⟩ := hrel
            have HO := Lib.hid hown
            have HB := Lib.hid hB
            by_cases hlt : k < m
            · have hkn : (k : Int) < n := by have := HMX.out; omega
              have HSZ := Lib.hid hB.size
              have HM1 : Hid (k + 1 ≤ maxLen) := Lib.hid (by unfold maxLen; omega)
              have HM2 : Hid ((k + 1) * 1 ≤ 140737488355328) := Lib.hid (by omega)
              clear hown hB
              go_wp2_with (at_builtin; refine wpList_append_own _ rfl _ _ 22 rfl w.heap.size 4 i0 (.bool false) 1 1 Tryd.underlying22 hi hz0 hz1 hz2 rfl (by decide) _ _ _ rfl (HO.out.alloc _) ⟨wr.heap.size, 0, none⟩ 1 1 [.bool b] rfl rfl (cell_one_new _ _ _) (one_bool _) HM1.out HM2.out (base_alloc HSZ.out _) ?_)
              intro v' w4 hown' hgrow _
              have HO1 := Lib.hid hown'
              have HB4 := Lib.hid (grown_below (HB.out.alloc HSZ.out _) (HO.out.alloc _) (Nat.le_refl _) (base_alloc HSZ.out _) hgrow)
              clear hown' hgrow
              go_wp2
              go_roundw
              case rel =>
                refine ⟨k + 1, by omega, by go_num, ?_, HB4.out⟩
                rw [List.replicate_succ', bools_app]
                exact HO1.out
              case measure => simp [intOf]; omega
            · have hkn : n ≤ (k : Int) := by have := HMX.out; omega
              have hkm : k = m := by omega
              have HKM := Lib.hid hkm
              clear hown hB hkm
              go_wp2_with fail
              refine (make_calls n b m HM.out _).mono ?_
              rintro e w5 ⟨v5, rfl, hb5, hB⟩
              have HB5 := Lib.hid (bthen' HB.out hB)
              have HO5 : Hid (Sl w5 u11 (List.replicate m b).length (bools (List.replicate m b))) := Lib.hid (by
                have := (Sl.owned HO.out).keep (keep_below hB)
                rw [List.length_replicate, ← HKM.out]; exact this)
              have HV5 := Lib.hid hb5
              clear hb5 hB
              go_wp2_with fail
              refine (shows_calls _ _ _ _ HV5.out HO5.out (by simp; omega)).mono ?_
              rintro e w6 ⟨rfl, hB⟩
              have HB6 := Lib.hid (bthen' HB5.out hB)
              have HT6 : Hid (TabAt w6) := Lib.hid (fun j hj => keep_below HB6.out _ _ (HT.out j hj))
              clear hB
              go_wp2_with fail
              refine (awake_calls _ HT6.out).mono ?_
              rintro e w7 ⟨rfl, hB⟩
              have HB7 := Lib.hid (bthen' HB6.out hB)
              clear hB
              go_wp2
              go_ret
              exact ⟨rfl, HB7.out⟩

theorem packs_frame (w : World) (v : Value) (l : List Bool) (hr : RowC w v (l.map Value.bool)) (hl : l.length ≤ maxLen) (i : Int) (_ : (Lit.int .i64 i).wf = true) (n : Int) (_ : (Lit.int .i64 n).wf = true) (b : Bool) (hT : TabAt w) :
    Calls Tryd.prog 3 #[v, .int .i64 i, .int .i64 n, .bool b] w fun e w' => e = .returned (.bool true) ∧ Below w.heap.size w w' := packs_calls v l i n b w hr hl hT
end Go.Proofs.YtkigkcncbobhaaaDoor

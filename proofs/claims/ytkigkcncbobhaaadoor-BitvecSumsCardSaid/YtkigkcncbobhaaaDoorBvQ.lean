/- The reference of layer 2: Words, Scan. -/
import Derived.Test.YtkigkcncbobhaaaDoorBvD
namespace Go.Proofs.YtkigkcncbobhaaaDoor
open Go.RowKit
set_option linter.unusedVariables false

theorem bws_more (l : List Bool) (k q : Nat) (hk : k = 64 * q) : bws (sq (l.take k)) (q + 1) = bws (sq (l.take k)) q ++ [0] := by
  rw [bws, List.range_succ, List.map_append, List.map_cons, List.map_nil]
  have : bw (sq (l.take k)) q = 0 := by
    apply Nat.eq_of_testBit_eq; intro j
    rw [testBit_bw, sq_out (by simp; omega)]; simp
  rw [this]; rfl
theorem one_bool (b : Bool) : ∀ u ∈ [Value.bool b], u.oneCell' = true := by intro u hu; simp at hu; subst hu; rfl
theorem base_alloc {B : Nat} {w : World} (h : B ≤ w.heap.size) (o : Obj) : B ≤ (w.alloc o).heap.size := by simp; omega
theorem u64s_app (a b : List Nat) : u64s (a ++ b) = u64s a ++ u64s b := by simp [u64s]

set_option maxHeartbeats 1000000 in
theorem rwords_calls (v : Value) (l : List Bool) (w : World) (hv : Sl w v l.length (bools l)) (hm : l.length ≤ 1048576) :
    Calls Tryd.prog 36 #[v] w fun e w' => ∃ v, e = .returned v ∧ Sl w' v (words l).length (u64s (words l)) ∧ Below w.heap.size w w' := by
  obtain ⟨i0, hi, hz0, hz1, hz2⟩ := info_parts info_u64
  obtain ⟨_, ao, cap, rfl, hcells⟩ := hv
  have HC := Lib.hid hcells
  clear hcells
  go_enter Tryd.func36, Tryd.ntmps36
  go_wp2
  go_loopw [3, 4] (fun v i wr => ∃ k : Nat, k ≤ l.length ∧ i = .int .i64 k ∧ wr.ownsRow w.heap.size 55 1 v ((k + 63) / 64) (u64s (bws (sq (l.take k)) ((k + 63) / 64))) ∧ Below w.heap.size w wr) (fun _ i _ => l.length - (intOf i).toNat)
  case atStart => exact ⟨0, by omega, rfl, World.ownsRow_nil _ _ _ _, Below.refl _ _⟩
  case round =>
    obtain ⟨k, hk, rfl, hown, hB⟩ := hrel
    have HO := Lib.hid hown
    have HB := Lib.hid hB
    by_cases hlt : k < l.length
    · obtain ⟨b, off, rfl, hc⟩ := HC.out k (by rw [bools_len]; exact hlt)
      have hcl := keep_below hB _ _ hc
      rw [bools_get] at hcl
      obtain ⟨bx, hbx⟩ : ∃ b : Bool, b = l[k]'hlt := ⟨_, rfl⟩
      replace hcl : wr.cell? ⟨b, off + k, none⟩ = some (.bool bx) := by rw [hbx]; exact hcl
      have HX := Lib.hid hbx.symm
      have hbl := World.block_lt_of_cell? w _ hc
      have hbl' : b < w.heap.size := hbl
      obtain ⟨q, hq⟩ : ∃ q : Nat, (k : Int) / 64 = (q : Int) := ⟨k / 64, by omega⟩
      obtain ⟨r, hr⟩ : ∃ r : Nat, (k : Int) % 64 = (r : Int) := ⟨k % 64, by omega⟩
      have hr64 : r < 64 := by omega
      have HQ := Lib.hid (show k / 64 = q by omega)
      have HR := Lib.hid (show k % 64 = r by omega)
      have hsz := hB.size
      have hq2 : q ≤ 16384 := by omega
      clear hbx hc hown hB hbl
      -- behind the append, where there is one: q + 1 words
      have tail : ∀ (v' : Value) (w1 : World), w1.ownsRow w.heap.size 55 1 v' (q + 1) (u64s (bws (sq (l.take k)) (q + 1))) → Below w.heap.size w w1 →
          ∃ g cap', v' = .slice (some ⟨g, 0, none⟩) (q + 1) cap' ∧ w.heap.size ≤ g ∧ w1.cell? ⟨g, q, none⟩ = some (.int .u64 (bw (sq (l.take k)) q : Nat)) ∧ w1.frozen? ⟨g, q, none⟩ = false ∧ w1.cell? ⟨b, off + k, none⟩ = some (.bool bx) := by
        intro v' w1 ho1 hb1
        obtain ⟨g, cap', rfl, hg, _⟩ := owns_shape ho1 (by omega)
        refine ⟨g, cap', rfl, hg, ?_, World.ownsRow.frozenAt ho1 _, ?_⟩
        · have := owns_cell ho1 q (by rw [u64s_len, bws_len]; omega)
          rw [u64s_get] at this
          rw [this, bws_get]
        · have h1 := hb1.cell (p := ⟨b, off + k, none⟩) hbl'
          have h2 := HB.out.cell (p := ⟨b, off + k, none⟩) hbl'
          rw [h1, ← h2]; exact hcl
      have HT := Lib.hid tail
      clear tail
      -- the round's end
      have fin : ∀ (g cap' : Nat) (w1 : World), w1.ownsRow w.heap.size 55 1 (.slice (some ⟨g, 0, none⟩) (q + 1) cap') (q + 1) (u64s (bws (sq (l.take k)) (q + 1))) → bx = true →
          (w1.setCell ⟨g, q, none⟩ (.int .u64 ((bw (sq (l.take k)) q ||| 2 ^ r : Nat) : Int))).ownsRow w.heap.size 55 1 (.slice (some ⟨g, 0, none⟩) (q + 1) cap') ((k + 1 + 63) / 64) (u64s (bws (sq (l.take (k + 1))) ((k + 1 + 63) / 64))) := by
        intro g cap' w1 ho1 hb
        have e : (k + 1 + 63) / 64 = q + 1 := by have := HQ.out; omega
        rw [e, ← bws_hit l (q + 1) k hlt (by rw [HX.out]; exact hb), HQ.out, HR.out]
        have := (World.ownsRow.stored ho1 q (.int .u64 ((bw (sq (l.take k)) q ||| 2 ^ r : Nat) : Int))).1
        simpa [u64s, List.map_set] using this
      have HF := Lib.hid fin
      have fin0 : ∀ (v' : Value) (w1 : World), w1.ownsRow w.heap.size 55 1 v' (q + 1) (u64s (bws (sq (l.take k)) (q + 1))) → bx = false → w1.ownsRow w.heap.size 55 1 v' ((k + 1 + 63) / 64) (u64s (bws (sq (l.take (k + 1))) ((k + 1 + 63) / 64))) := by
        intro v' w1 ho1 hb
        have e : (k + 1 + 63) / 64 = q + 1 := by have := HQ.out; omega
        rw [e, ← bws_miss l (q + 1) k hlt (by rw [HX.out]; exact hb)]; exact ho1
      have HF0 := Lib.hid fin0
      have HV := Lib.hid (or_bit (bw (sq (l.take k)) q) r (bw_lt _ _) hr64)
      clear fin fin0
      by_cases hr0 : r = 0
      · have hb0 : ((r : Int) == 0) = true := by simp; omega
        have HO1 : Hid (wr.ownsRow w.heap.size 55 1 u3 q (u64s (bws (sq (l.take k)) q))) := Lib.hid (by have := HO.out; rwa [show (k + 63) / 64 = q by have := HQ.out; have := HR.out; omega] at this)
        have HK0 := Lib.hid (show k = 64 * q by have := HQ.out; have := HR.out; omega)
        clear hr0
        go_wp2_with (at_builtin; refine wpList_append_own _ rfl _ _ 24 rfl w.heap.size 55 i0 (.int .u64 0) 1 8 Tryd.underlying24 hi hz0 hz1 hz2 rfl (by decide) _ _ _ rfl (HO1.out.alloc _) ⟨wr.heap.size, 0, none⟩ 1 1 [.int .u64 0] rfl rfl ?c1 ?c2 ?c3 ?c4 ?c5 ?_)
        case c1 =>
          intro j u hj
          match j, hj with
          | 0, hj => simp at hj; subst hj; simp [Addr.add]
        case c2 => intro u hu; simp at hu; subst hu; rfl
        case c3 => unfold maxLen; omega
        case c4 => omega
        case c5 => simp; omega
        intro v' w1 hown' hgrow _
        have hB1 := (grown_below (HB.out.alloc hsz _) (HO1.out.alloc _) (Nat.le_refl _) (by simp; omega) hgrow)
        have hO2 : w1.ownsRow w.heap.size 55 1 v' (q + 1) (u64s (bws (sq (l.take k)) (q + 1))) := by
          rw [bws_more l k q HK0.out, u64s_app]; exact hown'
        obtain ⟨g, cap', rfl, hg, hgc, hgf, hbc⟩ := HT.out v' w1 hO2 hB1
        have HO2 := Lib.hid hO2
        have HB1 := Lib.hid hB1
        clear hown' hgrow hO2 hB1
        cases bx
        · go_wp2
          go_roundw
          case rel => exact ⟨k + 1, by omega, by go_num, HF0.out _ _ HO2.out rfl, HB1.out⟩
          case measure => simp [intOf]; omega
        · go_wp2
          rw [HV.out]
          go_roundw
          case rel => exact ⟨k + 1, by omega, by go_num, HF.out _ _ _ HO2.out rfl, HB1.out.setCell (by exact hg) _⟩
          case measure => simp [intOf]; omega
      · have hb0 : ((r : Int) == 0) = false := by simp; omega
        have hO2 : wr.ownsRow w.heap.size 55 1 u3 (q + 1) (u64s (bws (sq (l.take k)) (q + 1))) := by have := HO.out; rwa [show (k + 63) / 64 = q + 1 by have := HQ.out; have := HR.out; omega] at this
        obtain ⟨g, cap', rfl, hg, hgc, hgf, hbc⟩ := HT.out u3 wr hO2 HB.out
        have HO2 := Lib.hid hO2
        clear hr0 hO2
        cases bx
        · go_wp2
          go_roundw
          case rel => exact ⟨k + 1, by omega, by go_num, HF0.out _ _ HO2.out rfl, HB.out⟩
          case measure => simp [intOf]; omega
        · go_wp2
          rw [HV.out]
          go_roundw
          case rel => exact ⟨k + 1, by omega, by go_num, HF.out _ _ _ HO2.out rfl, HB.out.setCell (by exact hg) _⟩
          case measure => simp [intOf]; omega
    · have hkl : k = l.length := by omega
      have HK := Lib.hid hkl
      clear hkl hown hB
      go_wp2
      go_ret
      refine ⟨_, rfl, ?_, HB.out⟩
      have := Sl.owned HO.out
      rw [words_len]
      rwa [HK.out, List.take_length] at this

def oddL (l : List Bool) (k : Nat) : List Bool := (List.range k).map fun i => pfx (sq l) (i + 1)
theorem oddL_len (l : List Bool) (k : Nat) : (oddL l k).length = k := by simp [oddL]
theorem oddL_succ (l : List Bool) (k : Nat) : oddL l (k + 1) = oddL l k ++ [pfx (sq l) (k + 1)] := by simp [oddL, List.range_succ]
theorem oddL_get (l : List Bool) (k i : Nat) (h : i < (oddL l k).length) : (oddL l k)[i] = pfx (sq l) (i + 1) := by simp [oddL]
set_option maxHeartbeats 1000000 in
theorem rscan_odd (v : Value) (l : List Bool) (w : World) (hv : Sl w v l.length (bools l)) (hm : l.length ≤ 1048576) :
    Calls Tryd.prog 28 #[v, .bool true] w fun e w' => ∃ v, e = .returned v ∧ Sl w' v l.length (bools (oddL l l.length)) ∧ Below w.heap.size w w' := by
  obtain ⟨i0, hi, hz0, hz1, hz2⟩ := info_parts info_bool
  obtain ⟨_, ao, cap, rfl, hcells⟩ := hv
  have HC := Lib.hid hcells
  clear hcells
  go_enter Tryd.func28, Tryd.ntmps28
  go_wp2
  go_loopw [5, 6] (fun v i wr => ∃ k : Nat, k ≤ l.length ∧ i = .int .i64 k ∧ wr.ownsRow w.heap.size 4 1 v k (bools (oddL l k)) ∧ Below w.heap.size w wr) (fun _ i _ => l.length - (intOf i).toNat)
  case atStart => exact ⟨0, by omega, rfl, World.ownsRow_nil _ _ _ _, Below.refl _ _⟩
  case round =>
    obtain ⟨k, hk, rfl, hown, hB⟩ := hrel
    have HO := Lib.hid hown
    have HB := Lib.hid hB
    by_cases hlt : k < l.length
    · obtain ⟨b, off, rfl, hc⟩ := HC.out k (by rw [bools_len]; exact hlt)
      have hcl := keep_below hB _ _ hc
      rw [bools_get] at hcl
      obtain ⟨bx, hbx⟩ : ∃ b : Bool, b = l[k]'hlt := ⟨_, rfl⟩
      replace hcl : wr.cell? ⟨b, off + k, none⟩ = some (.bool bx) := by rw [hbx]; exact hcl
      have hX : sq l k = bx := (sq_in hlt).trans hbx.symm
      have HX := Lib.hid hX
      have HSZ := Lib.hid hB.size
      have HM1 : Hid (k + 1 ≤ maxLen) := Lib.hid (by unfold maxLen; omega)
      have HM2 : Hid ((k + 1) * 1 ≤ 140737488355328) := Lib.hid (by omega)
      clear hbx hc hown hB hX
      obtain ⟨bn, hbn⟩ : ∃ b : Bool, b = pfx (sq l) (k + 1) := ⟨_, rfl⟩
      have HN := Lib.hid hbn
      clear hbn
      have hend : Hid (∀ (v' : Value) (w1 : World), w1.ownsRow w.heap.size 4 1 v' (k + 1) (bools (oddL l k) ++ [.bool bn]) → w1.ownsRow w.heap.size 4 1 v' (k + 1) (bools (oddL l (k + 1)))) := Lib.hid (fun v' w1 h => by
        rw [oddL_succ, ← HN.out]; simpa [bools] using h)
      rcases Nat.eq_zero_or_pos k with rfl | hpos
      · have HBN := Lib.hid (show bn = bx by rw [HN.out, ← HX.out]; simp [pfx])
        obtain rfl := HBN.out
        rw [Nat.add_zero] at hcl
        go_wp2_with (at_builtin; refine wpList_append_own _ rfl _ _ 22 rfl w.heap.size 4 i0 (.bool false) 1 1 Tryd.underlying22 hi hz0 hz1 hz2 rfl (by decide) _ _ _ rfl (HO.out.alloc _) ⟨wr.heap.size, 0, none⟩ 1 1 [.bool bn] rfl rfl (cell_one_new _ _ _) (one_bool _) HM1.out HM2.out (base_alloc HSZ.out _) ?_)
        intro v' w1 hown' hgrow _
        have HO1 := Lib.hid (hend.out v' w1 hown')
        have HB1 := Lib.hid (grown_below (HB.out.alloc HSZ.out _) (HO.out.alloc _) (Nat.le_refl _) (base_alloc HSZ.out _) hgrow)
        clear hown' hgrow
        go_wp2
        go_roundw
        case rel => exact ⟨1, by omega, by go_num, HO1.out, HB1.out⟩
        case measure => simp [intOf]; omega
      · obtain ⟨j, rfl⟩ : ∃ j, k = j + 1 := ⟨k - 1, by omega⟩
        obtain ⟨g, cap', rfl, hg, hgl, _⟩ := owns_shape HO.out hpos
        obtain ⟨bp, hbp⟩ : ∃ b : Bool, b = pfx (sq l) (j + 1) := ⟨_, rfl⟩
        have hcp : wr.cell? ⟨g, j, none⟩ = some (.bool bp) := by
          have := owns_cell HO.out j (by rw [bools_len, oddL_len]; omega)
          rw [bools_get, oddL_get] at this
          rw [this, hbp]
        have HBN := Lib.hid (show bn = (bp ^^ bx) by rw [HN.out, pfx, ← hbp, HX.out])
        have q1 : IntKind.i64.wrap (j : Int) = j := IntWalk.i64_in _ (by omega)
        have q2 : (j : Int) < (j : Int) + 1 := by omega
        clear hbp
        cases bx <;> cases bp
        · obtain rfl : bn = false := HBN.out
          go_wp2
          go_quiet (fail)
          go_wp2_with (at_builtin; refine wpList_append_own _ rfl _ _ 22 rfl w.heap.size 4 i0 (.bool false) 1 1 Tryd.underlying22 hi hz0 hz1 hz2 rfl (by decide) _ _ _ rfl ((HO.out.drewN' nq).alloc _) ⟨wr.heap.size, 0, none⟩ 1 1 [.bool false] rfl rfl (cell_one_new _ _ _) (one_bool _) HM1.out HM2.out (base_alloc HSZ.out _) ?_)
          intro v' w1 hown' hgrow _
          have HO1 := Lib.hid (hend.out v' w1 hown')
          have HB1 := Lib.hid (grown_below ((Below.drewN' HB.out nq).alloc HSZ.out _) ((HO.out.drewN' nq).alloc _) (Nat.le_refl _) (base_alloc HSZ.out _) hgrow)
          clear hown' hgrow
          go_wp2
          go_roundw
          case rel => exact ⟨j + 2, by omega, by go_num, HO1.out, HB1.out⟩
          case measure => simp [intOf]; omega
        · obtain rfl : bn = true := HBN.out
          go_wp2
          go_quiet (fail)
          go_wp2_with (at_builtin; refine wpList_append_own _ rfl _ _ 22 rfl w.heap.size 4 i0 (.bool false) 1 1 Tryd.underlying22 hi hz0 hz1 hz2 rfl (by decide) _ _ _ rfl ((HO.out.drewN' nq).alloc _) ⟨wr.heap.size, 0, none⟩ 1 1 [.bool true] rfl rfl (cell_one_new _ _ _) (one_bool _) HM1.out HM2.out (base_alloc HSZ.out _) ?_)
          intro v' w1 hown' hgrow _
          have HO1 := Lib.hid (hend.out v' w1 hown')
          have HB1 := Lib.hid (grown_below ((Below.drewN' HB.out nq).alloc HSZ.out _) ((HO.out.drewN' nq).alloc _) (Nat.le_refl _) (base_alloc HSZ.out _) hgrow)
          clear hown' hgrow
          go_wp2
          go_roundw
          case rel => exact ⟨j + 2, by omega, by go_num, HO1.out, HB1.out⟩
          case measure => simp [intOf]; omega
        · obtain rfl : bn = true := HBN.out
          go_wp2
          go_quiet (fail)
          go_wp2_with (at_builtin; refine wpList_append_own _ rfl _ _ 22 rfl w.heap.size 4 i0 (.bool false) 1 1 Tryd.underlying22 hi hz0 hz1 hz2 rfl (by decide) _ _ _ rfl ((HO.out.drewN' nq).alloc _) ⟨wr.heap.size, 0, none⟩ 1 1 [.bool true] rfl rfl (cell_one_new _ _ _) (one_bool _) HM1.out HM2.out (base_alloc HSZ.out _) ?_)
          intro v' w1 hown' hgrow _
          have HO1 := Lib.hid (hend.out v' w1 hown')
          have HB1 := Lib.hid (grown_below ((Below.drewN' HB.out nq).alloc HSZ.out _) ((HO.out.drewN' nq).alloc _) (Nat.le_refl _) (base_alloc HSZ.out _) hgrow)
          clear hown' hgrow
          go_wp2
          go_roundw
          case rel => exact ⟨j + 2, by omega, by go_num, HO1.out, HB1.out⟩
          case measure => simp [intOf]; omega
        · obtain rfl : bn = false := HBN.out
          go_wp2
          go_quiet (fail)
          go_wp2_with (at_builtin; refine wpList_append_own _ rfl _ _ 22 rfl w.heap.size 4 i0 (.bool false) 1 1 Tryd.underlying22 hi hz0 hz1 hz2 rfl (by decide) _ _ _ rfl ((HO.out.drewN' nq).alloc _) ⟨wr.heap.size, 0, none⟩ 1 1 [.bool false] rfl rfl (cell_one_new _ _ _) (one_bool _) HM1.out HM2.out (base_alloc HSZ.out _) ?_)
          intro v' w1 hown' hgrow _
          have HO1 := Lib.hid (hend.out v' w1 hown')
          have HB1 := Lib.hid (grown_below ((Below.drewN' HB.out nq).alloc HSZ.out _) ((HO.out.drewN' nq).alloc _) (Nat.le_refl _) (base_alloc HSZ.out _) hgrow)
          clear hown' hgrow
          go_wp2
          go_roundw
          case rel => exact ⟨j + 2, by omega, by go_num, HO1.out, HB1.out⟩
          case measure => simp [intOf]; omega
    · have hkl : k = l.length := by omega
      have HK := Lib.hid hkl
      clear hkl hown hB
      go_wp2
      go_ret
      refine ⟨_, rfl, ?_, HB.out⟩
      have := Sl.owned HO.out
      rwa [HK.out] at this

def anyL (l : List Bool) (k : Nat) : List Bool := (List.range k).map fun i => por (sq l) (i + 1)
theorem anyL_len (l : List Bool) (k : Nat) : (anyL l k).length = k := by simp [anyL]
theorem anyL_succ (l : List Bool) (k : Nat) : anyL l (k + 1) = anyL l k ++ [por (sq l) (k + 1)] := by simp [anyL, List.range_succ]
theorem anyL_get (l : List Bool) (k i : Nat) (h : i < (anyL l k).length) : (anyL l k)[i] = por (sq l) (i + 1) := by simp [anyL]
set_option maxHeartbeats 1000000 in
theorem rscan_any (v : Value) (l : List Bool) (w : World) (hv : Sl w v l.length (bools l)) (hm : l.length ≤ 1048576) :
    Calls Tryd.prog 28 #[v, .bool false] w fun e w' => ∃ v, e = .returned v ∧ Sl w' v l.length (bools (anyL l l.length)) ∧ Below w.heap.size w w' := by
  obtain ⟨i0, hi, hz0, hz1, hz2⟩ := info_parts info_bool
  obtain ⟨_, ao, cap, rfl, hcells⟩ := hv
  have HC := Lib.hid hcells
  clear hcells
  go_enter Tryd.func28, Tryd.ntmps28
  go_wp2
  go_loopw [5, 6] (fun v i wr => ∃ k : Nat, k ≤ l.length ∧ i = .int .i64 k ∧ wr.ownsRow w.heap.size 4 1 v k (bools (anyL l k)) ∧ Below w.heap.size w wr) (fun _ i _ => l.length - (intOf i).toNat)
  case atStart => exact ⟨0, by omega, rfl, World.ownsRow_nil _ _ _ _, Below.refl _ _⟩
  case round =>
    obtain ⟨k, hk, rfl, hown, hB⟩ := hrel
    have HO := Lib.hid hown
    have HB := Lib.hid hB
    by_cases hlt : k < l.length
    · obtain ⟨b, off, rfl, hc⟩ := HC.out k (by rw [bools_len]; exact hlt)
      have hcl := keep_below hB _ _ hc
      rw [bools_get] at hcl
      obtain ⟨bx, hbx⟩ : ∃ b : Bool, b = l[k]'hlt := ⟨_, rfl⟩
      replace hcl : wr.cell? ⟨b, off + k, none⟩ = some (.bool bx) := by rw [hbx]; exact hcl
      have hX : sq l k = bx := (sq_in hlt).trans hbx.symm
      have HX := Lib.hid hX
      have HSZ := Lib.hid hB.size
      have HM1 : Hid (k + 1 ≤ maxLen) := Lib.hid (by unfold maxLen; omega)
      have HM2 : Hid ((k + 1) * 1 ≤ 140737488355328) := Lib.hid (by omega)
      clear hbx hc hown hB hX
      obtain ⟨bn, hbn⟩ : ∃ b : Bool, b = por (sq l) (k + 1) := ⟨_, rfl⟩
      have HN := Lib.hid hbn
      clear hbn
      have hend : Hid (∀ (v' : Value) (w1 : World), w1.ownsRow w.heap.size 4 1 v' (k + 1) (bools (anyL l k) ++ [.bool bn]) → w1.ownsRow w.heap.size 4 1 v' (k + 1) (bools (anyL l (k + 1)))) := Lib.hid (fun v' w1 h => by
        rw [anyL_succ, ← HN.out]; simpa [bools] using h)
      rcases Nat.eq_zero_or_pos k with rfl | hpos
      · have HBN := Lib.hid (show bn = bx by rw [HN.out, ← HX.out]; simp [por])
        obtain rfl := HBN.out
        rw [Nat.add_zero] at hcl
        go_wp2_with (at_builtin; refine wpList_append_own _ rfl _ _ 22 rfl w.heap.size 4 i0 (.bool false) 1 1 Tryd.underlying22 hi hz0 hz1 hz2 rfl (by decide) _ _ _ rfl (HO.out.alloc _) ⟨wr.heap.size, 0, none⟩ 1 1 [.bool bn] rfl rfl (cell_one_new _ _ _) (one_bool _) HM1.out HM2.out (base_alloc HSZ.out _) ?_)
        intro v' w1 hown' hgrow _
        have HO1 := Lib.hid (hend.out v' w1 hown')
        have HB1 := Lib.hid (grown_below (HB.out.alloc HSZ.out _) (HO.out.alloc _) (Nat.le_refl _) (base_alloc HSZ.out _) hgrow)
        clear hown' hgrow
        go_wp2
        go_roundw
        case rel => exact ⟨1, by omega, by go_num, HO1.out, HB1.out⟩
        case measure => simp [intOf]; omega
      · obtain ⟨j, rfl⟩ : ∃ j, k = j + 1 := ⟨k - 1, by omega⟩
        obtain ⟨g, cap', rfl, hg, hgl, _⟩ := owns_shape HO.out hpos
        obtain ⟨bp, hbp⟩ : ∃ b : Bool, b = por (sq l) (j + 1) := ⟨_, rfl⟩
        have hcp : wr.cell? ⟨g, j, none⟩ = some (.bool bp) := by
          have := owns_cell HO.out j (by rw [bools_len, anyL_len]; omega)
          rw [bools_get, anyL_get] at this
          rw [this, hbp]
        have HBN := Lib.hid (show bn = (bp || bx) by rw [HN.out, por, ← hbp, HX.out])
        have q1 : IntKind.i64.wrap (j : Int) = j := IntWalk.i64_in _ (by omega)
        have q2 : (j : Int) < (j : Int) + 1 := by omega
        clear hbp
        cases bx <;> cases bp
        · obtain rfl : bn = false := HBN.out
          go_wp2_with (at_builtin; refine wpList_append_own _ rfl _ _ 22 rfl w.heap.size 4 i0 (.bool false) 1 1 Tryd.underlying22 hi hz0 hz1 hz2 rfl (by decide) _ _ _ rfl (HO.out.alloc _) ⟨wr.heap.size, 0, none⟩ 1 1 [.bool false] rfl rfl (cell_one_new _ _ _) (one_bool _) HM1.out HM2.out (base_alloc HSZ.out _) ?_)
          intro v' w1 hown' hgrow _
          have HO1 := Lib.hid (hend.out v' w1 hown')
          have HB1 := Lib.hid (grown_below (HB.out.alloc HSZ.out _) (HO.out.alloc _) (Nat.le_refl _) (base_alloc HSZ.out _) hgrow)
          clear hown' hgrow
          go_wp2
          go_roundw
          case rel => exact ⟨j + 2, by omega, by go_num, HO1.out, HB1.out⟩
          case measure => simp [intOf]; omega
        · obtain rfl : bn = true := HBN.out
          go_wp2_with (at_builtin; refine wpList_append_own _ rfl _ _ 22 rfl w.heap.size 4 i0 (.bool false) 1 1 Tryd.underlying22 hi hz0 hz1 hz2 rfl (by decide) _ _ _ rfl (HO.out.alloc _) ⟨wr.heap.size, 0, none⟩ 1 1 [.bool true] rfl rfl (cell_one_new _ _ _) (one_bool _) HM1.out HM2.out (base_alloc HSZ.out _) ?_)
          intro v' w1 hown' hgrow _
          have HO1 := Lib.hid (hend.out v' w1 hown')
          have HB1 := Lib.hid (grown_below (HB.out.alloc HSZ.out _) (HO.out.alloc _) (Nat.le_refl _) (base_alloc HSZ.out _) hgrow)
          clear hown' hgrow
          go_wp2
          go_roundw
          case rel => exact ⟨j + 2, by omega, by go_num, HO1.out, HB1.out⟩
          case measure => simp [intOf]; omega
        · obtain rfl : bn = true := HBN.out
          go_wp2_with (at_builtin; refine wpList_append_own _ rfl _ _ 22 rfl w.heap.size 4 i0 (.bool false) 1 1 Tryd.underlying22 hi hz0 hz1 hz2 rfl (by decide) _ _ _ rfl (HO.out.alloc _) ⟨wr.heap.size, 0, none⟩ 1 1 [.bool true] rfl rfl (cell_one_new _ _ _) (one_bool _) HM1.out HM2.out (base_alloc HSZ.out _) ?_)
          intro v' w1 hown' hgrow _
          have HO1 := Lib.hid (hend.out v' w1 hown')
          have HB1 := Lib.hid (grown_below (HB.out.alloc HSZ.out _) (HO.out.alloc _) (Nat.le_refl _) (base_alloc HSZ.out _) hgrow)
          clear hown' hgrow
          go_wp2
          go_roundw
          case rel => exact ⟨j + 2, by omega, by go_num, HO1.out, HB1.out⟩
          case measure => simp [intOf]; omega
        · obtain rfl : bn = true := HBN.out
          go_wp2_with (at_builtin; refine wpList_append_own _ rfl _ _ 22 rfl w.heap.size 4 i0 (.bool false) 1 1 Tryd.underlying22 hi hz0 hz1 hz2 rfl (by decide) _ _ _ rfl (HO.out.alloc _) ⟨wr.heap.size, 0, none⟩ 1 1 [.bool true] rfl rfl (cell_one_new _ _ _) (one_bool _) HM1.out HM2.out (base_alloc HSZ.out _) ?_)
          intro v' w1 hown' hgrow _
          have HO1 := Lib.hid (hend.out v' w1 hown')
          have HB1 := Lib.hid (grown_below (HB.out.alloc HSZ.out _) (HO.out.alloc _) (Nat.le_refl _) (base_alloc HSZ.out _) hgrow)
          clear hown' hgrow
          go_wp2
          go_roundw
          case rel => exact ⟨j + 2, by omega, by go_num, HO1.out, HB1.out⟩
          case measure => simp [intOf]; omega
    · have hkl : k = l.length := by omega
      have HK := Lib.hid hkl
      clear hkl hown hB
      go_wp2
      go_ret
      refine ⟨_, rfl, ?_, HB.out⟩
      have := Sl.owned HO.out
      rwa [HK.out] at this
end Go.Proofs.YtkigkcncbobhaaaDoor

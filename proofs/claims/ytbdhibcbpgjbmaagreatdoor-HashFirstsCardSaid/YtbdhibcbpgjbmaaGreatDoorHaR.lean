/- Layer 19, walked: slices.Repeat of one slot, empty. Written by tools/gen_har.py. -/
import Derived.Test.YtbdhibcbpgjbmaaGreatDoorHaL
namespace Go.Proofs.YtbdhibcbpgjbmaaGreatDoor
set_option maxRecDepth 100000
open Go.RowKit
set_option linter.unusedVariables false

theorem flatH_one (S : List (Nat × Int)) : ∀ u ∈ flatH S, u.oneCell' = true := by
  intro u hu
  unfold flatH at hu
  obtain ⟨t, _, ht⟩ := List.mem_flatMap.1 hu
  simp at ht
  rcases ht with rfl | rfl <;> rfl
theorem bmul64H_calls (c : Nat) (hc : c ≤ 4000000) (w : World) : Calls Tryz.prog 139 #[.int .u64 1, .int .u64 (c : Int)] w fun e w' => e = .returned (.tuple #[.int .u64 0, .int .u64 (c : Int)]) ∧ w = w' := by
  have a1 : bits BinOp.and IntKind.u64 1 4294967295 = 1 := by decide +kernel
  have a2 : bits BinOp.and IntKind.u64 (c : Int) 4294967295 = (c : Int) := by
    have h := u64_and_nat c 4294967295 (by omega) (by decide)
    have e : c &&& 4294967295 = c := by
      have := Nat.and_two_pow_sub_one_eq_mod c 32
      rw [show (2 : Nat) ^ 32 - 1 = 4294967295 by decide] at this
      rw [this]; exact Nat.mod_eq_of_lt (by omega)
    rw [e] at h
    exact h
  have a3 : ((c : Int) / 4294967296) = 0 := by omega
  go_enter Tryz.func139, Tryz.ntmps139
  go_wp2
  go_ret2
  exact ⟨rfl, rfl⟩
theorem bmulH_calls (c : Nat) (hc : c ≤ 4000000) (w : World) : Calls Tryz.prog 121 #[.int .u64 1, .int .u64 (c : Int)] w fun e w' => e = .returned (.tuple #[.int .u64 0, .int .u64 (c : Int)]) ∧ w = w' := by
  have HC := Lib.hid hc
  go_enter Tryz.func121, Tryz.ntmps121
  go_wp2_with ((with_reducible refine (bmul64H_calls c HC.out _).mono ?_); rintro e w' ⟨rfl, rfl⟩)
  go_ret2
  exact ⟨rfl, rfl⟩

set_option maxHeartbeats 4000000 in
theorem hrepeat_calls (b off cap c : Nat) (w : World) (h0 : w.cell? ⟨b, off, none⟩ = some (.int .u64 0)) (h1 : w.cell? ⟨b, off + 1, none⟩ = some (.int .i64 (-1))) (hc : c ≤ 4000000) :
    Calls Tryz.prog 97 #[.slice (some ⟨b, off, none⟩) 1 cap, .int .i64 (c : Int)] w fun e w' => e = .returned (.slice (some ⟨w.heap.size, 0, none⟩) c c) ∧ RowH w' w.heap.size (List.replicate c (0, -1)) ∧ Below w.heap.size w w' := by
  have HX := Lib.hid (And.intro h0 h1)
  have HC := Lib.hid hc
  have hmk := run_mkH c (by omega) w
  obtain ⟨i0, hi, hz0, hz1, hz2⟩ := info_parts info_slot
  have HSZ := Lib.hid (show (Tryz.prog.info? 110).map (·.size) = some 2 by rw [hi]; simp [hz1])
  clear hi hz0 hz1 hz2
  obtain ⟨W0, hW0⟩ : ∃ W0, W0 = w.alloc (.cells (zerosH c) 110) := ⟨_, rfl⟩
  have HB0 := Lib.hid (show Below w.heap.size w W0 by rw [hW0]; exact below_new _ _)
  have HG0 := Lib.hid (show W0.heap[w.heap.size]? = some (.cells (flatH (repH c 0)).toArray 110 (0, 0)) by
    rw [hW0, repH_zero]; exact RowH.made c w)
  have HX0 := Lib.hid (And.intro (keep_below HB0.out _ _ HX.out.1) (keep_below HB0.out _ _ HX.out.2))
  obtain ⟨k, hk⟩ : ∃ k, Nat.min 1 c = k := ⟨_, rfl⟩
  have hkc : k ≤ c := by rw [← hk]; exact Nat.min_le_right _ _
  have HK1 := Lib.hid (show k ≤ 1 by rw [← hk]; exact Nat.min_le_left _ _)
  have HKC := Lib.hid (show 0 < c → 0 < k by intro h; rw [← hk]; show 0 < min 1 c; omega)
  have HKE := Lib.hid hk.symm
  obtain ⟨cs, hcs⟩ : ∃ cs : List Value, flatH (List.replicate k (0, -1)) = cs := ⟨_, rfl⟩
  have HCE := Lib.hid (show cs.length = k * 2 by rw [← hcs, flatH_len, List.length_replicate])
  have HCQ := Lib.hid (show ∀ (j : Nat) (u : Value), cs[j]? = some u → W0.cell? ⟨b, off + j, none⟩ = some u by
    intro j u hj
    obtain ⟨h9, h8⟩ := List.getElem?_eq_some_iff.1 hj
    rw [HCE.out] at h9
    obtain rfl : k = 1 := by have := HK1.out; omega
    obtain ⟨c0, c1⟩ := flatH_at (show (List.replicate 1 ((0 : Nat), (-1 : Int)))[0]? = some (0, -1) from rfl)
    rw [hcs] at c0 c1
    by_cases hj0 : j = 0
    · subst hj0; rw [Nat.zero_mul, hj] at c0; rw [Option.some.inj c0]; exact HX0.out.1
    · obtain rfl : j = 1 := by omega
      rw [Nat.zero_mul, Nat.zero_add, hj] at c1; rw [Option.some.inj c1]; exact HX0.out.2)
  have HCF := Lib.hid (show 0 + cs.length ≤ (flatH (repH c 0)).length by rw [HCE.out, flatH_len, repH_len c 0 (by omega)]; omega)
  have HC1 := Lib.hid (show ∀ u ∈ cs, u.oneCell' = true by rw [← hcs]; exact flatH_one _)
  have HSP := Lib.hid (show splice (flatH (repH c 0)) 0 cs = flatH (repH c k) by rw [← hcs]; have := repH_splice c 0 k (by omega); rwa [Nat.zero_add, Nat.zero_mul] at this)
  clear h0 h1 hcs hk
  have hfold := hW0.symm
  clear hW0
  go_enter Tryz.func97, Tryz.ntmps97
  go_wp2_with (first | ((with_reducible refine (bmulH_calls c HC.out _).mono ?_); rintro e w' ⟨rfl, rfl⟩) | ((with_reducible show wpList _ _ _ ({ dst := some 33, op := _, type := _, pos := _, after := _, guard := _ } :: _) _ _); go_must (refine wpList_copy_splice2 rfl (.tmp 31) (.tmp 32) 104 104 rfl 110 Tryz.underlying104 HSZ.out _ _ c c 1 cap k rfl rfl w.heap.size 0 (flatH (repH c 0)) 110 HG0.out cs HKE.out HCE.out (fun _ => ⟨rfl, _, rfl, fun j u hj => add_cell (HCQ.out j u hj)⟩) HCF.out HC1.out w.heap.size w HB0.out (Nat.le_refl _) ?_)))
  intro w2 HG2 hB2
  rw [HSP.out] at HG2
  have HB2 := Lib.hid hB2; clear hB2 hfold hmk; clear HX0 HCQ HCF HC1 HCE HKE
  go_wp2
  go_loopw [8] (fun nn wr => ∃ n : Nat, n ≤ c ∧ (0 < c → 0 < n) ∧ nn = .int .i64 n ∧ Hid (wr.heap[w.heap.size]? = some (.cells (flatH (repH c n)).toArray 110 (0, 0))) ∧ Below w.heap.size w wr) (fun nn _ => c - (intOf nn).toNat)
  case atStart => exact ⟨k, hkc, HKC.out, rfl, HG2, HB2.out⟩
  case round =>
    obtain ⟨n, hn, hpos, rfl, HG, hB⟩ := hrel
    have HB := Lib.hid hB; have HP := Lib.hid hpos; clear hB hpos
    by_cases hlt : n < c
    · obtain ⟨q, hq⟩ : ∃ q, Nat.min n (c - n) = q := ⟨_, rfl⟩
      have hn0 : 0 < n := HP.out (by omega)
      have hq0 : 0 < q := by rw [← hq]; show 0 < min n (c - n); omega
      have hqc : n + q ≤ c := by have : q ≤ c - n := by rw [← hq]; exact Nat.min_le_right _ _
                                 omega
      have hqn : q ≤ n := by rw [← hq]; exact Nat.min_le_left _ _
      obtain ⟨cs2, hcs⟩ : ∃ cs2 : List Value, flatH (List.replicate q (0, -1)) = cs2 := ⟨_, rfl⟩
      have HCE := Lib.hid (show cs2.length = q * 2 by rw [← hcs, flatH_len, List.length_replicate])
      have HCQ := Lib.hid (show ∀ (j : Nat) (u : Value), cs2[j]? = some u → wr.cell? ⟨w.heap.size, 0 + j, none⟩ = some u by
        intro j u hj
        rw [Nat.zero_add]
        refine row_cell HG.out ?_
        have e : flatH (repH c n) = cs2 ++ flatH (List.replicate (n - q) (0, -1) ++ List.replicate (c - n) (0, 0)) := by
          rw [← hcs, ← flatH_app, ← List.append_assoc, List.replicate_append_replicate, show q + (n - q) = n by omega]; rfl
        rw [e, List.getElem?_append_left (List.getElem?_eq_some_iff.1 hj).1]
        exact hj)
      have HS0 := Lib.hid (show wr.cell? ⟨w.heap.size, 0, none⟩ = some (.int .u64 0) from (RowH.cell HG.out (i := 0) (repH_get c n hn0)).1)
      have HC1 := Lib.hid (show ∀ u ∈ cs2, u.oneCell' = true by rw [← hcs]; exact flatH_one _)
      have HSP := Lib.hid (show splice (flatH (repH c n)) (n * 2) cs2 = flatH (repH c (n + q)) by rw [← hcs]; exact repH_splice c n q hqc)
      have HHQ := Lib.hid hq
      obtain ⟨e, he⟩ : ∃ e, c - n = e := ⟨_, rfl⟩
      have HQE := Lib.hid (show q = Nat.min n e by rw [← he, hq])
      have HCF := Lib.hid (show n * 2 + cs2.length ≤ (flatH (repH c n)).length by rw [HCE.out, flatH_len, repH_len c n hn]; omega)
      clear hcs hq
      go_wp2_with fail
      --TREE
      have hcn : (c = n) = False := eq_false (by omega)
      have HGO := Lib.hid HG.out; have HBW := Lib.hid HB.out
      obtain ⟨W11, hWD, hB⟩ := drwn wr
      replace HS0 := Lib.hid (keep_below hB _ _ HS0.out)
      replace HB := cb hB HB
      replace HG := Lib.hid ((hB.block _ (lt_heap HG.out)).trans HG.out)
      replace HCQ := Lib.hid (fun j u hj => keep_below hB _ _ (HCQ.out j u hj))
      clear hB
      refine rgn (S := fun w' => w'.cell? ⟨w.heap.size, 0, none⟩ = some (.int .u64 0)) hWD HS0.out (fun hHeld => ?_)
      clear hWD; apply tk 0; apply tk 1; apply tk 2; apply tk 3; apply tk 4; apply tk 5; apply tk 6
      apply rdy 7; intro K hK; clear hHeld
      refine step_copy_splice2 rfl (.tmp 41) (.tmp 44) 104 104 rfl 110 Tryz.underlying104 HSZ.out (some ⟨w.heap.size, n * 2, none⟩) (some ⟨w.heap.size, 0, none⟩) e e n c q rfl rfl w.heap.size (n * 2) (flatH (repH c n)) 110 HG.out cs2 HQE.out HCE.out (fun _ => ⟨rfl, _, rfl, fun j u hj => add_cell (HCQ.out j u hj)⟩) HCF.out HC1.out w.heap.size w HB.out (Nat.le_refl _) ?_
      intro w4 HG4 hB4
      rw [HSP.out] at HG4
      have HB4 := Lib.hid hB4
      have HS4 := Lib.hid (show w4.cell? ⟨w.heap.size, 0, none⟩ = some (.int .u64 0) from (RowH.cell HG4.out (i := 0) (repH_get c (n + q) (by omega))).1)
      clear hB4
      refine hK.out _ _ HS4.out (fun hHeld => ?_)
      clear hK K; apply tk 8; apply tk 9
      refine wpAnyH_done (by kernel_rfl) ?_ _
      clear hHeld
      have hw : IntKind.i64.wrap ((n : Int) + (q : Int)) = ((n + q : Nat) : Int) := by rw [IntWalk.i64_in _ (by omega)]; omega
      go_wp2
      go_roundw
      case rel => exact ⟨n + q, hqc, fun _ => by omega, congrArg (Value.int .i64) (by rw [IntWalk.i64_in _ (by omega)]; omega), HG4, HB4.out⟩
      case measure => simp [intOf]; omega
      --END
    · have hnc : n = c := by omega
      have HL := Lib.hid (show RowH wr w.heap.size (List.replicate c (0, -1)) by
        rw [hnc, repH_full] at HG
        exact HG.out)
      clear hnc
      go_wp2
      go_ret
      exact ⟨rfl, HL.out, HB.out⟩
set_option maxHeartbeats 4000000 in
theorem hempty_calls (c : Nat) (w : World) (hc : c ≤ 4000000) :
    Calls Tryz.prog 66 #[.int .i64 (c : Int)] w fun e w' => ∃ g, e = .returned (.slice (some ⟨g, 0, none⟩) c c) ∧ w.heap.size ≤ g ∧ RowH w' g (List.replicate c (0, -1)) ∧ Below w.heap.size w w' := by
  obtain ⟨W1, hW1⟩ : ∃ W1, w.alloc (.cells #[.int .u64 0, .int .i64 (-1)] 110) = W1 := ⟨_, rfl⟩
  have HA := Lib.hid (show At2 W1 w.heap.size (.int .u64 0) (.int .i64 (-1)) by rw [← hW1]; exact At2.new _ _ _ _)
  have HB := Lib.hid (show Below w.heap.size w W1 by rw [← hW1]; exact below_new _ _)
  have HC := Lib.hid hc; clear hc
  go_enter Tryz.func66, Tryz.ntmps66
  go_wp2_with fail
  refine (hrepeat_calls w.heap.size 0 _ c W1 HA.out.2.1 HA.out.2.2.1 HC.out).mono ?_
  rintro e w2 ⟨rfl, hR, hB⟩
  have HR := Lib.hid hR
  have HB2 := Lib.hid (HB.out.trans (hB.mono HB.out.size))
  clear hR hB
  go_wp2_with fail
  go_ret
  exact ⟨_, rfl, HB.out.size, HR.out, HB2.out⟩
end Go.Proofs.YtbdhibcbpgjbmaaGreatDoor

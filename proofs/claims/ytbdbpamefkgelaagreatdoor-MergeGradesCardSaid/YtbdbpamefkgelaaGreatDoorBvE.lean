/- Package bitvec: Not. -/
import Derived.Test.YtbdbpamefkgelaaGreatDoorBvB
namespace Go.Proofs.YtbdbpamefkgelaaGreatDoor
set_option maxRecDepth 100000
open Go.RowKit
set_option linter.unusedVariables false

theorem not_val (F : Nat → Bool) (i : Nat) : bits BinOp.xor IntKind.u64 (if IntKind.u64.signed = true then -1 else IntKind.u64.max) (bw F i : Int) = ((bw (fun k => !F k) i : Nat) : Int) := by
  have h := u64_xor_nat 18446744073709551615 (bw F i) (by decide) (bw_lt F i)
  have e : 18446744073709551615 ^^^ bw F i = bw (fun k => !F k) i := by
    apply bw_ext
    · exact Nat.xor_lt_two_pow (n := 64) (by decide) (bw_lt _ _)
    · intro j hj; rw [Nat.testBit_xor, testBit_ones, testBit_bw]; simp [hj]
  rw [e] at h
  exact h
set_option maxHeartbeats 1000000 in
theorem not_calls (v : Value) (l : List Bool) (w : World) (hv : IsBits w v l) (hl : l.length ≤ 1048576) :
    Calls Tryz.prog 95 #[v] w fun e w' => ∃ v, e = .returned v ∧ IsBits w' v (l.map fun b => !b) ∧ Below w.heap.size w w' := by
  obtain ⟨ao, cap, rfl, hcells⟩ := hv.opened
  have HC := Lib.hid hcells
  clear hcells hv
  obtain ⟨K, hK⟩ : ∃ K, (l.length + 63) / 64 = K := ⟨_, rfl⟩
  have hK2 : K ≤ 20000 := by omega
  rw [hK] at HC ⊢
  have HK := Lib.hid hK
  clear hK
  have hP := (At2.new w (.int .i64 l.length) (.slice ao K cap) 82).alloc (.cells #[.int .i64 0, .slice none 0 0] 82)
  have hA := At2.new (w.alloc (.cells #[.int .i64 l.length, .slice ao K cap] 82)) (.int .i64 0) (.slice none 0 0) 82
  simp only [World.size_alloc] at hA
  go_enter Tryz.func95, Tryz.ntmps95
  go_wp2_with fail
  refine (blank_K l.length K (by omega) HK.out _).mono ?_
  rintro e w1 ⟨g, rfl, ho, hB⟩
  have hg := ho.ge
  simp only [World.size_alloc] at hg
  have hgl := ho.lt
  obtain ⟨W0, hW0⟩ : ∃ W0, W0 = w1.alloc (.cells #[.int .i64 l.length, .slice (some ⟨g, 0, none⟩) K K] 82) := ⟨_, rfl⟩
  have hP0 : Hid (At2 W0 w.heap.size (.int .i64 l.length) (.slice ao K cap)) := Lib.hid (by rw [hW0]; exact (hP.below hB).alloc _)
  have hA0 : Hid (At2 W0 (w.heap.size + 1) (.int .i64 0) (.slice none 0 0)) := Lib.hid (by rw [hW0]; exact (hA.below hB).alloc _)
  have hZ0 : Hid (At2 W0 w1.heap.size (.int .i64 l.length) (.slice (some ⟨g, 0, none⟩) K K)) := Lib.hid (by rw [hW0]; exact At2.new _ _ _ _)
  have HO : Hid (Own W0 _ g K (List.replicate K 0)) := Lib.hid (by rw [hW0]; exact ho.alloc _)
  have HW : Hid (Below w.heap.size w W0) := Lib.hid (by rw [hW0]; exact ((((Below.refl _ _).alloc (Nat.le_refl _) _).alloc (by simp) _).trans (hB.mono (by simp; omega))).alloc (by have := hB.size; simp at this; omega) _)
  clear ho hB hA hP
  go_wp2
  rw [← hW0]
  clear hW0
  go_loopw [11] (fun i wr => ∃ k : Nat, k ≤ K ∧ i = .int .i64 k ∧ Own wr (w.heap.size + 2) g K (part (bw fun k => !sq l k) K k) ∧ W0.grownBy wr (some g)) (fun i _ => K - (intOf i).toNat)
  case atStart => exact ⟨0, by omega, rfl, by rw [part_zero]; simpa using HO.out, grown_refl _ _⟩
  case round =>
    obtain ⟨k, hk, rfl, hown, hgr⟩ := hrel
    have HO' := Lib.hid hown
    have HG := Lib.hid hgr
    obtain ⟨zl, z0, z1, zf⟩ := hZ0.out.grown hgr (by simp; omega)
    have hBr := Lib.hid (HW.out.grown hgr HW.out.size (fun j hj => by cases hj; omega))
    by_cases hlt : k < K
    · obtain ⟨b, off, rfl, hc⟩ := HC.out k hlt
      have hcl := keep_below hBr.out _ _ hc
      obtain ⟨pl, p0, p1, pf⟩ := hP0.out.grown hgr (by simp; omega)
      obtain ⟨z, _, hzc⟩ := hown.cellz k hlt
      have hfr := hown.free k
      have HV := Lib.hid (not_val (sq l) k)
      clear zf hown hgr hc pf
      go_wp2
      refine still_tail 10 (by kernel_rfl) (by kernel_rfl) ?_
      simp only [List.take_succ_cons, List.take_zero, List.drop_succ_cons, List.drop_zero]
      repeat (refine wpStill_step (fun K hK => ?_); go_simp; (refine hK _ ?_; clear hK K))
      refine wpStill_nil ?_
      go_wp2
      go_roundw
      case rel =>
        refine ⟨k + 1, by omega, by go_num, ?_, grown_drew (grown_trans HG.out (grown_setCell _ ⟨g, k, none⟩ _))⟩
        rw [HV.out, ← part_set]
        exact (HO'.out.set k _).drew
      case measure => simp [intOf]; omega
    · have hkK : k = K := by omega
      rw [hkK] at HO'
      clear zf hown hgr
      go_wp2_with fail
      refine (trim_K l.length K g _ _ (by omega) HK.out wr HO'.out (by rw [part_bws]; exact bws_lt _ _)).mono ?_
      rintro e w2 ⟨rfl, ho2, hg2⟩
      have hG2 := Lib.hid (grown_trans HG.out hg2)
      obtain ⟨zl, z0, z1, zf⟩ := hZ0.out.grown hG2.out (by simp; omega)
      obtain ⟨al, a0, a1, af⟩ := hA0.out.grown hG2.out (by simp; omega)
      have af0 := af 0
      have af1 := af 1
      have HO2 := Lib.hid ho2
      clear zf af ho2 hg2
      go_wp2
      refine bodyPost_ret (v := .agg #[.int .i64 l.length, .slice (some ⟨g, 0, none⟩) K K]) (by simp [results, Tryz.results95, go_sem, a0, a1]) rfl ⟨_, rfl, ?_, ?_⟩
      · refine finish_bits _ _ HO2.out ?_ (by simp) HK.out (by omega)
        have := trimmed_bws (fun k => !sq l k) (l.map fun b => !b) (fun k hk => by
          have hk' : k < l.length := by simpa using hk
          simp [sq, hk'])
        rw [part_bws, ← HK.out]
        simpa using this
      · exact below_set2 _ _ (HW.out.grown hG2.out HW.out.size (fun j hj => by cases hj; omega)) (by omega)
end Go.Proofs.YtbdbpamefkgelaaGreatDoor

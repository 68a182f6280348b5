/- Package bitvec: Make. -/
import Derived.Test.YtkigkcncbobhaaaDoorBvB
namespace Go.Proofs.YtkigkcncbobhaaaDoor
open Go.RowKit
set_option linter.unusedVariables false

theorem bw_true (i : Nat) : bw (fun _ => true) i = 18446744073709551615 := by
  symm; apply bw_ext _ _ _ (by decide); intro j hj; rw [testBit_ones]; simp [hj]
theorem bw_false (i : Nat) : bw (fun _ => false) i = 0 := by
  symm; apply bw_ext _ _ _ (by decide); intro j hj; simp
theorem sq_replicate (m k : Nat) (b : Bool) (h : k < m) : sq (List.replicate m b) k = b := by simp [sq, h]
theorem words_false (m : Nat) : words (List.replicate m false) = List.replicate ((m + 63) / 64) 0 := by
  apply List.ext_getElem (by rw [words_len]; simp)
  intro i h1 h2
  have e : (words (List.replicate m false))[i] = bw (sq (List.replicate m false)) i := bws_get _ _ _ _
  rw [e, List.getElem_replicate, ← bw_false i]
  apply bw_congr
  intro j _
  by_cases h : 64 * i + j < m
  · exact sq_replicate _ _ _ h
  · exact sq_out (by simp; omega)
theorem part_const (K : Nat) : part (fun _ => 18446744073709551615) K K = bws (fun _ => true) K := by
  rw [part_full]; exact List.map_congr_left fun i _ => (bw_true i).symm
theorem words_true (m : Nat) : trimmed m (bws (fun _ => true) ((m + 63) / 64)) = words (List.replicate m true) := by
  have := trimmed_bws (fun _ => true) (List.replicate m true) (fun k hk => (sq_replicate m k true (by simpa using hk)).symm)
  simpa using this

set_option maxHeartbeats 1000000 in
theorem make_calls (n : Int) (b : Bool) (m : Nat) (hm : min (max n 0) 1048576 = m) (w : World) :
    Calls Tryd.prog 13 #[.int .i64 n, .bool b] w fun e w' => ∃ v, e = .returned v ∧ IsBits w' v (List.replicate m b) ∧ Below w.heap.size w w' := by
  obtain ⟨K, hK⟩ : ∃ K, (m + 63) / 64 = K := ⟨_, rfl⟩
  have hm2 : m ≤ 1048576 := by omega
  have hK2 : K ≤ 20000 := by omega
  have HK := Lib.hid hK
  have HM := Lib.hid hm
  clear hK hm
  have hA := At2.new w (.int .i64 0) (.slice none 0 0) 26
  cases b
  · go_enter Tryd.func13, Tryd.ntmps13
    go_wp2_with (go_at_call 37; refine (clamp_nat _ _ m HM.out _).mono ?_; rintro e w' ⟨rfl, rfl⟩)
    refine (blank_K m K (by omega) HK.out _).mono ?_
    rintro e w1 ⟨g, rfl, ho, hB⟩
    have hg := ho.ge
    simp only [World.size_alloc] at hg
    obtain ⟨hl, hc0, hc1, hf⟩ := hA.below hB
    have hf0 := hf 0
    have hf1 := hf 1
    have HO := Lib.hid ho
    have HB := Lib.hid hB
    have hq := cell_set2_alloc (.int .i64 (m : Int)) (.slice (some ⟨g, 0, none⟩) K K) (.cells #[.int .i64 m, .slice (some ⟨g, 0, none⟩) K K] 26) hl hc0 hc1
    have hq0 := hq.1
    have hq1 := hq.2
    clear ho hB hA hf hq
    go_wp2
    refine bodyPost_ret (v := .agg #[.int .i64 m, .slice (some ⟨g, 0, none⟩) K K]) (by simp [results, Tryd.results13, go_sem, hq0, hq1]) rfl ⟨_, rfl, ?_, ?_⟩
    · refine IsBits.keep (keep_alloc _ _) (finish_bits _ _ HO.out ?_ (by simp) HK.out (by omega))
      rw [words_false, HK.out]
    · exact (below_set2 _ _ (((Below.refl _ _).alloc (Nat.le_refl _) _).trans (HB.out.mono (by simp))) (Nat.le_refl _)).alloc (by simp; omega) _
  · go_enter Tryd.func13, Tryd.ntmps13
    go_wp2_with (go_at_call 37; refine (clamp_nat _ _ m HM.out _).mono ?_; rintro e w' ⟨rfl, rfl⟩)
    refine (blank_K m K (by omega) HK.out _).mono ?_
    rintro e w1 ⟨g, rfl, ho, hB⟩
    have hg := ho.ge
    simp only [World.size_alloc] at hg
    have hgl := ho.lt
    have HB := Lib.hid hB
    obtain ⟨W0, hW0⟩ : ∃ W0, W0 = w1.alloc (.cells #[.int .i64 m, .slice (some ⟨g, 0, none⟩) K K] 26) := ⟨_, rfl⟩
    have hz : W0.heap.size = w1.heap.size + 1 := by rw [hW0]; simp
    have hA0 : Hid (At2 W0 w.heap.size (.int .i64 0) (.slice none 0 0)) := Lib.hid (by rw [hW0]; exact (hA.below hB).alloc _)
    have hZ0 : Hid (At2 W0 w1.heap.size (.int .i64 m) (.slice (some ⟨g, 0, none⟩) K K)) := Lib.hid (by rw [hW0]; exact At2.new _ _ _ _)
    have HO : Hid (Own W0 _ g K (List.replicate K 0)) := Lib.hid (by rw [hW0]; exact ho.alloc _)
    have HS := Lib.hid hz
    have HW : Hid (Below w.heap.size w W0) := Lib.hid (by rw [hW0]; exact (((Below.refl _ _).alloc (Nat.le_refl _) _).trans (hB.mono (by simp))).alloc (by have := hB.size; simp at this; omega) _)
    clear ho hB hA hz
    go_wp2
    rw [← hW0]
    clear hW0
    go_loopw [14] (fun i wr => ∃ k : Nat, k ≤ K ∧ i = .int .i64 k ∧ Own wr (w.heap.size + 1) g K (part (fun _ => 18446744073709551615) K k) ∧ W0.grownBy wr (some g)) (fun i _ => K - (intOf i).toNat)
    case atStart => exact ⟨0, by omega, rfl, by rw [part_zero]; simpa using HO.out, grown_refl _ _⟩
    case round =>
      obtain ⟨k, hk, rfl, hown, hgr⟩ := hrel
      have HO' := Lib.hid hown
      have HG := Lib.hid hgr
      obtain ⟨zl, z0, z1, zf⟩ := hZ0.out.grown hgr (by simp; omega)
      clear hgr
      by_cases hlt : k < K
      · have hfr := hown.free k
        obtain ⟨z, _, hcl⟩ := hown.cellz k hlt
        clear zf hown
        go_wp2
        go_roundw
        case rel =>
          refine ⟨k + 1, by omega, by go_num, ?_, ?_⟩
          · have := HO'.out.set k 18446744073709551615
            rw [part_set (fun _ => 18446744073709551615)] at this
            exact this
          · exact grown_trans HG.out (grown_setCell _ ⟨g, k, none⟩ _)
        case measure => simp [intOf]; omega
      · have hkK : k = K := by omega
        subst hkK
        clear zf hown
        go_wp2_with fail
        refine (trim_K m k g _ _ (by omega) HK.out wr HO'.out (by rw [part_const]; exact bws_lt _ _)).mono ?_
        rintro e w2 ⟨rfl, ho2, hg2⟩
        have hG2 := Lib.hid (grown_trans HG.out hg2)
        obtain ⟨zl, z0, z1, zf⟩ := hZ0.out.grown hG2.out (by simp; omega)
        obtain ⟨al, a0, a1, af⟩ := hA0.out.grown hG2.out (by simp; omega)
        have af0 := af 0
        have af1 := af 1
        have HO2 := Lib.hid ho2
        clear zf af ho2 hg2
        go_wp2
        refine bodyPost_ret (v := .agg #[.int .i64 m, .slice (some ⟨g, 0, none⟩) k k]) (by simp [results, Tryd.results13, go_sem, a0, a1]) rfl ⟨_, rfl, ?_, ?_⟩
        · refine finish_bits _ _ HO2.out ?_ (by simp) HK.out (by omega)
          rw [part_const, ← HK.out, words_true]
        · exact below_set2 _ _ (HW.out.grown hG2.out HW.out.size (fun j hj => by cases hj; omega)) (Nat.le_refl _)
end Go.Proofs.YtkigkcncbobhaaaDoor

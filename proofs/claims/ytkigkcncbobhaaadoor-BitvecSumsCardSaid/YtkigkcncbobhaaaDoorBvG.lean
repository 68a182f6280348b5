/- Package bitvec: sweep, Parity, Fill. -/
import Derived.Test.YtkigkcncbobhaaaDoorBvB
import Derived.Test.YtkigkcncbobhaaaDoorShelf
namespace Go.Proofs.YtkigkcncbobhaaaDoor
open Go.RowKit
set_option linter.unusedVariables false

theorem spread_val (x : Int) (b : Bool) (h : x = b.toNat) (w : World) :
    Calls Tryd.prog 39 #[.int .u64 x] w fun e w' => e = .returned (.int .u64 (rowOf b)) ∧ w = w' := by
  subst h; exact spread_calls b w

/-- k doublings. -/
def dblN (w : Nat) : Nat → Nat
  | 0 => w
  | k + 1 => dbl (dblN w k) (2 ^ k)
theorem dblN_lt (w : Nat) (h : w < 18446744073709551616) : ∀ k, dblN w k < 18446744073709551616
  | 0 => h
  | k + 1 => dbl_lt _ _ (dblN_lt w h k)
theorem dblN_six (w : Nat) : dblN w 6 = sixfold w := rfl
theorem dbl_val (x s : Nat) (m : Int) (hm : m = 2 ^ s) (hx : x < 18446744073709551616) : bits BinOp.xor IntKind.u64 (x : Int) (IntKind.u64.wrap ((x : Int) * m)) = ((dbl x s : Nat) : Int) := by
  subst hm
  have e : IntKind.u64.wrap ((x : Int) * 2 ^ s) = ((x * 2 ^ s % 18446744073709551616 : Nat) : Int) := by
    rw [IntKind.wrap_u64, Int.natCast_emod, Int.natCast_mul, Int.natCast_pow]; rfl
  rw [e]; exact u64_xor_nat x _ hx (Nat.mod_lt _ (by decide))

theorem len63 (w : World) : Calls Tryd.prog 46 #[.int .u64 63] w fun e w' => e = .returned (.int .i64 6) ∧ w = w' :=
  (Tryd.bits_Len 63 w (by decide) (by decide)).mono fun e w' h => by
    obtain ⟨h1, h2⟩ := h
    exact ⟨h1.trans rfl, h2.symm⟩

set_option maxHeartbeats 600000 in
theorem parity1_calls (x c : Nat) (h : x < 18446744073709551616) (hc : c < 18446744073709551616) (w : World) :
    Calls Tryd.prog 45 #[.int .u64 x, .int .u64 c] w fun e w' => e = .returned (.int .u64 (sixfold x ^^^ c : Nat)) ∧ w = w' := by
  have HS := Lib.hid (u64_xor_nat (sixfold x) c (sixfold_lt x h) hc)
  go_enter Tryd.func45, Tryd.ntmps45
  go_wp2_with (go_at_call 46; refine (len63 _).mono ?_; rintro e w' ⟨rfl, rfl⟩)
  go_loop [0, 7] (fun u i => ∃ k : Nat, k ≤ 6 ∧ i = .int .i64 k ∧ u = .int .u64 (dblN x k : Nat)) (fun _ i => 6 - (intOf i).toNat)
  case atStart => exact ⟨0, by omega, rfl, rfl⟩
  case round =>
    obtain ⟨k, hk, rfl, rfl⟩ := hrel
    by_cases hlt : k < 6
    · have hx := dblN_lt x h k
      have HE := Lib.hid (show dblN x (k + 1) = dbl (dblN x k) (2 ^ k) from rfl)
      obtain ⟨y, hy⟩ : ∃ y, y = dblN x k := ⟨_, rfl⟩
      rw [← hy] at hx HE ⊢
      have HD := Lib.hid hy
      clear hy
      obtain rfl | rfl | rfl | rfl | rfl | rfl : k = 0 ∨ k = 1 ∨ k = 2 ∨ k = 3 ∨ k = 4 ∨ k = 5 := by omega
      · have HV := Lib.hid (dbl_val y 1 2 (by decide) hx)
        go_wp2
        go_round
        case rel => exact ⟨1, by omega, rfl, by rw [HV.out, HE.out]⟩
        case measure => simp [intOf]
      · have HV := Lib.hid (dbl_val y 2 4 (by decide) hx)
        go_wp2
        go_round
        case rel => exact ⟨2, by omega, rfl, by rw [HV.out, HE.out]⟩
        case measure => simp [intOf]
      · have HV := Lib.hid (dbl_val y 4 16 (by decide) hx)
        go_wp2
        go_round
        case rel => exact ⟨3, by omega, rfl, by rw [HV.out, HE.out]⟩
        case measure => simp [intOf]
      · have HV := Lib.hid (dbl_val y 8 256 (by decide) hx)
        go_wp2
        go_round
        case rel => exact ⟨4, by omega, rfl, by rw [HV.out, HE.out]⟩
        case measure => simp [intOf]
      · have HV := Lib.hid (dbl_val y 16 65536 (by decide) hx)
        go_wp2
        go_round
        case rel => exact ⟨5, by omega, rfl, by rw [HV.out, HE.out]⟩
        case measure => simp [intOf]
      · have HV := Lib.hid (dbl_val y 32 4294967296 (by decide) hx)
        go_wp2
        go_round
        case rel => exact ⟨6, by omega, rfl, by rw [HV.out, HE.out]⟩
        case measure => simp [intOf]
    · obtain rfl : k = 6 := by omega
      go_wp2
      go_ret
      exact ⟨ret_i HS.out, rfl⟩

set_option maxHeartbeats 600000 in
theorem sweep_parity (v : Value) (l : List Bool) (w : World) (hv : IsBits w v l) (hl : l.length ≤ 1048576) :
    Calls Tryd.prog 44 #[v, .func (.func 45) #[] #[]] w fun e w' => ∃ v, e = .returned v ∧ IsBits w' v ((List.range l.length).map fun k => pfx (sq l) (k + 1)) ∧ Below w.heap.size w w' := by
  obtain ⟨ao, cap, rfl, hcells⟩ := hv.opened
  have HC := Lib.hid hcells
  clear hcells hv
  obtain ⟨K, hK⟩ : ∃ K, (l.length + 63) / 64 = K := ⟨_, rfl⟩
  have hK2 : K ≤ 20000 := by omega
  rw [hK] at HC ⊢
  have HK := Lib.hid hK
  clear hK
  have hP := (At2.new w (.int .i64 l.length) (.slice ao K cap) 26).alloc (.cells #[.int .i64 0, .slice none 0 0] 26)
  have hA := At2.new (w.alloc (.cells #[.int .i64 l.length, .slice ao K cap] 26)) (.int .i64 0) (.slice none 0 0) 26
  simp only [World.size_alloc] at hA
  go_enter Tryd.func44, Tryd.ntmps44
  go_wp2_with fail
  refine (blank_K l.length K (by omega) HK.out _).mono ?_
  rintro e w1 ⟨g, rfl, ho, hB⟩
  have hg := ho.ge
  simp only [World.size_alloc] at hg
  have hgl := ho.lt
  obtain ⟨W0, hW0⟩ : ∃ W0, W0 = w1.alloc (.cells #[.int .i64 l.length, .slice (some ⟨g, 0, none⟩) K K] 26) := ⟨_, rfl⟩
  have hP0 : Hid (At2 W0 w.heap.size (.int .i64 l.length) (.slice ao K cap)) := Lib.hid (by rw [hW0]; exact (hP.below hB).alloc _)
  have hA0 : Hid (At2 W0 (w.heap.size + 1) (.int .i64 0) (.slice none 0 0)) := Lib.hid (by rw [hW0]; exact (hA.below hB).alloc _)
  have hZ0 : Hid (At2 W0 w1.heap.size (.int .i64 l.length) (.slice (some ⟨g, 0, none⟩) K K)) := Lib.hid (by rw [hW0]; exact At2.new _ _ _ _)
  have HO : Hid (Own W0 _ g K (List.replicate K 0)) := Lib.hid (by rw [hW0]; exact ho.alloc _)
  have HW : Hid (Below w.heap.size w W0) := Lib.hid (by rw [hW0]; exact ((((Below.refl _ _).alloc (Nat.le_refl _) _).alloc (by simp) _).trans (hB.mono (by simp; omega))).alloc (by have := hB.size; simp at this; omega) _)
  clear ho hB hA hP
  go_wp2
  rw [← hW0]
  clear hW0
  go_loopw [6, 14] (fun u i wr => ∃ k : Nat, k ≤ K ∧ i = .int .i64 k ∧ u = .int .u64 (rowOf (pfx (sq l) (64 * k)) : Nat) ∧ Own wr (w.heap.size + 2) g K (part (bw fun k => pfx (sq l) (k + 1)) K k) ∧ W0.grownBy wr (some g)) (fun _ i _ => K - (intOf i).toNat)
  case atStart => exact ⟨0, by omega, rfl, rfl, by rw [part_zero]; simpa using HO.out, grown_refl _ _⟩
  case round =>
    obtain ⟨k, hk, rfl, rfl, hown, hgr⟩ := hrel
    have HO' := Lib.hid hown
    have HG := Lib.hid hgr
    obtain ⟨zl, z0, z1, zf⟩ := hZ0.out.grown hgr (by simp; omega)
    have hBr := Lib.hid (HW.out.grown hgr HW.out.size (fun j hj => by cases hj; omega))
    by_cases hlt : k < K
    · obtain ⟨b, off, rfl, hc⟩ := HC.out k hlt
      have hcl := keep_below hBr.out _ _ hc
      obtain ⟨pl, p0, p1, pf⟩ := hP0.out.grown hgr (by simp; omega)
      obtain ⟨z, _, hzc⟩ := hown.cellz k hlt
      have hfr := hown.free k
      have hr := rowOf_lt (pfx (sq l) (64 * k))
      have HV := Lib.hid (bw_parity (sq l) k)
      have HL := Lib.hid (bw_last (fun k => pfx (sq l) (k + 1)) k)
      clear zf hown hgr hc pf
      go_wp2
      refine still_tail 12 (by kernel_rfl) (by kernel_rfl) ?_
      simp only [List.take_succ_cons, List.take_zero, List.drop_succ_cons, List.drop_zero]
      repeat (refine wpStill_step (fun K hK => ?_); go_simp; first | (refine hK _ ?_; clear hK K) | (refine ⟨_, stl (parity1_calls _ _ (bw_lt _ _) hr _), hK _ ?_⟩; clear hK K))
      refine wpStill_nil ?_
      rw [HV.out]
      go_wp2_with fail
      refine (spread_val _ (pfx (sq l) (64 * k + 64)) ?_ _).mono ?_
      · have hL : bw (fun k => pfx (sq l) (k + 1)) k / 2 ^ 63 = (pfx (sq l) (64 * k + 64)).toNat := HL.out
        show ((bw (fun k => pfx (sq l) (k + 1)) k : Nat) : Int) / 9223372036854775808 = _
        omega
      rintro e w' ⟨rfl, rfl⟩
      go_wp2
      go_roundw
      case rel =>
        refine ⟨k + 1, by omega, by go_num, rfl, ?_, grown_drew (grown_trans HG.out (grown_setCell _ ⟨g, k, none⟩ _))⟩
        rw [← part_set]
        exact (HO'.out.set k _).drew
      case measure => simp [intOf]; omega
    · have hkK : k = K := by omega
      rw [hkK] at HO'
      clear zf hown hgr
      go_wp2_with fail
      refine (trim_K l.length K g _ _ (by omega) HK.out wr HO'.out (by rw [part_bws]; exact bws_lt _ _)).mono ?_
      rintro e w2 ⟨rfl, ho2, hg2⟩
      have hG2 := Lib.hid (grown_trans HG.out hg2)
      obtain ⟨zl, z0, z1, zf⟩ := hZ0.out.grown hG2.out (by simp; omega)
      obtain ⟨al, a0, a1, af⟩ := hA0.out.grown hG2.out (by simp; omega)
      have af0 := af 0
      have af1 := af 1
      have HO2 := Lib.hid ho2
      clear zf af ho2 hg2
      go_wp2
      refine bodyPost_ret (v := .agg #[.int .i64 l.length, .slice (some ⟨g, 0, none⟩) K K]) (by simp [results, Tryd.results44, go_sem, a0, a1]) rfl ⟨_, rfl, ?_, ?_⟩
      · refine finish_bits _ _ HO2.out ?_ (by simp) HK.out (by omega)
        have := trimmed_bws (fun k => pfx (sq l) (k + 1)) ((List.range l.length).map fun k => pfx (sq l) (k + 1)) (fun k hk => by
          have hk' : k < l.length := by simpa using hk
          simp [sq, hk'])
        rw [part_bws, ← HK.out]
        simpa using this
      · exact below_set2 _ _ (HW.out.grown hG2.out HW.out.size (fun j hj => by cases hj; omega)) (by omega)
set_option maxHeartbeats 1000000 in
theorem parity_calls (v : Value) (l : List Bool) (w : World) (hv : IsBits w v l) (hl : l.length ≤ 1048576) :
    Calls Tryd.prog 27 #[v] w fun e w' => ∃ v, e = .returned v ∧ IsBits w' v ((List.range l.length).map fun k => pfx (sq l) (k + 1)) ∧ Below w.heap.size w w' := by
  obtain ⟨ao, cap, rfl, hcells⟩ := hv.opened
  have hA := At2.new (w.alloc (.cells #[.int .i64 l.length, .slice ao ((l.length + 63) / 64) cap] 26)) (.int .i64 0) (.slice none 0 0) 26
  simp only [World.size_alloc] at hA
  have HV : Hid (IsBits ((w.alloc (.cells #[.int .i64 l.length, .slice ao ((l.length + 63) / 64) cap] 26)).alloc (.cells #[.int .i64 0, .slice none 0 0] 26)) (.agg #[.int .i64 l.length, .slice ao ((l.length + 63) / 64) cap]) l) := Lib.hid ((hv.keep (keep_alloc _ _)).keep (keep_alloc _ _))
  clear hcells hv
  go_enter Tryd.func27, Tryd.ntmps27
  go_wp2_with fail
  refine (sweep_parity _ l _ HV.out hl).mono ?_
  rintro e w1 ⟨v, rfl, hv, hB⟩
  have hA1 := hA.below hB
  have HA := Lib.hid hA1
  have HV1 := Lib.hid hv
  have HB := Lib.hid hB
  obtain ⟨ao', cap', rfl, _⟩ := hv.opened
  obtain ⟨al, a0, a1, af⟩ := hA1
  have af0 := af 0
  have af1 := af 1
  clear hA hB hv af
  go_wp2
  refine bodyPost_ret (v := .agg #[.int .i64 (((List.range l.length).map fun k => pfx (sq l) (k + 1)).length : Nat), .slice ao' ((((List.range l.length).map fun k => pfx (sq l) (k + 1)).length + 63) / 64 : Nat) cap']) (by simp [results, Tryd.results27, go_sem, a0, a1]) rfl ⟨_, rfl, ?_, ?_⟩
  · simpa using HV1.out.set2 HA.out _ _
  · exact below_set2 _ _ ((((Below.refl _ _).alloc (Nat.le_refl _) _).alloc (by simp) _).trans (HB.out.mono (by simp; omega))) (by omega)

set_option maxHeartbeats 600000 in
theorem sweep_fill (v : Value) (l : List Bool) (w : World) (hv : IsBits w v l) (hl : l.length ≤ 1048576) :
    Calls Tryd.prog 44 #[v, .func (.func 47) #[] #[]] w fun e w' => ∃ v, e = .returned v ∧ IsBits w' v ((List.range l.length).map fun k => por (sq l) (k + 1)) ∧ Below w.heap.size w w' := by
  obtain ⟨ao, cap, rfl, hcells⟩ := hv.opened
  have HC := Lib.hid hcells
  clear hcells hv
  obtain ⟨K, hK⟩ : ∃ K, (l.length + 63) / 64 = K := ⟨_, rfl⟩
  have hK2 : K ≤ 20000 := by omega
  rw [hK] at HC ⊢
  have HK := Lib.hid hK
  clear hK
  have hP := (At2.new w (.int .i64 l.length) (.slice ao K cap) 26).alloc (.cells #[.int .i64 0, .slice none 0 0] 26)
  have hA := At2.new (w.alloc (.cells #[.int .i64 l.length, .slice ao K cap] 26)) (.int .i64 0) (.slice none 0 0) 26
  simp only [World.size_alloc] at hA
  go_enter Tryd.func44, Tryd.ntmps44
  go_wp2_with fail
  refine (blank_K l.length K (by omega) HK.out _).mono ?_
  rintro e w1 ⟨g, rfl, ho, hB⟩
  have hg := ho.ge
  simp only [World.size_alloc] at hg
  have hgl := ho.lt
  obtain ⟨W0, hW0⟩ : ∃ W0, W0 = w1.alloc (.cells #[.int .i64 l.length, .slice (some ⟨g, 0, none⟩) K K] 26) := ⟨_, rfl⟩
  have hP0 : Hid (At2 W0 w.heap.size (.int .i64 l.length) (.slice ao K cap)) := Lib.hid (by rw [hW0]; exact (hP.below hB).alloc _)
  have hA0 : Hid (At2 W0 (w.heap.size + 1) (.int .i64 0) (.slice none 0 0)) := Lib.hid (by rw [hW0]; exact (hA.below hB).alloc _)
  have hZ0 : Hid (At2 W0 w1.heap.size (.int .i64 l.length) (.slice (some ⟨g, 0, none⟩) K K)) := Lib.hid (by rw [hW0]; exact At2.new _ _ _ _)
  have HO : Hid (Own W0 _ g K (List.replicate K 0)) := Lib.hid (by rw [hW0]; exact ho.alloc _)
  have HW : Hid (Below w.heap.size w W0) := Lib.hid (by rw [hW0]; exact ((((Below.refl _ _).alloc (Nat.le_refl _) _).alloc (by simp) _).trans (hB.mono (by simp; omega))).alloc (by have := hB.size; simp at this; omega) _)
  clear ho hB hA hP
  go_wp2
  rw [← hW0]
  clear hW0
  go_loopw [6, 14] (fun u i wr => ∃ k : Nat, k ≤ K ∧ i = .int .i64 k ∧ u = .int .u64 (rowOf (por (sq l) (64 * k)) : Nat) ∧ Own wr (w.heap.size + 2) g K (part (bw fun k => por (sq l) (k + 1)) K k) ∧ W0.grownBy wr (some g)) (fun _ i _ => K - (intOf i).toNat)
  case atStart => exact ⟨0, by omega, rfl, rfl, by rw [part_zero]; simpa using HO.out, grown_refl _ _⟩
  case round =>
    obtain ⟨k, hk, rfl, rfl, hown, hgr⟩ := hrel
    have HO' := Lib.hid hown
    have HG := Lib.hid hgr
    obtain ⟨zl, z0, z1, zf⟩ := hZ0.out.grown hgr (by simp; omega)
    have hBr := Lib.hid (HW.out.grown hgr HW.out.size (fun j hj => by cases hj; omega))
    by_cases hlt : k < K
    · obtain ⟨b, off, rfl, hc⟩ := HC.out k hlt
      have hcl := keep_below hBr.out _ _ hc
      obtain ⟨pl, p0, p1, pf⟩ := hP0.out.grown hgr (by simp; omega)
      obtain ⟨z, _, hzc⟩ := hown.cellz k hlt
      have hfr := hown.free k
      have hr := rowOf_lt (por (sq l) (64 * k))
      have HV := Lib.hid (bw_fill (sq l) k)
      have HL := Lib.hid (bw_last (fun k => por (sq l) (k + 1)) k)
      clear zf hown hgr hc pf
      go_wp2
      refine still_tail 12 (by kernel_rfl) (by kernel_rfl) ?_
      simp only [List.take_succ_cons, List.take_zero, List.drop_succ_cons, List.drop_zero]
      repeat (refine wpStill_step (fun K hK => ?_); go_simp; first | (refine hK _ ?_; clear hK K) | (refine ⟨_, stl (fill1_calls _ _ (bw_lt _ _) hr _), hK _ ?_⟩; clear hK K))
      refine wpStill_nil ?_
      rw [HV.out]
      go_wp2_with fail
      refine (spread_val _ (por (sq l) (64 * k + 64)) ?_ _).mono ?_
      · have hL : bw (fun k => por (sq l) (k + 1)) k / 2 ^ 63 = (por (sq l) (64 * k + 64)).toNat := HL.out
        show ((bw (fun k => por (sq l) (k + 1)) k : Nat) : Int) / 9223372036854775808 = _
        omega
      rintro e w' ⟨rfl, rfl⟩
      go_wp2
      go_roundw
      case rel =>
        refine ⟨k + 1, by omega, by go_num, rfl, ?_, grown_drew (grown_trans HG.out (grown_setCell _ ⟨g, k, none⟩ _))⟩
        rw [← part_set]
        exact (HO'.out.set k _).drew
      case measure => simp [intOf]; omega
    · have hkK : k = K := by omega
      rw [hkK] at HO'
      clear zf hown hgr
      go_wp2_with fail
      refine (trim_K l.length K g _ _ (by omega) HK.out wr HO'.out (by rw [part_bws]; exact bws_lt _ _)).mono ?_
      rintro e w2 ⟨rfl, ho2, hg2⟩
      have hG2 := Lib.hid (grown_trans HG.out hg2)
      obtain ⟨zl, z0, z1, zf⟩ := hZ0.out.grown hG2.out (by simp; omega)
      obtain ⟨al, a0, a1, af⟩ := hA0.out.grown hG2.out (by simp; omega)
      have af0 := af 0
      have af1 := af 1
      have HO2 := Lib.hid ho2
      clear zf af ho2 hg2
      go_wp2
      refine bodyPost_ret (v := .agg #[.int .i64 l.length, .slice (some ⟨g, 0, none⟩) K K]) (by simp [results, Tryd.results44, go_sem, a0, a1]) rfl ⟨_, rfl, ?_, ?_⟩
      · refine finish_bits _ _ HO2.out ?_ (by simp) HK.out (by omega)
        have := trimmed_bws (fun k => por (sq l) (k + 1)) ((List.range l.length).map fun k => por (sq l) (k + 1)) (fun k hk => by
          have hk' : k < l.length := by simpa using hk
          simp [sq, hk'])
        rw [part_bws, ← HK.out]
        simpa using this
      · exact below_set2 _ _ (HW.out.grown hG2.out HW.out.size (fun j hj => by cases hj; omega)) (by omega)
set_option maxHeartbeats 1000000 in
theorem fill_calls (v : Value) (l : List Bool) (w : World) (hv : IsBits w v l) (hl : l.length ≤ 1048576) :
    Calls Tryd.prog 29 #[v] w fun e w' => ∃ v, e = .returned v ∧ IsBits w' v ((List.range l.length).map fun k => por (sq l) (k + 1)) ∧ Below w.heap.size w w' := by
  obtain ⟨ao, cap, rfl, hcells⟩ := hv.opened
  have hA := At2.new (w.alloc (.cells #[.int .i64 l.length, .slice ao ((l.length + 63) / 64) cap] 26)) (.int .i64 0) (.slice none 0 0) 26
  simp only [World.size_alloc] at hA
  have HV : Hid (IsBits ((w.alloc (.cells #[.int .i64 l.length, .slice ao ((l.length + 63) / 64) cap] 26)).alloc (.cells #[.int .i64 0, .slice none 0 0] 26)) (.agg #[.int .i64 l.length, .slice ao ((l.length + 63) / 64) cap]) l) := Lib.hid ((hv.keep (keep_alloc _ _)).keep (keep_alloc _ _))
  clear hcells hv
  go_enter Tryd.func29, Tryd.ntmps29
  go_wp2_with fail
  refine (sweep_fill _ l _ HV.out hl).mono ?_
  rintro e w1 ⟨v, rfl, hv, hB⟩
  have hA1 := hA.below hB
  have HA := Lib.hid hA1
  have HV1 := Lib.hid hv
  have HB := Lib.hid hB
  obtain ⟨ao', cap', rfl, _⟩ := hv.opened
  obtain ⟨al, a0, a1, af⟩ := hA1
  have af0 := af 0
  have af1 := af 1
  clear hA hB hv af
  go_wp2
  refine bodyPost_ret (v := .agg #[.int .i64 (((List.range l.length).map fun k => por (sq l) (k + 1)).length : Nat), .slice ao' ((((List.range l.length).map fun k => por (sq l) (k + 1)).length + 63) / 64 : Nat) cap']) (by simp [results, Tryd.results29, go_sem, a0, a1]) rfl ⟨_, rfl, ?_, ?_⟩
  · simpa using HV1.out.set2 HA.out _ _
  · exact below_set2 _ _ ((((Below.refl _ _).alloc (Nat.le_refl _) _).alloc (by simp) _).trans (HB.out.mono (by simp; omega))) (by omega)
end Go.Proofs.YtkigkcncbobhaaaDoor

/- Package bitvec: Pack. -/
import Derived.Test.YtbdhibcbpgjbmaaGreatDoorBvB
namespace Go.Proofs.YtbdhibcbpgjbmaaGreatDoor
set_option maxRecDepth 100000
open Go.RowKit
set_option linter.unusedVariables false

theorem bws_at {F : Nat → Bool} {K q z : Nat} (h : (bws F K)[q]? = some z) : z = bw F q := by
 obtain ⟨hl, e⟩ := List.getElem?_eq_some_iff.1 h
 rw [← e, bws_get]
theorem or_bit (z r : Nat) (hz : z < 18446744073709551616) (hr : r < 64) : bits BinOp.or IntKind.u64 (z : Int) (IntKind.u64.wrap (2 ^ r)) = ((z ||| 2 ^ r : Nat) : Int) := by
 have h1 : (2 : Nat) ^ r < 18446744073709551616 := Nat.pow_lt_pow_right (m := r) (n := 64) (by decide) hr
 have e : IntKind.u64.wrap (2 ^ r) = ((2 ^ r : Nat) : Int) := by
  rw [IntKind.wrap_u64, show ((2 : Int) ^ r) = ((2 ^ r : Nat) : Int) by simp]
  exact Int.emod_eq_of_lt (Int.natCast_nonneg _) (Int.ofNat_lt.2 h1)
 rw [e]; exact u64_or_nat z _ hz h1
theorem words_take (l : List Bool) (K : Nat) (h : (l.length + 63) / 64 = K) : bws (sq (l.take l.length)) K = words l := by subst h; rw [List.take_length]; rfl
theorem bws_nil (l : List Bool) (K : Nat) : bws (sq (l.take 0)) K = List.replicate K 0 := by
 apply List.ext_getElem (by simp [bws])
 intro i h1 h2
 rw [bws_get, List.getElem_replicate]
 symm; apply bw_ext _ _ _ (by decide); intro j hj; simp [sq]

set_option maxRecDepth 100000 in
set_option maxHeartbeats 1000000 in
theorem pack_fresh (v : Value) (l : List Bool) (w : World) (hv : Sl w v l.length (bools l)) (hl : l.length ≤ 1048576) :
  Calls Tryz.prog 82 #[v] w fun e w' => ∃ v, e = .returned v ∧ IsBitsX w' (fun b => w.heap.size + 1 ≤ b) v l ∧ Below w.heap.size w w' := by
 obtain ⟨K, hK⟩ : ∃ K, (l.length + 63) / 64 = K := ⟨_, rfl⟩
 have hK2 : K ≤ 20000 := by omega
 have HK := Lib.hid hK; clear hK
 have hA := At2.new w (.int .i64 0) (.slice none 0 0) 81
 obtain ⟨_, ao, cap, rfl, hcells⟩ := hv
 have HC := Lib.hid hcells; clear hcells
 go_enter Tryz.func82, Tryz.ntmps82
 go_wp2_with fail
 refine (blank_K l.length K (by omega) HK.out _).mono ?_
 rintro e w1 ⟨g, rfl, ho, hB⟩
 have hg := ho.ge
 simp only [World.size_alloc] at hg
 have hgl := ho.lt
 obtain ⟨W0, hW0⟩ : ∃ W0, W0 = w1.alloc (.cells #[.int .i64 l.length, .slice (some ⟨g, 0, none⟩) K K] 81) := ⟨_, rfl⟩
 have hA0 : Hid (At2 W0 w.heap.size (.int .i64 0) (.slice none 0 0)) := Lib.hid (by rw [hW0]; exact (hA.below hB).alloc _)
 have hZ0 : Hid (At2 W0 w1.heap.size (.int .i64 l.length) (.slice (some ⟨g, 0, none⟩) K K)) := Lib.hid (by rw [hW0]; exact At2.new _ _ _ _)
 have HO : Hid (Own W0 _ g K (List.replicate K 0)) := Lib.hid (by rw [hW0]; exact ho.alloc _)
 have HW : Hid (Below w.heap.size w W0) := Lib.hid (by rw [hW0]; exact (((Below.refl _ _).alloc (Nat.le_refl _) _).trans (hB.mono (by simp))).alloc (by have := hB.size; simp at this; omega) _)
 clear ho hB hA
 go_wp2
 rw [← hW0]
 clear hW0
 go_loopw [11] (fun i wr => ∃ k : Nat, k ≤ l.length ∧ i = .int .i64 k ∧ Own wr (w.heap.size + 1) g K (bws (sq (l.take k)) K) ∧ W0.grownBy wr (some g)) (fun i _ => l.length - (intOf i).toNat)
 case atStart => exact ⟨0, by omega, rfl, by rw [bws_nil]; simpa using HO.out, grown_refl _ _⟩
 case round =>
  obtain ⟨k, hk, rfl, hown, hgr⟩ := hrel
  have HO' := Lib.hid hown
  have HG := Lib.hid hgr
  obtain ⟨zl, z0, z1, zf⟩ := hZ0.out.grown hgr (by simp; omega)
  have hBr := Lib.hid (HW.out.grown hgr HW.out.size (fun j hj => by cases hj; omega))
  by_cases hlt : k < l.length
  ·obtain ⟨b, off, rfl, hc⟩ := HC.out k (by rw [bools_len]; exact hlt)
   have hcl := keep_below hBr.out _ _ hc
   rw [bools_get] at hcl
   obtain ⟨q, hq⟩ : ∃ q, q = k / 64 := ⟨_, rfl⟩
   obtain ⟨r, hr⟩ : ∃ r, r = k % 64 := ⟨_, rfl⟩
   have hk64 : q < K := by have := HK.out; omega
   obtain ⟨z, hz, hzc⟩ := hown.cellz q hk64
   have hfr := hown.free q
   have HZ := Lib.hid hz
   have q1 : IntKind.i64.wrap (q : Int) = q := by rw [IntKind.wrap_i64]; omega
   have q2 : (k : Int).tmod 64 = r := by rw [Int.tmod_eq_emod_of_nonneg (by omega)]; omega
   have q3 : (k : Int) % 64 = r := by omega
   have q4 : r < 64 := by omega
   have q5 : (k : Int) / 64 = q := by omega
   have HQ := Lib.hid hq; have HR := Lib.hid hr; clear hq hr; clear zf hown hgr hc hz
   cases hb : l[k]
   ·rw [hb] at hcl
    have HB := Lib.hid hb; clear hb
    go_wp2
    go_roundw
    case rel => exact ⟨k + 1, by omega, by go_num, by rw [← bws_miss l K k hlt HB.out]; exact HO'.out, HG.out⟩
    case measure => simp [intOf]; omega
   ·rw [hb] at hcl
    have HB := Lib.hid hb; clear hb
    go_wp2
    refine still_tail 11 (by kernel_rfl) (by kernel_rfl) ?_
    simp only [List.take_succ_cons, List.take_zero, List.drop_succ_cons, List.drop_zero]
    repeat (refine wpStill_step (fun K hK => ?_); go_simp; (refine hK _ ?_; clear hK K))
    refine wpStill_nil ?_
    go_wp2
    go_roundw
    case rel =>
     refine ⟨k + 1, by omega, by go_num, ?_, grown_drew (grown_trans HG.out (grown_setCell _ ⟨g, q, none⟩ _))⟩
     have hz := bws_at HZ.out
     rw [or_bit z r (by rw [hz]; exact bw_lt _ _) q4, ← bws_hit l K k hlt HB.out, ← HQ.out, ← HR.out, ← hz]
     exact (HO'.out.set q _).drew
    case measure => simp [intOf]; omega
  ·have hkl : k = l.length := by omega
   obtain ⟨al, a0, a1, af⟩ := hA0.out.grown HG.out (by simp; omega)
   have af0 := af 0
   have af1 := af 1
   clear zf hown hgr af
   go_wp2
   refine bodyPost_ret (v := .agg #[.int .i64 l.length, .slice (some ⟨g, 0, none⟩) K K]) (by simp [results, Tryz.results82, go_sem, a0, a1]) rfl ⟨_, rfl, ?_, below_set2 _ _ hBr.out (Nat.le_refl _)⟩
   exact finish_bitsX _ _ HO'.out (by rw [hkl]; exact words_take l K HK.out) rfl HK.out (by omega)
theorem pack_calls (v : Value) (l : List Bool) (w : World) (hv : Sl w v l.length (bools l)) (hl : l.length ≤ 1048576) :
  Calls Tryz.prog 82 #[v] w fun e w' => ∃ v, e = .returned v ∧ IsBits w' v l ∧ Below w.heap.size w w' :=
 (pack_fresh v l w hv hl).mono fun _ _ ⟨v, h1, h2, h3⟩ => ⟨v, h1, h2.bits, h3⟩
end Go.Proofs.YtbdhibcbpgjbmaaGreatDoor

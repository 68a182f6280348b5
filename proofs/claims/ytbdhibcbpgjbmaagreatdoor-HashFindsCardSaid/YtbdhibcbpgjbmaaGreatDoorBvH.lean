/- Package bitvec: Cut. -/
import Derived.Test.YtbdhibcbpgjbmaaGreatDoorBvB
namespace Go.Proofs.YtbdhibcbpgjbmaaGreatDoor
set_option maxRecDepth 100000
open Go.RowKit
set_option linter.unusedVariables false

theorem list_cut (l : List Bool) (x y : Nat) (hx : x ≤ y) (hy : y ≤ l.length) : trimmed (y - x) (bws (fun k => sq l (x + k)) ((y - x + 63) / 64)) = words ((l.take y).drop x) := by
 have hlen : ((l.take y).drop x).length = y - x := by simp; omega
 have := trimmed_bws (fun k => sq l (x + k)) ((l.take y).drop x) (fun k hk => by
  rw [hlen] at hk
  simp only [sq, List.getElem?_drop, List.getElem?_take]
  rw [if_pos (by omega)])
 rwa [hlen] at this

set_option maxHeartbeats 1000000 in
theorem cutb_none (v : Value) (l : List Bool) (a b : Int) (w : World) (hv : IsBits w v l) (hl : l.length ≤ 1048576) (x y : Nat) (hx : min (max a 0) l.length = (x : Int)) (hy : min (max b 0) l.length = (y : Int)) (hxy : y ≤ x) :
  Calls Tryz.prog 104 #[v, .int .i64 a, .int .i64 b] w fun e w' => e = .returned (.agg #[.int .i64 0, .slice none 0 0]) ∧ Below w.heap.size w w' := by
 obtain ⟨ao, cap, rfl, _⟩ := hv.opened
 have HX := Lib.hid hx; have HY := Lib.hid hy; clear hv hx hy
 go_enter Tryz.func104, Tryz.ntmps104
 go_wp2
 go_quiet ((first | (go_at_call_of 123 a; exact Calls.quiet_of_same (stl (clamp_nat a _ x HX.out _))) | (go_at_call_of 123 b; exact Calls.quiet_of_same (stl (clamp_nat b _ y HY.out _)))))
 go_wp2
 refine bodyPost_ret (v := .agg #[.int .i64 0, .slice none 0 0]) (by simp [results, Tryz.results104, go_sem]) rfl ⟨rfl, ?_⟩
 refine Below.setCell (Below.setCell ?_ (by simp) _) (by simp) _
 exact Below.drewN' (((Below.refl _ _).alloc (Nat.le_refl _) _).alloc (by simp) _) nq

theorem blank_int (v : Int) (n K : Nat) (hv : v = n) (h : n ≤ 2000000) (hK : (n + 63) / 64 = K) (w : World) :
  Calls Tryz.prog 113 #[.int .i64 v] w fun e w' => ∃ g, e = .returned (.agg #[.int .i64 n, .slice (some ⟨g, 0, none⟩) K K]) ∧ Own w' w.heap.size g K (List.replicate K 0) ∧ Below w.heap.size w w' := by
 subst hv; exact blank_K n K h hK w
theorem cut_val (F : Nat → Bool) (st sh k : Nat) (hs : sh < 64) : bits BinOp.or IntKind.u64 ((bw F (st + k) : Int) / 2 ^ sh) (IntKind.u64.wrap ((bw F (st + k + 1) : Int) * 2 ^ (64 - sh))) = ((bw (fun m => F (64 * st + sh + m)) k : Nat) : Int) := by
 have e1 : ((bw F (st + k) : Int) / 2 ^ sh) = ((bw F (st + k) / 2 ^ sh : Nat) : Int) := by simp
 have e2 : IntKind.u64.wrap ((bw F (st + k + 1) : Int) * 2 ^ (64 - sh)) = ((bw F (st + k + 1) * 2 ^ (64 - sh) % 18446744073709551616 : Nat) : Int) := by
  rw [IntKind.wrap_u64, Int.natCast_emod, Int.natCast_mul, Int.natCast_pow]; rfl
 rw [e1, e2, u64_or_nat _ _ (Nat.lt_of_le_of_lt (Nat.div_le_self _ _) (bw_lt _ _)) (Nat.mod_lt _ (by decide)), bw_cut F st sh k hs]
theorem cut_val_last (F : Nat → Bool) (st sh k : Nat) (hs : sh < 64) (h0 : ∀ m, 64 * (st + k + 1) ≤ m → F m = false) : ((bw F (st + k) : Int) / 2 ^ sh) = ((bw (fun m => F (64 * st + sh + m)) k : Nat) : Int) := by
 rw [← bw_cut_last F st sh k hs h0]; simp

set_option maxHeartbeats 1000000 in
theorem cut_fresh (v : Value) (l : List Bool) (a b : Int) (w : World) (hv : IsBits w v l) (hl : l.length ≤ 1048576) (x y : Nat) (hx : min (max a 0) l.length = (x : Int)) (hy : min (max b 0) l.length = (y : Int)) (hxy : x < y) :
  Calls Tryz.prog 104 #[v, .int .i64 a, .int .i64 b] w fun e w' => ∃ v, e = .returned v ∧ IsBitsX w' (fun b => w.heap.size + 2 ≤ b) v ((l.take y).drop x) ∧ Below w.heap.size w w' := by
 obtain ⟨ao, cap, rfl, hcells⟩ := hv.opened
 have HC := Lib.hid hcells
 have hyl : y ≤ l.length := by omega
 have HX := Lib.hid hx; have HY := Lib.hid hy; clear hv hx hy hcells
 obtain ⟨n, hn⟩ : ∃ n, y = x + n := ⟨y - x, by omega⟩
 obtain ⟨K, hK⟩ : ∃ K, (n + 63) / 64 = K := ⟨_, rfl⟩
 obtain ⟨L, hL⟩ : ∃ L, (l.length + 63) / 64 = L := ⟨_, rfl⟩
 rw [hL] at HC ⊢
 have hn2 : n ≤ 1048576 := by omega
 have hK2 : K ≤ 20000 := by omega
 have hL2 : L ≤ 20000 := by omega
 have HK := Lib.hid hK; have HL := Lib.hid hL; have HN := Lib.hid hn
 obtain ⟨st, hst⟩ : ∃ st : Nat, (x : Int) / 64 = (st : Int) := ⟨x / 64, by omega⟩
 obtain ⟨sh, hsh⟩ : ∃ sh : Nat, (x : Int) % 64 = (sh : Int) := ⟨x % 64, by omega⟩
 have hsh2 : sh < 64 := by omega
 have HS := Lib.hid (show x = 64 * st + sh by omega)
 clear hn hK hL
 obtain ⟨w1', hw1'⟩ : ∃ w1', w1' = (w.alloc (.cells #[.int .i64 l.length, .slice ao L cap] 81)).alloc (.cells #[.int .i64 0, .slice none 0 0] 81) := ⟨_, rfl⟩
 have hz1 : w1'.heap.size = w.heap.size + 2 := by rw [hw1']; simp
 have hP1 : At2 w1' w.heap.size (.int .i64 l.length) (.slice ao L cap) := by rw [hw1']; exact (At2.new _ _ _ _).alloc _
 have hA1 : At2 w1' (w.heap.size + 1) (.int .i64 0) (.slice none 0 0) := by
  rw [hw1']
  have := At2.new (w.alloc (.cells #[.int .i64 l.length, .slice ao L cap] 81)) (.int .i64 0) (.slice none 0 0) 81
  simp only [World.size_alloc] at this; exact this
 have hB1 : Below w.heap.size w w1' := by rw [hw1']; exact ((Below.refl _ _).alloc (Nat.le_refl _) _).alloc (by simp) _
 have HW1 := Lib.hid hw1'
 have HZ1 := Lib.hid hz1; have HP1 := Lib.hid hP1; have HA1 := Lib.hid hA1; have HB1 := Lib.hid hB1
 clear hw1' hz1 hP1 hA1 hB1
 go_enter Tryz.func104, Tryz.ntmps104
 go_wp2
 go_quiet ((first | (go_at_call_of 123 a; exact Calls.quiet_of_same (stl (clamp_nat a _ x HX.out _))) | (go_at_call_of 123 b; exact Calls.quiet_of_same (stl (clamp_nat b _ y HY.out _)))))
 rw [← HW1.out]
 obtain ⟨W1, hW1⟩ : ∃ W1, W1 = w1'.drewN nq := ⟨_, rfl⟩
 rw [← hW1]
 have hz1 : W1.heap.size = w.heap.size + 2 := by rw [hW1]; exact HZ1.out
 have hgd : w1'.grownBy W1 none := by rw [hW1]; exact ⟨rfl, rfl, rfl, Nat.le_refl _, fun _ _ _ => rfl⟩
 have hP1 : At2 W1 w.heap.size (.int .i64 l.length) (.slice ao L cap) := HP1.out.grown hgd (by simp)
 have hA1 : At2 W1 (w.heap.size + 1) (.int .i64 0) (.slice none 0 0) := HA1.out.grown hgd (by simp)
 have hB1 : Below w.heap.size w W1 := HB1.out.grown hgd HB1.out.size (fun k hk => by cases hk)
 clear hW1 hgd
 go_wp2_with fail
 refine (blank_int _ n K (by have := HN.out; omega) (by omega) HK.out _).mono ?_
 rintro e w1 ⟨g, rfl, ho, hB⟩
 have hg := ho.ge
 rw [hz1] at hg
 have hgl := ho.lt
 obtain ⟨W0, hW0⟩ : ∃ W0, W0 = w1.alloc (.cells #[.int .i64 n, .slice (some ⟨g, 0, none⟩) K K] 81) := ⟨_, rfl⟩
 have hP0 : Hid (At2 W0 w.heap.size (.int .i64 l.length) (.slice ao L cap)) := Lib.hid (by rw [hW0]; exact (hP1.below hB).alloc _)
 have hA0 : Hid (At2 W0 (w.heap.size + 1) (.int .i64 0) (.slice none 0 0)) := Lib.hid (by rw [hW0]; exact (hA1.below hB).alloc _)
 have hZ0 : Hid (At2 W0 w1.heap.size (.int .i64 n) (.slice (some ⟨g, 0, none⟩) K K)) := Lib.hid (by rw [hW0]; exact At2.new _ _ _ _)
 have HO : Hid (Own W0 (w.heap.size + 2) g K (List.replicate K 0)) := Lib.hid (by rw [hW0, ← hz1]; exact ho.alloc _)
 have HW : Hid (Below w.heap.size w W0) := Lib.hid (by rw [hW0]; exact (hB1.trans (hB.mono hB1.size)).alloc (Nat.le_trans hB1.size hB.size) _)
 clear ho hB hP1 hA1 hB1
 go_wp2
 rw [← hW0]
 try simp only [hsh]
 clear hW0 hz1 hst hsh
 go_loopw [34] (fun i wr => ∃ k : Nat, k ≤ K ∧ i = .int .i64 k ∧ Own wr (w.heap.size + 2) g K (part (bw fun k => sq l (64 * st + sh + k)) K k) ∧ W0.grownBy wr (some g)) (fun i _ => K - (intOf i).toNat)
 case atStart => exact ⟨0, by omega, rfl, by rw [part_zero]; exact HO.out, grown_refl _ _⟩
 case round =>
  obtain ⟨k, hk, rfl, hown, hgr⟩ := hrel
  have HO' := Lib.hid hown
  have HG := Lib.hid hgr
  obtain ⟨zl, z0, z1, zf⟩ := hZ0.out.grown hgr (by simp; omega)
  have hBr := Lib.hid (HW.out.grown hgr HW.out.size (fun j hj => by cases hj; omega))
  by_cases hlt : k < K
  ·obtain ⟨i, hi⟩ : ∃ i : Nat, (st : Int) + (k : Int) = (i : Int) := ⟨st + k, by omega⟩
   have hiL : i < L := by have := HK.out; have := HL.out; have := HN.out; have := HS.out; omega
   obtain ⟨b', off, rfl, hc⟩ := HC.out i hiL
   have hcl := keep_below hBr.out _ _ hc
   obtain ⟨pl, p0, p1, pf⟩ := hP0.out.grown hgr (by simp; omega)
   obtain ⟨z, _, hzc⟩ := hown.cellz k hlt
   have hfr := hown.free k
   have HI := Lib.hid (show i = st + k by omega)
   have qi : IntKind.i64.wrap (i : Int) = i := IntWalk.i64_in _ (by omega)
   by_cases hj : i + 1 < L
   ·obtain ⟨j, hj'⟩ : ∃ j : Nat, (i : Int) + 1 = (j : Int) := ⟨i + 1, by omega⟩
    have hjL : j < L := by omega
    have HJ := Lib.hid (show j = i + 1 by omega)
    obtain ⟨b2, off2, e2, hc2⟩ := HC.out j hjL
    simp only [Option.some.injEq, Addr.mk.injEq, and_true] at e2
    obtain ⟨rfl, rfl⟩ := e2
    have hcl2 := keep_below hBr.out _ _ hc2
    have hbl := World.block_lt_of_cell? w _ hc2
    have hbg : b' ≠ g := by have : b' < w.heap.size := hbl; omega
    have hgb : g ≠ b' := fun e => hbg e.symm
    have qj : IntKind.i64.wrap (j : Int) = j := IntWalk.i64_in _ (by omega)
    obtain ⟨c, hc'⟩ : ∃ c : Nat, (64 : Int) - (sh : Int) = (c : Int) := ⟨64 - sh, by omega⟩
    have qc : IntKind.i64.wrap (c : Int) = c := IntWalk.i64_in _ (by omega)
    have hcc : c ≤ 64 := by omega
    have HV := Lib.hid (cut_val (sq l) st sh k hsh2)
    have HCC := Lib.hid (show 64 - sh = c by omega)
    clear zf hown hgr hc hc2 pf
    go_wp2
    refine still_tail 13 (by kernel_rfl) (by kernel_rfl) ?_
    simp only [List.take_succ_cons, List.take_zero, List.drop_succ_cons, List.drop_zero]
    repeat (refine wpStill_step (fun K hK => ?_); go_simp; (refine hK _ ?_; clear hK K))
    refine wpStill_nil ?_
    go_wp2
    refine still_tail 18 (by kernel_rfl) (by kernel_rfl) ?_
    simp only [List.take_succ_cons, List.take_zero, List.drop_succ_cons, List.drop_zero]
    repeat (refine wpStill_step (fun K hK => ?_); go_simp; (refine hK _ ?_; clear hK K))
    refine wpStill_nil ?_
    go_wp2
    go_roundw
    case rel =>
     refine ⟨k + 1, by omega, by go_num, ?_, ?_⟩
     ·rw [HJ.out, HI.out, ← HCC.out, HV.out, ← part_set]
      have e1 : ((bw (sq l) (st + k) : Int) / 2 ^ sh) = ((bw (sq l) (st + k) / 2 ^ sh : Nat) : Int) := by simp
      rw [e1]
      have := ((HO'.out.set k (bw (sq l) (st + k) / 2 ^ sh)).set k (bw (fun m => sq l (64 * st + sh + m)) k)).drew.drew
      rw [List.set_set] at this
      exact this
     ·exact grown_drew (grown_drew (grown_trans (grown_trans HG.out (grown_setCell _ ⟨g, k, none⟩ _)) (grown_setCell _ ⟨g, k, none⟩ _)))
    case measure => simp [intOf]; omega
   ·have HV := Lib.hid (cut_val_last (sq l) st sh k hsh2 (fun m hm => sq_out (by have := HL.out; have := HI.out; omega)))
    rw [← HI.out] at HV
    clear zf hown hgr hc pf
    go_wp2
    refine still_tail 13 (by kernel_rfl) (by kernel_rfl) ?_
    simp only [List.take_succ_cons, List.take_zero, List.drop_succ_cons, List.drop_zero]
    repeat (refine wpStill_step (fun K hK => ?_); go_simp; (refine hK _ ?_; clear hK K))
    refine wpStill_nil ?_
    go_wp2
    rw [HV.out]
    go_roundw
    case rel =>
     refine ⟨k + 1, by omega, by go_num, ?_, grown_drew (grown_trans HG.out (grown_setCell _ ⟨g, k, none⟩ _))⟩
     rw [← part_set]
     exact (HO'.out.set k _).drew
    case measure => simp [intOf]; omega
  ·have hkK : k = K := by omega
   rw [hkK] at HO'
   clear zf hown hgr
   go_wp2_with fail
   refine (trim_K n K g _ _ (by omega) HK.out wr HO'.out (by rw [part_bws]; exact bws_lt _ _)).mono ?_
   rintro e w2 ⟨rfl, ho2, hg2⟩
   have hG2 := Lib.hid (grown_trans HG.out hg2)
   obtain ⟨zl, z0, z1, zf⟩ := hZ0.out.grown hG2.out (by simp; omega)
   obtain ⟨al, a0, a1, af⟩ := hA0.out.grown hG2.out (by simp; omega)
   have af0 := af 0
   have af1 := af 1
   have HO2 := Lib.hid ho2; clear zf af ho2 hg2
   go_wp2
   refine bodyPost_ret (v := .agg #[.int .i64 n, .slice (some ⟨g, 0, none⟩) K K]) (by simp [results, Tryz.results104, go_sem, a0, a1]) rfl ⟨_, rfl, ?_, ?_⟩
   ·have e : y - x = n := by have := HN.out; omega
    refine finish_bitsX _ _ HO2.out ?_ (by simp; omega) HK.out (by omega)
    have := list_cut l x y (by omega) hyl
    rw [e] at this
    rw [part_bws, ← HK.out, ← HS.out]
    exact this
   ·exact below_set2 _ _ (HW.out.grown hG2.out HW.out.size (fun j hj => by cases hj; omega)) (by omega)
theorem cut_some (v : Value) (l : List Bool) (a b : Int) (w : World) (hv : IsBits w v l) (hl : l.length ≤ 1048576) (x y : Nat) (hx : min (max a 0) l.length = (x : Int)) (hy : min (max b 0) l.length = (y : Int)) (hxy : x < y) :
  Calls Tryz.prog 104 #[v, .int .i64 a, .int .i64 b] w fun e w' => ∃ v, e = .returned v ∧ IsBits w' v ((l.take y).drop x) ∧ Below w.heap.size w w' :=
 (cut_fresh v l a b w hv hl x y hx hy hxy).mono fun _ _ ⟨v, h1, h2, h3⟩ => ⟨v, h1, h2.bits, h3⟩
end Go.Proofs.YtbdhibcbpgjbmaaGreatDoor

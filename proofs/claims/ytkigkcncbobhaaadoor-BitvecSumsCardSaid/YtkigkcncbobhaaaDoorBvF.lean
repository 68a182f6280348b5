/- Package bitvec: Truth. -/
import Derived.Test.YtkigkcncbobhaaaDoorBvG
namespace Go.Proofs.YtkigkcncbobhaaaDoor
open Go.RowKit
set_option linter.unusedVariables false

theorem bit_val (t k : Nat) (m : Int) (ht : t < 256) (hm : m = 2 ^ k) : bits BinOp.and IntKind.u64 ((t : Int) / m) 1 = ((t.testBit k).toNat : Int) := by
  subst hm
  have e : ((t : Int) / 2 ^ k) = ((t / 2 ^ k : Nat) : Int) := by simp
  have h : t / 2 ^ k < 18446744073709551616 := Nat.lt_of_le_of_lt (Nat.div_le_self _ _) (by omega)
  rw [e, show (1 : Int) = ((1 : Nat) : Int) from rfl, u64_and_nat _ 1 h (by decide), nat_mask1, Nat.testBit_eq_decide_div_mod_eq]
  have : t / 2 ^ k % 2 = 0 ∨ t / 2 ^ k % 2 = 1 := by omega
  rcases this with h | h <;> simp [h]
theorem truth_val (t : Nat) (F G : Nat → Bool) (i : Nat) :
    bits BinOp.or IntKind.u64 (bits BinOp.or IntKind.u64 (bits BinOp.or IntKind.u64
      (bits BinOp.andNot IntKind.u64 (bits BinOp.andNot IntKind.u64 (rowOf (t.testBit 0) : Int) (bw F i : Int)) (bw G i : Int))
      (bits BinOp.and IntKind.u64 (bits BinOp.andNot IntKind.u64 (rowOf (t.testBit 1) : Int) (bw F i : Int)) (bw G i : Int)))
      (bits BinOp.andNot IntKind.u64 (bits BinOp.and IntKind.u64 (rowOf (t.testBit 2) : Int) (bw F i : Int)) (bw G i : Int)))
      (bits BinOp.and IntKind.u64 (bits BinOp.and IntKind.u64 (rowOf (t.testBit 3) : Int) (bw F i : Int)) (bw G i : Int)) = ((bw (fun k => tab t (F k) (G k)) i : Nat) : Int) := by
  have ha := bw_lt F i
  have hb := bw_lt G i
  rw [← bw_tab]
  generalize bw F i = a at *
  generalize bw G i = b at *
  have h0 := rowOf_lt (t.testBit 0); have h1 := rowOf_lt (t.testBit 1); have h2 := rowOf_lt (t.testBit 2); have h3 := rowOf_lt (t.testBit 3)
  generalize rowOf (t.testBit 0) = r0 at *
  generalize rowOf (t.testBit 1) = r1 at *
  generalize rowOf (t.testBit 2) = r2 at *
  generalize rowOf (t.testBit 3) = r3 at *
  have la (x y : Nat) (h : x < 18446744073709551616) : x &&& y < 18446744073709551616 := Nat.lt_of_le_of_lt Nat.and_le_left h
  have lo (x y : Nat) (h : x < 18446744073709551616) (h' : y < 18446744073709551616) : x ||| y < 18446744073709551616 := Nat.or_lt_two_pow (n := 64) h h'
  rw [u64_andNot_nat r0 a h0 ha, u64_andNot_nat _ b (la _ _ h0) hb, u64_andNot_nat r1 a h1 ha, u64_and_nat _ b (la _ _ h1) hb, u64_and_nat r2 a h2 ha, u64_andNot_nat _ b (la _ _ h2) hb, u64_and_nat r3 a h3 ha, u64_and_nat _ b (la _ _ h3) hb]
  rw [u64_or_nat _ _ (la _ _ (la _ _ h0)) (la _ _ (la _ _ h1))]
  rw [u64_or_nat _ _ (lo _ _ (la _ _ (la _ _ h0)) (la _ _ (la _ _ h1))) (la _ _ (la _ _ h2))]
  rw [u64_or_nat _ _ (lo _ _ (lo _ _ (la _ _ (la _ _ h0)) (la _ _ (la _ _ h1))) (la _ _ (la _ _ h2))) (la _ _ (la _ _ h3))]

/-- A block of four words. -/
def At4 (w : World) (b : Nat) (x0 x1 x2 x3 : Nat) : Prop := b < w.heap.size ∧ w.cell? ⟨b, 0, none⟩ = some (.int .u64 (x0 : Int)) ∧ w.cell? ⟨b, 1, none⟩ = some (.int .u64 (x1 : Int)) ∧ w.cell? ⟨b, 2, none⟩ = some (.int .u64 (x2 : Int)) ∧ w.cell? ⟨b, 3, none⟩ = some (.int .u64 (x3 : Int))
theorem At4.new (w : World) (x0 x1 x2 x3 : Nat) (t : TypeId) : At4 (w.alloc (.cells #[.int .u64 x0, .int .u64 x1, .int .u64 x2, .int .u64 x3] t)) w.heap.size x0 x1 x2 x3 := ⟨by simp, by simp, by simp, by simp, by simp⟩
theorem At4.grown {w w' : World} {b x0 x1 x2 x3 : Nat} (h : At4 w b x0 x1 x2 x3) {row : Option Nat} (hg : w.grownBy w' row) (hne : some b ≠ row) : At4 w' b x0 x1 x2 x3 :=
  ⟨Nat.lt_of_lt_of_le h.1 hg.size, hg.cell h.2.1 hne, hg.cell h.2.2.1 hne, hg.cell h.2.2.2.1 hne, hg.cell h.2.2.2.2 hne⟩

theorem list_truth (t : Nat) (x y : List Bool) (hxy : x.length = y.length) : trimmed x.length (bws (fun k => tab t (sq x k) (sq y k)) ((x.length + 63) / 64)) = words (List.zipWith (tab t) x y) := by
  have := trimmed_bws (fun k => tab t (sq x k) (sq y k)) (List.zipWith (tab t) x y) (fun k hk => by
    simp only [List.length_zipWith] at hk
    have h1 : k < x.length := by omega
    have h2 : k < y.length := by omega
    simp [sq, h1, h2, List.getElem?_zipWith])
  simpa [hxy] using this

set_option maxHeartbeats 1000000 in
theorem truth_no (t : Nat) (ht : t < 256) (vx vy : Value) (x y : List Bool) (w : World) (hx : IsBits w vx x) (hy : IsBits w vy y) (hxy : x.length ≠ y.length) :
    Calls Tryd.prog 14 #[.int .u8 t, vx, vy] w fun e w' => e = .returned (.tuple #[.agg #[.int .i64 0, .slice none 0 0], .bool false]) ∧ Below w.heap.size w w' := by
  obtain ⟨ao, cap, rfl, _⟩ := hx.opened
  obtain ⟨ao2, cap2, rfl, _⟩ := hy.opened
  have hne : ((x.length : Int) != (y.length : Int)) = true := by simp; omega
  clear hx hy
  go_enter Tryd.func14, Tryd.ntmps14
  go_wp2
  refine bodyPost_ret (v := .tuple #[.agg #[.int .i64 0, .slice none 0 0], .bool false]) (by simp [results, Tryd.results14, go_sem]) rfl ⟨rfl, ?_⟩
  exact (((Below.refl _ _).alloc (Nat.le_refl _) _).alloc (by simp) _).alloc (by simp; omega) _

set_option maxHeartbeats 1000000 in
theorem truth_yes (t : Nat) (ht : t < 256) (vx vy : Value) (x y : List Bool) (w : World) (hx : IsBits w vx x) (hy : IsBits w vy y) (hxy : x.length = y.length) (hl : x.length ≤ 1048576) :
    Calls Tryd.prog 14 #[.int .u8 t, vx, vy] w fun e w' => ∃ v, e = .returned (.tuple #[v, .bool true]) ∧ IsBits w' v (List.zipWith (tab t) x y) ∧ Below w.heap.size w w' := by
  obtain ⟨ao, cap, rfl, hcx⟩ := hx.opened
  obtain ⟨ao2, cap2, rfl, hcy⟩ := hy.opened
  obtain ⟨n, hn⟩ : ∃ n, n = x.length := ⟨_, rfl⟩
  have hn2 : y.length = n := by omega
  rw [hn2] at hcy ⊢
  rw [← hn] at hcx hl ⊢
  obtain ⟨K, hK⟩ : ∃ K, (n + 63) / 64 = K := ⟨_, rfl⟩
  have hK2 : K ≤ 20000 := by omega
  rw [hK] at hcx hcy ⊢
  have HX := Lib.hid hcx
  have HY := Lib.hid hcy
  have HK := Lib.hid hK
  have HN := Lib.hid hn
  have HN2 := Lib.hid hn2
  have hne : ((n : Int) != (n : Int)) = false := by simp
  clear hcx hcy hK hn hn2 hx hy
  have b0 : Hid (bits BinOp.and IntKind.u64 (t : Int) 1 = ((t.testBit 0).toNat : Int)) := Lib.hid (by simpa using bit_val t 0 1 ht (by decide))
  have b1 := Lib.hid (bit_val t 1 2 ht (by decide))
  have b2 := Lib.hid (bit_val t 2 4 ht (by decide))
  have b3 := Lib.hid (bit_val t 3 8 ht (by decide))
  obtain ⟨r0, hr0⟩ : ∃ r, r = rowOf (t.testBit 0) := ⟨_, rfl⟩
  obtain ⟨r1, hr1⟩ : ∃ r, r = rowOf (t.testBit 1) := ⟨_, rfl⟩
  obtain ⟨r2, hr2⟩ : ∃ r, r = rowOf (t.testBit 2) := ⟨_, rfl⟩
  obtain ⟨r3, hr3⟩ : ∃ r, r = rowOf (t.testBit 3) := ⟨_, rfl⟩
  have HT := Lib.hid (fun i => truth_val t (sq x) (sq y) i)
  rw [← hr0, ← hr1, ← hr2, ← hr3] at HT
  have R0 := Lib.hid hr0; have R1 := Lib.hid hr1; have R2 := Lib.hid hr2; have R3 := Lib.hid hr3
  clear hr0 hr1 hr2 hr3
  go_enter Tryd.func14, Tryd.ntmps14
  go_wp2
  refine wp_loop_rounds 5 ?_
  rw [rounds_succ]
  go_wp2_with fail
  refine (spread_val _ (t.testBit 0) b0.out _).mono ?_
  rintro e w' ⟨rfl, rfl⟩
  rw [← R0.out]
  go_wp2_with fail
  rw [rounds_succ]
  go_wp2_with fail
  refine (spread_val _ (t.testBit 1) b1.out _).mono ?_
  rintro e w' ⟨rfl, rfl⟩
  rw [← R1.out]
  go_wp2_with fail
  rw [rounds_succ]
  go_wp2_with fail
  refine (spread_val _ (t.testBit 2) b2.out _).mono ?_
  rintro e w' ⟨rfl, rfl⟩
  rw [← R2.out]
  go_wp2_with fail
  rw [rounds_succ]
  go_wp2_with fail
  refine (spread_val _ (t.testBit 3) b3.out _).mono ?_
  rintro e w' ⟨rfl, rfl⟩
  rw [← R3.out]
  go_wp2_with fail
  rw [rounds_succ]
  go_wp2_with fail
  obtain ⟨W1, hW1⟩ : ∃ W1, W1 = (((w.alloc (.cells #[.int .i64 n, .slice ao K cap] 26)).alloc (.cells #[.int .i64 n, .slice ao2 K cap2] 26)).alloc (.cells #[.int .i64 0, .slice none 0 0] 26)).alloc (.cells #[.int .u64 r0, .int .u64 r1, .int .u64 r2, .int .u64 r3] 60) := ⟨_, rfl⟩
  have hz1 : W1.heap.size = w.heap.size + 4 := by rw [hW1]; simp
  have hP1 : At2 W1 w.heap.size (.int .i64 n) (.slice ao K cap) := by rw [hW1]; exact ((((At2.new _ _ _ _).alloc _).alloc _).alloc _)
  have hQ1 : At2 W1 (w.heap.size + 1) (.int .i64 n) (.slice ao2 K cap2) := by
    rw [hW1]
    have := At2.new (w.alloc (.cells #[.int .i64 n, .slice ao K cap] 26)) (.int .i64 n) (.slice ao2 K cap2) 26
    simp only [World.size_alloc] at this; exact (this.alloc _).alloc _
  have hA1 : At2 W1 (w.heap.size + 2) (.int .i64 0) (.slice none 0 0) := by
    rw [hW1]
    have := At2.new ((w.alloc (.cells #[.int .i64 n, .slice ao K cap] 26)).alloc (.cells #[.int .i64 n, .slice ao2 K cap2] 26)) (.int .i64 0) (.slice none 0 0) 26
    simp only [World.size_alloc] at this; exact this.alloc _
  have hR1 : At4 W1 (w.heap.size + 3) r0 r1 r2 r3 := by
    rw [hW1]
    have := At4.new (((w.alloc (.cells #[.int .i64 n, .slice ao K cap] 26)).alloc (.cells #[.int .i64 n, .slice ao2 K cap2] 26)).alloc (.cells #[.int .i64 0, .slice none 0 0] 26)) r0 r1 r2 r3 60
    simp only [World.size_alloc] at this; exact this
  have hB1 : Below w.heap.size w W1 := by rw [hW1]; exact ((((Below.refl _ _).alloc (Nat.le_refl _) _).alloc (by simp) _).alloc (by simp; omega) _).alloc (by simp; omega) _
  rw [← hW1]
  refine (blank_K n K (by omega) HK.out _).mono ?_
  rintro e w1 ⟨g, rfl, ho, hB⟩
  have hg := ho.ge
  rw [hz1] at hg
  have hgl := ho.lt
  have hgB := below_grown hB
  obtain ⟨W0, hW0⟩ : ∃ W0, W0 = w1.alloc (.cells #[.int .i64 n, .slice (some ⟨g, 0, none⟩) K K] 26) := ⟨_, rfl⟩
  have hP0 : Hid (At2 W0 w.heap.size (.int .i64 n) (.slice ao K cap)) := Lib.hid (by rw [hW0]; exact (hP1.below hB).alloc _)
  have hQ0 : Hid (At2 W0 (w.heap.size + 1) (.int .i64 n) (.slice ao2 K cap2)) := Lib.hid (by rw [hW0]; exact (hQ1.below hB).alloc _)
  have hA0 : Hid (At2 W0 (w.heap.size + 2) (.int .i64 0) (.slice none 0 0)) := Lib.hid (by rw [hW0]; exact (hA1.below hB).alloc _)
  have hR0 : Hid (At4 W0 (w.heap.size + 3) r0 r1 r2 r3) := Lib.hid (by rw [hW0]; exact (hR1.grown hgB (by simp)).grown (World.grownBy_alloc _ _ none) (by simp))
  have hZ0 : Hid (At2 W0 w1.heap.size (.int .i64 n) (.slice (some ⟨g, 0, none⟩) K K)) := Lib.hid (by rw [hW0]; exact At2.new _ _ _ _)
  have HO : Hid (Own W0 (w.heap.size + 4) g K (List.replicate K 0)) := Lib.hid (by rw [hW0, ← hz1]; exact ho.alloc _)
  have HW : Hid (Below w.heap.size w W0) := Lib.hid (by rw [hW0]; exact (hB1.trans (hB.mono hB1.size)).alloc (Nat.le_trans hB1.size hB.size) _)
  clear ho hB hgB hP1 hQ1 hA1 hR1 hB1 hW1
  go_wp2
  rw [← hW0]
  clear hW0 hz1
  go_loopw [38] (fun i wr => ∃ k : Nat, k ≤ K ∧ i = .int .i64 k ∧ Own wr (w.heap.size + 4) g K (part (bw fun k => tab t (sq x k) (sq y k)) K k) ∧ W0.grownBy wr (some g)) (fun i _ => K - (intOf i).toNat)
  case atStart => exact ⟨0, by omega, rfl, by rw [part_zero]; exact HO.out, grown_refl _ _⟩
  case round =>
    obtain ⟨k, hk, rfl, hown, hgr⟩ := hrel
    have HO' := Lib.hid hown
    have HG := Lib.hid hgr
    obtain ⟨zl, z0, z1, zf⟩ := hZ0.out.grown hgr (by simp; omega)
    have hBr := Lib.hid (HW.out.grown hgr HW.out.size (fun j hj => by cases hj; omega))
    by_cases hlt : k < K
    · obtain ⟨b, off, rfl, hc⟩ := HX.out k hlt
      have hcl := keep_below hBr.out _ _ hc
      obtain ⟨b2, off2, rfl, hc2⟩ := HY.out k hlt
      have hcl2 := keep_below hBr.out _ _ hc2
      obtain ⟨pl, p0, p1, pf⟩ := hP0.out.grown hgr (by simp; omega)
      obtain ⟨ql, q0, q1, qf⟩ := hQ0.out.grown hgr (by simp; omega)
      obtain ⟨rl, t0, t1, t2, t3⟩ := hR0.out.grown hgr (by simp; omega)
      obtain ⟨z, _, hzc⟩ := hown.cellz k hlt
      have hfr := hown.free k
      have hi1 : (0 : Int) ≤ (k : Int) := by omega
      clear zf hown hgr hc hc2 pf qf
      go_wp2
      go_quiet (fail)
      go_wp2
      rw [HT.out]
      go_roundw
      case rel =>
        refine ⟨k + 1, by omega, by go_num, ?_, ?_⟩
        · rw [← part_set]
          exact HO'.out.set k _
        · exact grown_trans HG.out (grown_trans (grown_drewN _ _ _) (grown_setCell _ ⟨g, k, none⟩ _))
      case measure => simp [intOf]; omega
    · have hkK : k = K := by omega
      rw [hkK] at HO'
      clear zf hown hgr
      go_wp2_with fail
      refine (trim_K n K g _ _ (by omega) HK.out wr HO'.out (by rw [part_bws]; exact bws_lt _ _)).mono ?_
      rintro e w2 ⟨rfl, ho2, hg2⟩
      have hG2 := Lib.hid (grown_trans HG.out hg2)
      obtain ⟨zl, z0, z1, zf⟩ := hZ0.out.grown hG2.out (by simp; omega)
      obtain ⟨al, a0, a1, af⟩ := hA0.out.grown hG2.out (by simp; omega)
      have af0 := af 0
      have af1 := af 1
      have HO2 := Lib.hid ho2
      clear zf af ho2 hg2
      go_wp2
      refine bodyPost_ret (v := .tuple #[.agg #[.int .i64 n, .slice (some ⟨g, 0, none⟩) K K], .bool true]) (by simp [results, Tryd.results14, go_sem, a0, a1]) rfl ⟨_, rfl, ?_, ?_⟩
      · refine finish_bits _ _ HO2.out ?_ (by simp [HN2.out, HN.out.symm]) HK.out (by omega)
        rw [part_bws, ← HK.out, HN.out]
        exact list_truth t x y (by rw [HN2.out, HN.out])
      · exact below_set2 _ _ (HW.out.grown hG2.out HW.out.size (fun j hj => by cases hj; omega)) (by omega)
end Go.Proofs.YtkigkcncbobhaaaDoor

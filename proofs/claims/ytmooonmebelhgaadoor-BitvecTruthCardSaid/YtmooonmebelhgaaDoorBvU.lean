/- BitvecTruth, walked. -/
import Derived.Test.YtmooonmebelhgaaDoorBvT
import Derived.Deep.RegionLaw
namespace Go.Proofs.YtmooonmebelhgaaDoor
open Go.RowKit
set_option linter.unusedVariables false

/-- append to a slice of the call's own, as one step of a region that draws. -/
theorem step_append_own {P : Program} {ops : Array Oper} {o : Oper} {a : Act} {w : World} {K : Act → World → Prop} {Q : Exit → Act → World → Prop} {E : Prop}
    (hg : o.guard = none) (s x : Operand) (t : TypeId) (ho : o.op = .call { callee := .builtin .append, args := #[s, x], argTypes := #[t, t] })
    (base : Nat) (e : TypeId) (i : TypeInfo) (z : Value) (size bytes : Nat) (ht : P.underlying t = some (.slice e)) (hi : P.info? e = some i) (hz : i.zero = some z)
    (hsize : i.size = size) (hby : i.bytes = bytes) (hzs : z.cells.size = size) (hsz : 0 < size)
    (v : Value) (n : Nat) (xs : List Value) (hs : a.eval s = v) (hown : w.ownsRow base e size v n xs)
    (ad : Addr) (m c : Nat) (news : List Value) (hx : a.eval x = .slice (some ad) m c) (hl : news.length = m * size) (hnews : ∀ j u, news[j]? = some u → w.cell? (ad.add j) = some u) (h1 : ∀ u ∈ news, u.oneCell' = true)
    (h63 : n + m ≤ maxLen) (hbytes : (n + m) * bytes ≤ 140737488355328) (hbase : base ≤ w.heap.size)
    (h : ∀ v' w', w'.ownsRow base e size v' (n + m) (xs ++ news) → w.grownBy w' v.ownBlock → K (a.put o.dst v') w') :
    if Region.wanted o (yielded ops a.tmps) = true then Oper.wp P o a w K Q else E := by
  have hw : Region.wanted o (yielded ops a.tmps) = true := by simp [Region.wanted, hg]
  rw [if_pos hw]
  exact wp_append_own w s x t ho base e i z size bytes ht hi hz hsize hby hzs hsz v n xs hs hown ad m c news hx hl hnews h1 h63 hbytes hbase (fun v' w' h2 h3 _ => h v' w' h2 h3)

def notL (l : List Bool) (k : Nat) : List Bool := (l.map fun b => !b).take k
theorem notL_succ (l : List Bool) (k : Nat) (hk : k < l.length) : notL l (k + 1) = notL l k ++ [!l[k]] := by
  have h : k < (l.map fun b => !b).length := by simpa using hk
  rw [notL, notL, List.take_succ_eq_append_getElem h]; simp
theorem notL_all (l : List Bool) : notL l l.length = l.map fun b => !b := List.take_of_length_le (by simp)
theorem notL_zero (l : List Bool) : notL l 0 = [] := by simp [notL]
def zipL (t : Nat) (x y : List Bool) (k : Nat) : List Bool := (List.zipWith (tab t) x y).take k
theorem zipL_succ (t : Nat) (x y : List Bool) (k : Nat) (hx : k < x.length) (hy : k < y.length) : zipL t x y (k + 1) = zipL t x y k ++ [tab t x[k] y[k]] := by
  have h : k < (List.zipWith (tab t) x y).length := by simp; omega
  rw [zipL, zipL, List.take_succ_eq_append_getElem h]
  simp
theorem isBits_nil (w : World) : IsBits w (.agg #[.int .i64 0, .slice none 0 0]) [] := ⟨_, rfl, rfl, none, 0, rfl, fun i hi => absurd hi (by simp [words, bws, u64s])⟩

set_option maxHeartbeats 4000000 in
theorem truthlaw_calls (t : Nat) (ht : t < 256) (vx vy : Value) (x y : List Bool) (w : World) (hvx : RowC w vx (bools x)) (hlx : x.length ≤ maxLen) (hvy : RowC w vy (bools y)) (hly : y.length ≤ maxLen) (hT : TabAt w) :
    Calls Tryd.prog 4 #[.int .u8 t, vx, vy] w fun e w' => e = .returned (.bool true) ∧ Below w.heap.size w w' := by
  obtain ⟨i0, hi, hz0, hz1, hz2⟩ := info_parts info_bool
  unfold maxLen at hlx hly
  have HT := Lib.hid hT
  have HSX := Lib.hid (hvx.1.sl)
  have HSY := Lib.hid (hvy.1.sl)
  obtain ⟨ao, cap, rfl, hcap, hcm, hcx⟩ := hvx.opened
  obtain ⟨ao2, cap2, rfl, hcap2, hcm2, hcy⟩ := hvy.opened
  rw [bools_len] at HSX HSY hcap hcap2 ⊢
  rw [bools_len]
  have HCX := Lib.hid hcx
  have HCY := Lib.hid hcy
  clear hvx hvy hT hcx hcy
  by_cases hb1 : 1000 < x.length
  · go_enter Tryd.func4, Tryd.ntmps4
    go_wp2_with fail
    refine (awake_calls w HT.out).mono ?_
    rintro e w1 ⟨rfl, hB⟩
    have HB := Lib.hid hB
    clear hB
    go_wp2
    go_ret
    exact ⟨rfl, HB.out⟩
  · by_cases hb2 : 1000 < y.length
    · go_enter Tryd.func4, Tryd.ntmps4
      go_wp2_with fail
      refine (awake_calls w HT.out).mono ?_
      rintro e w1 ⟨rfl, hB⟩
      have HB := Lib.hid hB
      clear hB
      go_wp2
      go_ret
      exact ⟨rfl, HB.out⟩
    · have hx2 : x.length ≤ 1048576 := by omega
      have hy2 : y.length ≤ 1048576 := by omega
      have HXM : Hid (x.length ≤ maxLen) := Lib.hid (by unfold maxLen; omega)
      obtain ⟨eq, heq⟩ : ∃ b : Bool, (x == y) = b := ⟨_, rfl⟩
      have HEQ := Lib.hid heq
      have hbb : (eq != eq) = false := by simp
      clear heq
      by_cases hxy : x.length = y.length
      rotate_left
      · have hne : ((x.length : Int) != (y.length : Int)) = true := by simp; omega
        go_enter Tryd.func4, Tryd.ntmps4
        go_wp2_with fail
        refine (pack_calls _ x w HSX.out hx2).mono ?_
        rintro e w1 ⟨v1, rfl, hb, hB⟩
        have HB1 := Lib.hid hB
        have HSY1 := Lib.hid (HSY.out.keep (keep_below hB))
        have HX1 := Lib.hid hb
        clear hb hB
        go_wp2_with fail
        refine (pack_calls _ y w1 HSY1.out hy2).mono ?_
        rintro e w2 ⟨v2, rfl, hb2, hB⟩
        have HB2 := Lib.hid (bthen' HB1.out hB)
        have hb := HX1.out.keep (keep_below hB)
        obtain ⟨bo, bcap, rfl, _⟩ := hb.opened
        obtain ⟨bo2, bcap2, rfl, _⟩ := hb2.opened
        obtain ⟨L, hL⟩ : ∃ L, (x.length + 63) / 64 = L := ⟨_, rfl⟩
        obtain ⟨L2, hL2⟩ : ∃ L, (y.length + 63) / 64 = L := ⟨_, rfl⟩
        rw [hL] at hb ⊢
        rw [hL2] at hb2 ⊢
        obtain ⟨W0, hW0⟩ : ∃ W0, W0 = (w2.alloc (.cells #[.int .i64 x.length, .slice bo L bcap] 26)).alloc (.cells #[.int .i64 y.length, .slice bo2 L2 bcap2] 26) := ⟨_, rfl⟩
        have HP : Hid (At2 W0 w2.heap.size (.int .i64 x.length) (.slice bo L bcap)) := Lib.hid (by rw [hW0]; exact (At2.new _ _ _ _).alloc _)
        have HQ : Hid (At2 W0 (w2.heap.size + 1) (.int .i64 y.length) (.slice bo2 L2 bcap2)) := Lib.hid (by
          rw [hW0]
          have := At2.new (w2.alloc (.cells #[.int .i64 x.length, .slice bo L bcap] 26)) (.int .i64 y.length) (.slice bo2 L2 bcap2) 26
          simp only [World.size_alloc] at this; exact this)
        have HX : Hid (IsBits W0 (.agg #[.int .i64 x.length, .slice bo L bcap]) x) := Lib.hid (by rw [hW0]; exact (hb.keep (keep_alloc _ _)).keep (keep_alloc _ _))
        have HY : Hid (IsBits W0 (.agg #[.int .i64 y.length, .slice bo2 L2 bcap2]) y) := Lib.hid (by rw [hW0]; exact (hb2.keep (keep_alloc _ _)).keep (keep_alloc _ _))
        have HB0 : Hid (Below w.heap.size w W0) := Lib.hid (by rw [hW0]; exact (HB2.out.alloc HB2.out.size _).alloc (base_alloc HB2.out.size _) _)
        clear hb hb2 hL hL2 hB
        go_wp2_with fail
        rw [← hW0]
        clear hW0
        refine (truth_no t ht _ _ x y W0 HX.out HY.out hxy).mono ?_
        rintro e w3 ⟨rfl, hB⟩
        have HV3 := Lib.hid (isBits_nil w3)
        have HP3 := Lib.hid (HP.out.below hB)
        have HQ3 := Lib.hid (HQ.out.below hB)
        have HX3 := Lib.hid (HX.out.keep (keep_below hB))
        have HY3 := Lib.hid (HY.out.keep (keep_below hB))
        have HB3 := Lib.hid (bthen' HB0.out hB)
        obtain ⟨W4, hW4⟩ : ∃ W4, W4 = w3.alloc (.cells #[.int .i64 0, .slice none 0 0] 26) := ⟨_, rfl⟩
        have HP4 : Hid (At2 W4 w2.heap.size (.int .i64 x.length) (.slice bo L bcap)) := Lib.hid (by rw [hW4]; exact HP3.out.alloc _)
        have HQ4 : Hid (At2 W4 (w2.heap.size + 1) (.int .i64 y.length) (.slice bo2 L2 bcap2)) := Lib.hid (by rw [hW4]; exact HQ3.out.alloc _)
        have HC4 : Hid (At2 W4 w3.heap.size (.int .i64 0) (.slice none 0 0)) := Lib.hid (by rw [hW4]; exact At2.new _ _ _ _)
        have HX4 : Hid (IsBits W4 (.agg #[.int .i64 x.length, .slice bo L bcap]) x) := Lib.hid (by rw [hW4]; exact HX3.out.keep (keep_alloc _ _))
        have HY4 : Hid (IsBits W4 (.agg #[.int .i64 y.length, .slice bo2 L2 bcap2]) y) := Lib.hid (by rw [hW4]; exact HY3.out.keep (keep_alloc _ _))
        have HV4 : Hid (IsBits W4 (.agg #[.int .i64 0, .slice none 0 0]) ([] : List Bool)) := Lib.hid (by rw [hW4]; exact HV3.out.keep (keep_alloc _ _))
        have HB4 : Hid (Below w.heap.size w W4) := Lib.hid (by rw [hW4]; exact HB3.out.alloc HB3.out.size _)
        have HSZ4 := Lib.hid (Nat.le_trans HB2.out.size (Nat.le_trans (show w2.heap.size ≤ W0.heap.size by have := HP.out.1; omega) (Nat.le_trans hB.size (show w3.heap.size ≤ W4.heap.size by rw [hW4]; simp))))
        have hge3 : w.heap.size ≤ w2.heap.size := HB2.out.size
        clear hB
        go_wp2
        rw [← hW4]
        clear hW4
        go_loopw [11, 13] (fun v i wr => ∃ k : Nat, k ≤ x.length ∧ i = .int .i64 k ∧ wr.ownsRow W4.heap.size 4 1 v k (bools (notL x k)) ∧ Below W4.heap.size W4 wr) (fun _ i _ => x.length - (intOf i).toNat)
        case atStart => exact ⟨0, by omega, rfl, World.ownsRow_nil _ _ _ _, Below.refl _ _⟩
        case round =>
          obtain ⟨k, hk, rfl, hown, hB⟩ := hrel
          have HO := Lib.hid hown
          have HB := Lib.hid hB
          by_cases hlt : k < x.length
          · obtain ⟨cb, coff, rfl, hcc⟩ := HCX.out k (by rw [bools_len]; exact hlt)
            obtain ⟨bx, hbx⟩ : ∃ b : Bool, b = x[k]'hlt := ⟨_, rfl⟩
            have hcl : wr.cell? ⟨cb, coff + k, none⟩ = some (.bool bx) := by rw [keep_below HB.out _ _ (keep_below HB4.out _ _ hcc), bools_get, hbx]
            have HBX := Lib.hid hbx
            have HSZ := Lib.hid hB.size
            have HM1 : Hid (k + 1 ≤ maxLen) := Lib.hid (by unfold maxLen; omega)
            have HM2 : Hid ((k + 1) * 1 ≤ 140737488355328) := Lib.hid (by omega)
            clear hown hB hbx hcc
            go_wp2_with (at_builtin; refine wpList_append_own _ rfl _ _ 22 rfl W4.heap.size 4 i0 (.bool false) 1 1 Tryd.underlying22 hi hz0 hz1 hz2 rfl (by decide) _ _ _ rfl (HO.out.alloc _) ⟨wr.heap.size, 0, none⟩ 1 1 [.bool (!bx)] rfl rfl (cell_one_new _ _ _) (one_bool _) HM1.out HM2.out (base_alloc HSZ.out _) ?_)
            intro v' w5 hown' hgrow _
            have HO1 := Lib.hid hown'
            have HB5 := Lib.hid (grown_below (HB.out.alloc HSZ.out _) (HO.out.alloc _) (Nat.le_refl _) (base_alloc HSZ.out _) hgrow)
            clear hown' hgrow
            go_wp2
            go_roundw
            case rel =>
              refine ⟨k + 1, by omega, by go_num, ?_, HB5.out⟩
              rw [notL_succ x k hlt, bools_app, ← HBX.out]
              exact HO1.out
            case measure => simp [intOf]; omega
          · have hkm : k = x.length := by omega
            have HKM := Lib.hid hkm
            have hP := HP4.out.below hB
            obtain ⟨pl, p0, p1, pf⟩ := hP
            have HBr := Lib.hid (bthen' HB4.out hB)
            have HXr := Lib.hid (HX4.out.keep (keep_below hB))
            have HYr := Lib.hid (HY4.out.keep (keep_below hB))
            have HVr := Lib.hid (HV4.out.keep (keep_below hB))
            have HPr := Lib.hid (HP4.out.below hB)
            have HQr := Lib.hid (HQ4.out.below hB)
            have HCr := Lib.hid (HC4.out.below hB)
            clear hown hB hkm pf
            go_wp2_with fail
            refine (not_calls _ x _ HXr.out hx2).mono ?_
            rintro e w6 ⟨v6, rfl, hb6, hB⟩
            have HN6 := Lib.hid hb6
            have HO6 : Hid (Sl w6 u11 (x.map fun b => !b).length (bools (x.map fun b => !b))) := Lib.hid (by
              have := (Sl.owned HO.out).keep (keep_below hB)
              rw [HKM.out, notL_all] at this
              simpa using this)
            have HX6 := Lib.hid (HXr.out.keep (keep_below hB))
            have HY6 := Lib.hid (HYr.out.keep (keep_below hB))
            have HV6 := Lib.hid (HVr.out.keep (keep_below hB))
            have HP6 := Lib.hid (HPr.out.below hB)
            have HQ6 := Lib.hid (HQr.out.below hB)
            have HC6 := Lib.hid (HCr.out.below hB)
            have HB6 := Lib.hid (bthen' HBr.out hB)
            clear pl p0 p1 hB hb6
            go_wp2_with fail
            refine (shows_calls _ _ _ _ HN6.out HO6.out (by simp; omega)).mono ?_
            rintro e w7 ⟨rfl, hB⟩
            have HX7 := Lib.hid (HX6.out.keep (keep_below hB))
            have HY7 := Lib.hid (HY6.out.keep (keep_below hB))
            have HV7 := Lib.hid (HV6.out.keep (keep_below hB))
            have HP7 := Lib.hid (HP6.out.below hB)
            have HQ7 := Lib.hid (HQ6.out.below hB)
            have HC7 := Lib.hid (HC6.out.below hB)
            have HB7 := Lib.hid (bthen' HB6.out hB)
            obtain ⟨pl, p0, p1, pf⟩ := HP7.out
            obtain ⟨ql, q0, q1, qf⟩ := HQ7.out
            clear hB pf qf
            go_wp2_with fail
            refine (equal_calls _ _ x y _ HX7.out HY7.out hx2).mono ?_
            rintro e w8 ⟨rfl, hB⟩
            have HV8 := Lib.hid (HV7.out.keep (keep_below hB))
            have HC8 := Lib.hid (HC7.out.below hB)
            have HB8 := Lib.hid (bthen' HB7.out hB)
            have HSX8 := Lib.hid (HSX.out.keep (keep_below HB8.out))
            have HSY8 := Lib.hid (HSY.out.keep (keep_below HB8.out))
            rw [HEQ.out]
            clear pl p0 p1 ql q0 q1 hB
            go_wp2_with fail
            refine (bools_calls _ _ x y _ HSX8.out HSY8.out HXM.out).mono ?_
            rintro e w9 ⟨rfl, hB⟩
            have HV9 := Lib.hid (HV8.out.keep (keep_below hB))
            have HC9 := Lib.hid (HC8.out.below hB)
            have HB9 := Lib.hid (bthen' HB8.out hB)
            have HT9 : Hid (TabAt w9) := Lib.hid (fun j hj => keep_below HB9.out _ _ (HT.out j hj))
            rw [HEQ.out]
            obtain ⟨cl, c0, c1, cf⟩ := HC9.out
            clear hB cf
            go_wp2_with fail
            refine (len_calls _ [] _ HV9.out).mono ?_
            rintro e w10 ⟨rfl, hB⟩
            have HB10 := Lib.hid (bthen' HB9.out hB)
            have HT10 : Hid (TabAt w10) := Lib.hid (fun j hj => keep_below HB10.out _ _ (HT.out j hj))
            clear hB cl c0 c1
            go_wp2_with fail
            refine (awake_calls _ HT10.out).mono ?_
            rintro e w11 ⟨rfl, hB⟩
            have HB11 := Lib.hid (bthen' HB10.out hB)
            clear hB
            go_wp2
            go_ret
            exact ⟨rfl, HB11.out⟩
      · have HXY := Lib.hid hxy.symm
        obtain ⟨ny, hny⟩ : ∃ n, y.length = n := ⟨_, rfl⟩
        have hyn : y.length = x.length := hxy.symm
        have hne : ((x.length : Int) != (x.length : Int)) = false := by simp
        have hne2 : ((x.length : Int) != (y.length : Int)) = false := by simp; omega
        clear hny hyn hxy
        go_enter Tryd.func4, Tryd.ntmps4
        go_wp2_with fail
        refine (pack_calls _ x w HSX.out hx2).mono ?_
        rintro e w1 ⟨v1, rfl, hb, hB⟩
        have HB1 := Lib.hid hB
        have HSY1 := Lib.hid (HSY.out.keep (keep_below hB))
        have HX1 := Lib.hid hb
        clear hb hB
        go_wp2_with fail
        refine (pack_calls _ y w1 HSY1.out hy2).mono ?_
        rintro e w2 ⟨v2, rfl, hb2, hB⟩
        have HB2 := Lib.hid (bthen' HB1.out hB)
        have hb := HX1.out.keep (keep_below hB)
        obtain ⟨bo, bcap, rfl, _⟩ := hb.opened
        obtain ⟨bo2, bcap2, rfl, _⟩ := hb2.opened
        obtain ⟨L, hL⟩ : ∃ L, (x.length + 63) / 64 = L := ⟨_, rfl⟩
        obtain ⟨L2, hL2⟩ : ∃ L, (y.length + 63) / 64 = L := ⟨_, rfl⟩
        rw [hL] at hb ⊢
        rw [hL2] at hb2 ⊢
        obtain ⟨W0, hW0⟩ : ∃ W0, W0 = (w2.alloc (.cells #[.int .i64 x.length, .slice bo L bcap] 26)).alloc (.cells #[.int .i64 y.length, .slice bo2 L2 bcap2] 26) := ⟨_, rfl⟩
        have HP : Hid (At2 W0 w2.heap.size (.int .i64 x.length) (.slice bo L bcap)) := Lib.hid (by rw [hW0]; exact (At2.new _ _ _ _).alloc _)
        have HQ : Hid (At2 W0 (w2.heap.size + 1) (.int .i64 y.length) (.slice bo2 L2 bcap2)) := Lib.hid (by
          rw [hW0]
          have := At2.new (w2.alloc (.cells #[.int .i64 x.length, .slice bo L bcap] 26)) (.int .i64 y.length) (.slice bo2 L2 bcap2) 26
          simp only [World.size_alloc] at this; exact this)
        have HX : Hid (IsBits W0 (.agg #[.int .i64 x.length, .slice bo L bcap]) x) := Lib.hid (by rw [hW0]; exact (hb.keep (keep_alloc _ _)).keep (keep_alloc _ _))
        have HY : Hid (IsBits W0 (.agg #[.int .i64 y.length, .slice bo2 L2 bcap2]) y) := Lib.hid (by rw [hW0]; exact (hb2.keep (keep_alloc _ _)).keep (keep_alloc _ _))
        have HB0 : Hid (Below w.heap.size w W0) := Lib.hid (by rw [hW0]; exact (HB2.out.alloc HB2.out.size _).alloc (base_alloc HB2.out.size _) _)
        clear hb hb2 hL hL2 hB
        go_wp2_with fail
        rw [← hW0]
        clear hW0
        refine (truth_yes t ht _ _ x y W0 HX.out HY.out HXY.out.symm hx2).mono ?_
        rintro e w3 ⟨v3, rfl, hv3, hB⟩
        obtain ⟨co, ccap, rfl, _⟩ := hv3.opened
        obtain ⟨LC, hLC⟩ : ∃ L, ((List.zipWith (tab t) x y).length + 63) / 64 = L := ⟨_, rfl⟩
        obtain ⟨nc, hnc⟩ : ∃ n, (List.zipWith (tab t) x y).length = n := ⟨_, rfl⟩
        rw [hLC, hnc] at hv3 ⊢
        have HV3 := Lib.hid hv3
        clear hv3 hLC hnc
        have HP3 := Lib.hid (HP.out.below hB)
        have HQ3 := Lib.hid (HQ.out.below hB)
        have HX3 := Lib.hid (HX.out.keep (keep_below hB))
        have HY3 := Lib.hid (HY.out.keep (keep_below hB))
        have HB3 := Lib.hid (bthen' HB0.out hB)
        obtain ⟨W4, hW4⟩ : ∃ W4, W4 = w3.alloc (.cells #[.int .i64 nc, .slice co LC ccap] 26) := ⟨_, rfl⟩
        have HP4 : Hid (At2 W4 w2.heap.size (.int .i64 x.length) (.slice bo L bcap)) := Lib.hid (by rw [hW4]; exact HP3.out.alloc _)
        have HQ4 : Hid (At2 W4 (w2.heap.size + 1) (.int .i64 y.length) (.slice bo2 L2 bcap2)) := Lib.hid (by rw [hW4]; exact HQ3.out.alloc _)
        have HC4 : Hid (At2 W4 w3.heap.size (.int .i64 nc) (.slice co LC ccap)) := Lib.hid (by rw [hW4]; exact At2.new _ _ _ _)
        have HX4 : Hid (IsBits W4 (.agg #[.int .i64 x.length, .slice bo L bcap]) x) := Lib.hid (by rw [hW4]; exact HX3.out.keep (keep_alloc _ _))
        have HY4 : Hid (IsBits W4 (.agg #[.int .i64 y.length, .slice bo2 L2 bcap2]) y) := Lib.hid (by rw [hW4]; exact HY3.out.keep (keep_alloc _ _))
        have HV4 : Hid (IsBits W4 (.agg #[.int .i64 nc, .slice co LC ccap]) (List.zipWith (tab t) x y)) := Lib.hid (by rw [hW4]; exact HV3.out.keep (keep_alloc _ _))
        have HB4 : Hid (Below w.heap.size w W4) := Lib.hid (by rw [hW4]; exact HB3.out.alloc HB3.out.size _)
        have HSZ4 := Lib.hid (Nat.le_trans HB2.out.size (Nat.le_trans (show w2.heap.size ≤ W0.heap.size by have := HP.out.1; omega) (Nat.le_trans hB.size (show w3.heap.size ≤ W4.heap.size by rw [hW4]; simp))))
        have hge3 : w.heap.size ≤ w2.heap.size := HB2.out.size
        clear hB
        go_wp2
        rw [← hW4]
        clear hW4
        go_loopw [11, 13] (fun v i wr => ∃ k : Nat, k ≤ x.length ∧ i = .int .i64 k ∧ wr.ownsRow W4.heap.size 4 1 v k (bools (notL x k)) ∧ Below W4.heap.size W4 wr) (fun _ i _ => x.length - (intOf i).toNat)
        case atStart => exact ⟨0, by omega, rfl, World.ownsRow_nil _ _ _ _, Below.refl _ _⟩
        case round =>
          obtain ⟨k, hk, rfl, hown, hB⟩ := hrel
          have HO := Lib.hid hown
          have HB := Lib.hid hB
          by_cases hlt : k < x.length
          · obtain ⟨cb, coff, rfl, hcc⟩ := HCX.out k (by rw [bools_len]; exact hlt)
            obtain ⟨bx, hbx⟩ : ∃ b : Bool, b = x[k]'hlt := ⟨_, rfl⟩
            have hcl : wr.cell? ⟨cb, coff + k, none⟩ = some (.bool bx) := by rw [keep_below HB.out _ _ (keep_below HB4.out _ _ hcc), bools_get, hbx]
            have HBX := Lib.hid hbx
            have HSZ := Lib.hid hB.size
            have HM1 : Hid (k + 1 ≤ maxLen) := Lib.hid (by unfold maxLen; omega)
            have HM2 : Hid ((k + 1) * 1 ≤ 140737488355328) := Lib.hid (by omega)
            clear hown hB hbx hcc
            go_wp2_with (at_builtin; refine wpList_append_own _ rfl _ _ 22 rfl W4.heap.size 4 i0 (.bool false) 1 1 Tryd.underlying22 hi hz0 hz1 hz2 rfl (by decide) _ _ _ rfl (HO.out.alloc _) ⟨wr.heap.size, 0, none⟩ 1 1 [.bool (!bx)] rfl rfl (cell_one_new _ _ _) (one_bool _) HM1.out HM2.out (base_alloc HSZ.out _) ?_)
            intro v' w5 hown' hgrow _
            have HO1 := Lib.hid hown'
            have HB5 := Lib.hid (grown_below (HB.out.alloc HSZ.out _) (HO.out.alloc _) (Nat.le_refl _) (base_alloc HSZ.out _) hgrow)
            clear hown' hgrow
            go_wp2
            go_roundw
            case rel =>
              refine ⟨k + 1, by omega, by go_num, ?_, HB5.out⟩
              rw [notL_succ x k hlt, bools_app, ← HBX.out]
              exact HO1.out
            case measure => simp [intOf]; omega
          · have hkm : k = x.length := by omega
            have HKM := Lib.hid hkm
            have hP := HP4.out.below hB
            obtain ⟨pl, p0, p1, pf⟩ := hP
            have HBr := Lib.hid (bthen' HB4.out hB)
            have HXr := Lib.hid (HX4.out.keep (keep_below hB))
            have HYr := Lib.hid (HY4.out.keep (keep_below hB))
            have HVr := Lib.hid (HV4.out.keep (keep_below hB))
            have HPr := Lib.hid (HP4.out.below hB)
            have HQr := Lib.hid (HQ4.out.below hB)
            have HCr := Lib.hid (HC4.out.below hB)
            clear hown hB hkm pf
            go_wp2_with fail
            refine (not_calls _ x _ HXr.out hx2).mono ?_
            rintro e w6 ⟨v6, rfl, hb6, hB⟩
            have HN6 := Lib.hid hb6
            have HO6 : Hid (Sl w6 u11 (x.map fun b => !b).length (bools (x.map fun b => !b))) := Lib.hid (by
              have := (Sl.owned HO.out).keep (keep_below hB)
              rw [HKM.out, notL_all] at this
              simpa using this)
            have HX6 := Lib.hid (HXr.out.keep (keep_below hB))
            have HY6 := Lib.hid (HYr.out.keep (keep_below hB))
            have HV6 := Lib.hid (HVr.out.keep (keep_below hB))
            have HP6 := Lib.hid (HPr.out.below hB)
            have HQ6 := Lib.hid (HQr.out.below hB)
            have HC6 := Lib.hid (HCr.out.below hB)
            have HB6 := Lib.hid (bthen' HBr.out hB)
            clear pl p0 p1 hB hb6
            go_wp2_with fail
            refine (shows_calls _ _ _ _ HN6.out HO6.out (by simp; omega)).mono ?_
            rintro e w7 ⟨rfl, hB⟩
            have HX7 := Lib.hid (HX6.out.keep (keep_below hB))
            have HY7 := Lib.hid (HY6.out.keep (keep_below hB))
            have HV7 := Lib.hid (HV6.out.keep (keep_below hB))
            have HP7 := Lib.hid (HP6.out.below hB)
            have HQ7 := Lib.hid (HQ6.out.below hB)
            have HC7 := Lib.hid (HC6.out.below hB)
            have HB7 := Lib.hid (bthen' HB6.out hB)
            obtain ⟨pl, p0, p1, pf⟩ := HP7.out
            obtain ⟨ql, q0, q1, qf⟩ := HQ7.out
            clear hB pf qf
            go_wp2_with fail
            refine (equal_calls _ _ x y _ HX7.out HY7.out hx2).mono ?_
            rintro e w8 ⟨rfl, hB⟩
            have HV8 := Lib.hid (HV7.out.keep (keep_below hB))
            have HC8 := Lib.hid (HC7.out.below hB)
            have HB8 := Lib.hid (bthen' HB7.out hB)
            have HSX8 := Lib.hid (HSX.out.keep (keep_below HB8.out))
            have HSY8 := Lib.hid (HSY.out.keep (keep_below HB8.out))
            rw [HEQ.out]
            clear pl p0 p1 ql q0 q1 hB
            go_wp2_with fail
            refine (bools_calls _ _ x y _ HSX8.out HSY8.out HXM.out).mono ?_
            rintro e w9 ⟨rfl, hB⟩
            have HV9 := Lib.hid (HV8.out.keep (keep_below hB))
            have HC9 := Lib.hid (HC8.out.below hB)
            have HB9 := Lib.hid (bthen' HB8.out hB)
            have HT9 : Hid (TabAt w9) := Lib.hid (fun j hj => keep_below HB9.out _ _ (HT.out j hj))
            rw [HEQ.out]
            obtain ⟨cl, c0, c1, cf⟩ := HC9.out
            clear hB cf
            go_wp2
            go_loopw [12, 14] (fun v i wq => ∃ k : Nat, k ≤ x.length ∧ i = .int .i64 k ∧ wq.ownsRow w9.heap.size 4 1 v k (bools (zipL t x y k)) ∧ Below w9.heap.size w9 wq) (fun _ i _ => x.length - (intOf i).toNat)
            case atStart => exact ⟨0, by omega, rfl, World.ownsRow_nil _ _ _ _, Below.refl _ _⟩
            case round =>
              obtain ⟨k2, hk2, rfl, hown, hB⟩ := hrel
              have HO2 := Lib.hid hown
              have HBq := Lib.hid hB
              by_cases hlt2 : k2 < x.length
              · obtain ⟨cb, coff, rfl, hcc⟩ := HCX.out k2 (by rw [bools_len]; exact hlt2)
                obtain ⟨db, doff, rfl, hdd⟩ := HCY.out k2 (by rw [bools_len, HXY.out]; exact hlt2)
                obtain ⟨bx, hbx⟩ : ∃ b : Bool, b = x[k2]'hlt2 := ⟨_, rfl⟩
                obtain ⟨by', hby⟩ : ∃ b : Bool, b = y[k2]'(by rw [HXY.out]; exact hlt2) := ⟨_, rfl⟩
                have hcl : wr.cell? ⟨cb, coff + k2, none⟩ = some (.bool bx) := by rw [keep_below HBq.out _ _ (keep_below HB9.out _ _ hcc), bools_get, hbx]
                have hdl : wr.cell? ⟨db, doff + k2, none⟩ = some (.bool by') := by rw [keep_below HBq.out _ _ (keep_below HB9.out _ _ hdd), bools_get, hby]
                have HZ := Lib.hid (show zipL t x y (k2 + 1) = zipL t x y k2 ++ [tab t bx by'] by rw [zipL_succ t x y k2 hlt2 (by rw [HXY.out]; exact hlt2), hbx, hby])
                obtain ⟨bt, hbt⟩ : ∃ b : Bool, b = tab t bx by' := ⟨_, rfl⟩
                have HBT := Lib.hid hbt
                have HSZ := Lib.hid hB.size
                have HM1 : Hid (k2 + 1 ≤ maxLen) := Lib.hid (by unfold maxLen; omega)
                have HM2 : Hid ((k2 + 1) * 1 ≤ 140737488355328) := Lib.hid (by omega)
                have hrt : ∀ w, Calls Tryd.prog 19 #[.int .u8 t, .bool bx, .bool by'] w fun e w' => e = .returned (.bool bt) ∧ w = w' := fun w => by rw [hbt]; exact rtruth_calls t ht bx by' w
                have HRT := Lib.hid hrt
                have hly2 : k2 < y.length := by rw [HXY.out]; exact hlt2
                clear hown hB hbx hby hcc hdd hbt hrt
                go_wp2
                go_region_law ((first
                  | (refine step_append_own rfl _ _ 22 rfl w9.heap.size 4 i0 (.bool false) 1 1 Tryd.underlying22 hi hz0 hz1 hz2 rfl (by decide) _ _ _ rfl (HO2.out.drew.alloc _) ⟨wr.heap.size, 0, none⟩ 1 1 [.bool bt] rfl rfl (cell_one_new _ _ _) (one_bool _) HM1.out HM2.out (base_alloc HSZ.out _) ?_; intro v' w10 hown' hgrow; have HO1 := Lib.hid hown'; have HB10 := Lib.hid (grown_below (HBq.out.drew.alloc HSZ.out _) (HO2.out.drew.alloc _) (Nat.le_refl _) (base_alloc HSZ.out _) hgrow); clear hown' hgrow)
                  | (go_simp; go_at_call 19; refine (HRT.out _).mono ?_; rintro e w' ⟨rfl, rfl⟩; dsimp only)))
                all_goals
                  go_wp2
                  go_roundw
                  case rel =>
                    refine ⟨k2 + 1, by omega, by go_num, ?_, HB10.out⟩
                    rw [HZ.out, bools_app, ← HBT.out]
                    exact HO1.out
                  case measure => simp [intOf]; omega
              · have hkm2 : k2 = x.length := by omega
                have HKM2 := Lib.hid hkm2
                have HV10 := Lib.hid (HV9.out.keep (keep_below hB))
                have HBr2 := Lib.hid (bthen' HB9.out hB)
                have hC := HC9.out.below hB
                obtain ⟨cl', c0', c1', cf'⟩ := hC
                have HO10 : Hid (Sl wr u12 (List.zipWith (tab t) x y).length (bools (List.zipWith (tab t) x y))) := Lib.hid (by
                  have := Sl.owned HO2.out
                  rw [HKM2.out] at this
                  have e : (List.zipWith (tab t) x y).length = x.length := by simp; have := HXY.out; omega
                  rw [e]
                  have e2 : zipL t x y x.length = List.zipWith (tab t) x y := List.take_of_length_le (by rw [e]; exact Nat.le_refl _)
                  rwa [e2] at this)
                clear hown hB hkm2 cf'
                go_wp2_with fail
                refine (shows_calls _ _ _ _ HV10.out HO10.out (by simp; omega)).mono ?_
                rintro e w11 ⟨rfl, hB⟩
                have HB11 := Lib.hid (bthen' HBr2.out hB)
                have HT11 : Hid (TabAt w11) := Lib.hid (fun j hj => keep_below HB11.out _ _ (HT.out j hj))
                clear hB
                go_wp2_with fail
                refine (awake_calls _ HT11.out).mono ?_
                rintro e w12 ⟨rfl, hB⟩
                have HB12 := Lib.hid (bthen' HB11.out hB)
                clear hB
                go_wp2
                go_ret
                exact ⟨rfl, HB12.out⟩

theorem truthlaw_frame (w : World) (t : Int) (ht : (Lit.int .u8 t).wf = true) (vx : Value) (x : List Bool) (hvx : RowC w vx (x.map Value.bool)) (hlx : x.length ≤ maxLen) (vy : Value) (y : List Bool) (hvy : RowC w vy (y.map Value.bool)) (hly : y.length ≤ maxLen) (hT : TabAt w) :
    Calls Tryd.prog 4 #[.int .u8 t, vx, vy] w fun e w' => e = .returned (.bool true) ∧ Below w.heap.size w w' := by
  have h : 0 ≤ t ∧ t ≤ 255 := by
    have hmin : IntKind.u8.min = 0 := rfl
    have hmax : IntKind.u8.max = 255 := rfl
    simp only [Lit.wf, Bool.and_eq_true, decide_eq_true_eq] at ht; omega
  obtain ⟨n, rfl⟩ := Int.eq_ofNat_of_zero_le h.1
  exact truthlaw_calls n (by omega) vx vy x y w hvx hlx hvy hly hT
end Go.Proofs.YtmooonmebelhgaaDoor

/- Layer 17, walked: Grade. -/
import Derived.Test.YtbdbpamefkgelaaGreatDoorRxS
import Derived.Test.YtbdbpamefkgelaaGreatDoorRxF
import Derived.Test.YtbdbpamefkgelaaGreatDoorRxC
import Derived.Test.YtbdbpamefkgelaaGreatDoorRxB
import Derived.Test.YtbdbpamefkgelaaGreatDoorBvJ
namespace Go.Proofs.YtbdbpamefkgelaaGreatDoor
set_option maxRecDepth 100000
open Go.RowKit Fl
set_option linter.unusedVariables false

/-- The first k places, and none behind. -/
def idT (n k : Nat) : List Nat := (List.range n).map fun j => if j < k then j else 0
theorem idT_len (n k : Nat) : (idT n k).length = n := by simp [idT]
theorem idT_zero (n : Nat) : idT n 0 = List.replicate n 0 := by
  unfold idT
  apply List.ext_getElem?
  intro i
  by_cases h : i < n <;> simp [h]
theorem idT_all (n : Nat) : idT n n = List.range n := by
  unfold idT
  conv => rhs; rw [← List.map_id (List.range n)]
  exact List.map_congr_left fun j hj => by rw [if_pos (List.mem_range.1 hj)]; rfl
theorem idT_set {n k : Nat} (h : k < n) : (idT n k).set k k = idT n (k + 1) := by
  unfold idT
  apply List.ext_getElem?
  intro i
  rw [List.getElem?_set]
  by_cases e : k = i
  · subst e; simp [h]
  · rw [if_neg e]
    by_cases hi : i < n
    · simp only [List.getElem?_map, List.getElem?_range hi, Option.map_some]
      congr 1
      by_cases h2 : i < k
      · rw [if_pos h2, if_pos (by omega)]
      · rw [if_neg h2, if_neg (by omega)]
    · rw [List.getElem?_eq_none (by simp; omega), List.getElem?_eq_none (by simp; omega)]
/-- What is left behind a pass. -/
def nxR (r s : Nat) : Nat := r &&& (18446744073709551615 - 2047 * 2 ^ s % 18446744073709551616)
theorem mask_bit (s j : Nat) : (2047 * 2 ^ s % 18446744073709551616).testBit j = decide (j < 64 ∧ s ≤ j ∧ j < s + 11) := by
  rw [show (18446744073709551616 : Nat) = 2 ^ 64 from rfl, Nat.testBit_mod_two_pow, Nat.mul_comm, Nat.testBit_two_pow_mul, show (2047 : Nat) = 2 ^ 11 - 1 from rfl, Nat.testBit_two_pow_sub_one]
  by_cases h1 : j < 64 <;> by_cases h2 : s ≤ j <;> by_cases h3 : j < s + 11 <;> simp [h1, h2, h3] <;> omega
theorem nxR_bit {r : Nat} (hr : r < 18446744073709551616) (s j : Nat) : (nxR r s).testBit j = (r.testBit j && !decide (s ≤ j ∧ j < s + 11)) := by
  unfold nxR
  rw [Nat.testBit_and]
  by_cases hj : j < 64
  · have hm : 2047 * 2 ^ s % 18446744073709551616 < 2 ^ 64 := Nat.mod_lt _ (by decide)
    have e : (18446744073709551615 - 2047 * 2 ^ s % 18446744073709551616).testBit j = !(2047 * 2 ^ s % 18446744073709551616).testBit j := by
      rw [show 18446744073709551615 - 2047 * 2 ^ s % 18446744073709551616 = 2 ^ 64 - (2047 * 2 ^ s % 18446744073709551616 + 1) by omega, Nat.testBit_two_pow_sub_succ hm, decide_eq_true hj, Bool.true_and]
    rw [e, mask_bit]
    by_cases h2 : s ≤ j ∧ j < s + 11
    · rw [decide_eq_true h2, decide_eq_true ⟨hj, h2⟩]
    · rw [decide_eq_false h2, decide_eq_false (fun h => h2 h.2)]
  · rw [Nat.testBit_lt_two_pow (Nat.lt_of_lt_of_le hr (Nat.pow_le_pow_right (n := 2) (i := 64) (by decide) (by omega))), Bool.false_and, Bool.false_and]
theorem nxR_lt {r s : Nat} (hb : r.testBit s = true) (hr : r < 18446744073709551616) : nxR r s < r := by
  have h1 : nxR r s ≤ r := Nat.and_le_left
  have h2 : nxR r s ≠ r := fun e => by
    have h3 := nxR_bit hr s s
    rw [e, hb, decide_eq_true (show s ≤ s ∧ s < s + 11 by omega)] at h3
    cases h3
  omega
/-- What Grade tells. -/
noncomputable def grL (A : VV) (down : Bool) : List Nat := if A.keyB = true then grN A.len (lesK (keyV A) 1 down) A.len else []
theorem grL_len {A : VV} (h : A.keyB = true) (down : Bool) : (grL A down).length = A.len := by unfold grL; rw [if_pos h, grN_len]
theorem grL_so {A : VV} {down : Bool} {a : List Nat} (h : A.keyB = true) (ha : IsSo A.len (lesK (keyV A) 1 down) a) : a = grL A down := by
  unfold grL; rw [if_pos h]
  exact (so_iff (lesK_tot _ _ _ _) (grN_gr (lesK_tot _ _ _ _))).1 ha
def GradeIs (A : VV) (down : Bool) (w : World) (e : Ending) (w' : World) : Prop := ∃ v, e = .returned (.tuple #[v, .bool A.keyB]) ∧ Slc w' (fun b => w.heap.size ≤ b) v (grL A down).length (ints (zL (grL A down))) ∧ (A.keyB = false → v = .slice none 0 0) ∧ Below w.heap.size w w'
set_option maxHeartbeats 8000000 in
theorem rxgrade_calls {ok : Nat → Prop} (u : Value) (A : VV) (down : Bool) (w : World) (h : IsV w ok u A) (hok : A.ok) (hn : A.nm) (ht : ∀ z ∈ A.text, -2147483648 ≤ z ∧ z ≤ 2147483647) (hT : TabAt w) :
    Calls Tryz.prog 35 #[.agg #[u], .bool down] w (GradeIs A down w) := by
  obtain ⟨i0, hi, hz0, hz1, hz2⟩ := info_parts info_int
  have hsu := h.store
  obtain ⟨W1, hW1⟩ : ∃ W1, W1 = w.alloc (.cells #[u] 36) := ⟨_, rfl⟩
  have HB := Lib.hid (show Below w.heap.size w W1 by rw [hW1]; exact below_new _ _)
  have HA := Lib.hid (show At1 W1 w.heap.size u by rw [hW1]; exact At1.new w _ _)
  have HU := Lib.hid (show IsV W1 ok u A from h.grow HB.out)
  have HT := Lib.hid (show TabAt W1 from fun j hj => keep_below HB.out _ _ (hT j hj))
  have HOK := Lib.hid hok
  have HNM := Lib.hid hn
  have HN := Lib.hid (whs_rng hok hn)
  have HR := Lib.hid ht
  obtain ⟨bb, hbb⟩ : ∃ bb, A.isBit = bb := ⟨_, rfl⟩
  have HBB := Lib.hid hbb
  have HPL := Lib.hid (show A.packed.length ≤ 1048576 by cases A <;> simp [VV.packed] <;> exact hok)
  obtain ⟨np, hnp⟩ : ∃ np, A.packed.length = np := ⟨_, rfl⟩
  have HNP := Lib.hid hnp
  obtain ⟨kb, hkb⟩ : ∃ kb, A.keyB = kb := ⟨_, rfl⟩
  have HKB := Lib.hid hkb
  have hfold := hW1.symm
  clear h hW1 hok hn ht hT hbb hnp hkb
  have cHA0 := HA.out.2.1
  go_enter Tryz.func35, Tryz.ntmps35
  go_wp2_with fail
  clear hfold
  refine (vpacked_calls _ A _ HU.out).mono ?_
  rintro e W11 ⟨vb, rfl, hvb, hB⟩
  clear cHA0
  replace HA := Lib.hid (HA.out.below hB)
  replace HB := Lib.hid (HB.out.trans (hB.mono HB.out.size))
  replace HU := Lib.hid (HU.out.grow hB)
  replace HT := Lib.hid (fun j hj => keep_below hB _ _ (HT.out j hj))
  rw [HBB.out]
  have HVB := Lib.hid hvb
  obtain ⟨pao, pcap, rfl, _⟩ := hvb.opened
  rw [HNP.out] at HVB ⊢
  obtain ⟨M, hM⟩ : ∃ M, (np + 63) / 64 = M := ⟨_, rfl⟩
  rw [hM] at HVB ⊢
  clear hvb hM
  clear hB
  obtain ⟨W12, hWn⟩ : ∃ xw9, W11.alloc (.cells #[.int .i64 (np : Int), .slice pao M pcap] 82) = xw9 := ⟨_, rfl⟩
  have hB : Below W11.heap.size W11 W12 := by rw [← hWn]; exact below_new _ _
  have hNB : At2 W12 W11.heap.size (.int .i64 (np : Int)) (.slice pao M pcap) := by rw [← hWn]; exact At2.new _ _ _ _
  replace HA := Lib.hid (HA.out.below hB)
  replace HB := Lib.hid (HB.out.trans (hB.mono HB.out.size))
  replace HU := Lib.hid (HU.out.grow hB)
  replace HT := Lib.hid (fun j hj => keep_below hB _ _ (HT.out j hj))
  replace HVB := Lib.hid (HVB.out.keep (keep_below hB))
  have HPV := Lib.hid hNB
  clear hNB hB
  have cHA0 := HA.out.2.1
  have cHPV0 := HPV.out.2.1
  have cHPV1 := HPV.out.2.2.1
  cases bb
  · go_wp2_with fail
    clear hWn
    have HSZ := Lib.hid HB.out.size
    refine (rxkeys_calls _ A _ HU.out HOK.out HN.out HR.out HT.out).mono ?_
    rintro e W13 ⟨v2, rfl, hv2, hno, hB⟩
    clear cHA0 cHPV0 cHPV1
    replace HA := Lib.hid (HA.out.below hB)
    replace HB := Lib.hid (HB.out.trans (hB.mono HB.out.size))
    replace HU := Lib.hid (HU.out.grow hB)
    replace HT := Lib.hid (fun j hj => keep_below hB _ _ (HT.out j hj))
    replace HVB := Lib.hid (HVB.out.keep (keep_below hB))
    replace HPV := Lib.hid (HPV.out.below hB)
    have HZ := Lib.hid (slc_lower hv2 HSZ.out)
    have HNO := Lib.hid hno
    rw [HKB.out] at HNO ⊢
    clear hv2 hno
    clear hB
    cases kb
    · obtain rfl := HNO.out rfl
      have cHA0 := HA.out.2.1
      have cHPV0 := HPV.out.2.1
      have cHPV1 := HPV.out.2.2.1
      go_wp2_with fail
      go_ret2
      exact ⟨_, by rw [HKB.out]; rfl, by unfold grL; rw [if_neg (by rw [HKB.out]; decide)]; exact Slc.nil _ _, fun _ => rfl, HB.out⟩
    · obtain ⟨ko, kc, rfl, _⟩ := HZ.out.opened
      obtain ⟨keys, hkeys⟩ : ∃ keys, keysV A = keys := ⟨_, rfl⟩
      have HKL := Lib.hid (show ∀ x ∈ keys, x < 18446744073709551616 by rw [← hkeys]; exact keysV_lt HOK.out HNM.out HR.out)
      have hkl : keys.length = A.len := by rw [← hkeys]; exact keysV_len HKB.out
      have HGS := Lib.hid (show ∀ (sh : Nat) (a : List Nat), PassIs keys down sh a → RestIs keys sh 0 → a = grL A down from fun sh a h1 h2 => grL_so HKB.out (by
        rw [← hkl]
        refine pass_end h1 h2 HKL.out fun i k hi hk => ?_
        rw [← hkeys]
        exact keysV_ord HOK.out HNM.out HKB.out HR.out (hkl ▸ hi) (hkl ▸ hk)))
      have HGL := Lib.hid (show (grL A down).length = keys.length by rw [hkl]; exact grL_len HKB.out down)
      have HKM := Lib.hid (show keys.length ≤ 1048576 by rw [hkl]; exact VV.ok_len HOK.out)
      rw [hkeys] at HZ ⊢
      clear hkeys hkl
      obtain ⟨n, hn⟩ : ∃ n, keys.length = n := ⟨_, rfl⟩
      have HNK := Lib.hid hn
      have hnm := HKM.out
      rw [hn] at hnm HZ HGL ⊢
      clear hn
      have hmk := run_mkI3 n (by omega) W13
      obtain ⟨W0, hW0⟩ : ∃ W0, W0 = W13.alloc (.cells (zerosV (.int .i64 0) n) 3) := ⟨_, rfl⟩
      obtain ⟨g, hg⟩ : ∃ g, W13.heap.size = g := ⟨_, rfl⟩
      have HO0 : Hid (W0.ownsRow w.heap.size 3 1 (.slice (some ⟨g, 0, none⟩) n n) n (ints (zL (idT n 0)))) := Lib.hid (by rw [hW0, idT_zero, zL_rep, ints_rep, ← hg]; exact own_make1 _ _ _ (by omega) _ _ HB.out.size)
      have HQ0 := Lib.hid (show Below W13.heap.size W13 W0 by rw [hW0]; exact below_new _ _)
      have HG := Lib.hid hg
      rw [hg] at hmk
      rw [← hW0] at hmk
      clear hW0 hg
      go_wp2
      clear hmk
      go_loopw [35] (fun iv wr => ∃ k : Nat, k ≤ n ∧ iv = .int .i64 k ∧ wr.ownsRow w.heap.size 3 1 (.slice (some ⟨g, 0, none⟩) n n) n (ints (zL (idT n k))) ∧ Below W13.heap.size W13 wr) (fun iv _ => n - (intOf iv).toNat)
      case atStart => exact ⟨0, by omega, rfl, HO0.out, HQ0.out⟩
      case round =>
        obtain ⟨k, hk, rfl, hown, hB⟩ := hrel
        have HO := Lib.hid hown
        have HQ := Lib.hid hB
        clear hown hB HO0 HQ0
        by_cases hlt : k < n
        · have hcw := owns_cell HO.out k (by rw [ints_len, zL_len, idT_len]; exact hlt)
          obtain ⟨y, hy⟩ := ints_zT (l := idT n k) (p := k) (by rw [ints_len, zL_len, idT_len]; exact hlt)
          rw [hy] at hcw
          have hfr := World.ownsRow.frozenAt HO.out k
          clear hy
          go_wp2
          go_roundw
          case rel =>
            refine ⟨k + 1, by omega, by go_num, ?_, HQ.out.setCell (show W13.heap.size ≤ g from Nat.le_of_eq HG.out) _⟩
            have := (World.ownsRow.stored HO.out k (.int .i64 (k : Int))).1
            rw [ints_set, zL_set, idT_set hlt] at this
            exact this
          case measure => simp [intOf]; omega
        · have hkn : k = n := by omega
          have HE := Lib.hid (show Slc wr (fun b => w.heap.size ≤ b) (.slice (some ⟨g, 0, none⟩) n n) n (ints (zL (List.range n))) by
            have := Slc.owned HO.out
            rw [hkn, idT_all] at this
            exact this)
          clear HO hkn
          have HZ2 := Lib.hid (HZ.out.below HQ.out)
          go_wp2_with fail
          refine (rxspread_calls _ keys _ (by rw [HNK.out]; exact HZ2.out) HKM.out HKL.out).mono ?_
          rintro e w9 ⟨rfl, rfl⟩
          go_wp2
          go_loopw [10, 12] (fun av rv wq => ∃ (sh r : Nat) (a : List Nat), rv = .int .u64 (r : Int) ∧ r < 18446744073709551616 ∧ RestIs keys sh r ∧ PassIs keys down sh a ∧ Slc wq (fun b => w.heap.size ≤ b) av n (ints (zL a)) ∧ Below W13.heap.size W13 wq) (fun _ rv _ => (intOf rv).toNat)
          case atStart => exact ⟨0, _, _, rfl, Nat.lt_of_lt_of_le (spN_lt keys 64) (by decide), rest_start keys, by have := pass_start keys down; rwa [HNK.out] at this, HE.out, HQ.out⟩
          case round =>
            obtain ⟨sh, r, a, rfl, hr, hrest, hpass, hsl, hBq⟩ := hrel
            clear HZ2 HQ HE
            have HR9 := Lib.hid hr
            have HRE := Lib.hid hrest
            have HPA := Lib.hid hpass
            have HSL := Lib.hid hsl
            have HBQ := Lib.hid hBq
            obtain ⟨ar, ac, rfl, _⟩ := hsl.opened
            have HALN := Lib.hid (show a.length = n by rw [hpass.1.length_eq, List.length_range, HNK.out])
            have HZ3 := Lib.hid (HZ.out.below HBQ.out)
            have HT3 := Lib.hid (show TabAt wr from fun j hj => keep_below HBQ.out _ _ (HT.out j hj))
            clear hrest hpass hsl hBq
            by_cases h0 : r = 0
            · subst h0
              have HE9 := Lib.hid (HGS.out sh a HPA.out HRE.out)
              go_wp2
              go_ret2
              refine ⟨_, by rw [HKB.out]; rfl, ?_, fun h => absurd (h.symm.trans HKB.out) (by decide), HB.out.trans (HBQ.out.mono HB.out.size)⟩
              rw [← HE9.out, HALN.out]
              exact HSL.out
            · obtain ⟨c1, c2, c3, c4⟩ := ctz_spec r h0 hr
              have hne : ((r : Int) != 0) = true := by simp; omega
              have htr := fun wx hx => trailing_calls r hr h0 wx hx
              obtain ⟨s, hs⟩ : ∃ s, Lib.ctz 64 r = s := ⟨_, rfl⟩
              rw [hs] at htr c1 c2 c3
              have HTR := Lib.hid htr
              have HC2 := Lib.hid c2
              have HLO := Lib.hid (show ∀ j, j < s → r.testBit j = false from c3)
              have HSS := Lib.hid (show sh ≤ s by
                by_cases h : sh ≤ s
                · exact h
                · have h9 := HRE.out s
                  rw [c2, decide_eq_false h, Bool.false_and] at h9
                  cases h9)
              have HS64 := Lib.hid c1
              have HM := Lib.hid (show ∀ x ∈ a, x < keys.length from fun x hx => List.mem_range.1 (HPA.out.1.mem_iff.1 hx))
              have c9 : ((2 : Int) ^ s) = ((2 ^ s : Nat) : Int) := by simp
              have e1 : IntKind.u64.wrap (2047 * (2 : Int) ^ s) = ((2047 * 2 ^ s % 18446744073709551616 : Nat) : Int) := by
                rw [c9, IntKind.wrap_u64]; omega
              have b1 : bits BinOp.andNot IntKind.u64 (r : Int) ((2047 * 2 ^ s % 18446744073709551616 : Nat) : Int) = ((nxR r s : Nat) : Int) := u64_andNot_nat r _ hr (Nat.mod_lt _ (by decide))
              obtain ⟨mk, hmk⟩ : ∃ mk, 2047 * 2 ^ s % 18446744073709551616 = mk := ⟨_, rfl⟩
              rw [hmk] at e1 b1
              clear h0 hs htr c2 c3 c4 hmk c9
              go_wp2_with fail
              refine (HTR.out _ HT3.out).mono ?_
              rintro e w9 ⟨rfl, rfl⟩
              go_wp2_with fail
              refine (rxpass_calls _ _ keys a s down _ (by rw [HNK.out]; exact HZ3.out) (by rw [HALN.out]; exact HSL.out) HS64.out HKM.out (by rw [HALN.out, ← HNK.out]; exact HKM.out) HKL.out HM.out).mono ?_
              rintro e w10 ⟨vp, rfl, hvp, hB⟩
              rw [HALN.out] at hvp
              have HVP := Lib.hid (slc_lower hvp (Nat.le_trans HB.out.size HBQ.out.size))
              have HB4 := Lib.hid (HBQ.out.trans (hB.mono HBQ.out.size))
              clear hvp hB
              go_wp2
              go_roundw
              case rel => exact ⟨s + 11, nxR r s, _, rfl, Nat.lt_trans (nxR_lt HC2.out HR9.out) HR9.out, rest_step HSS.out HRE.out HLO.out (nxR_bit HR9.out s), pass_step HPA.out HRE.out HSS.out HS64.out HLO.out, HVP.out, HB4.out⟩
              case measure => have := nxR_lt HC2.out HR9.out; simp [intOf]; omega
  · have HKT := Lib.hid (show A.keyB = true by have h := HBB.out; revert h; cases A <;> simp [VV.isBit, VV.keyB, VV.isWh])
    have HGS := Lib.hid (show bsL A.packed down = grL A down from grL_so HKT.out (by have h := HBB.out; have h2 := HOK.out; revert h h2; cases A <;> simp only [VV.isBit, VV.ok] <;> intro h h2 <;> first | exact bits_so h2 down | cases h))
    go_wp2_with fail
    clear hWn
    have HSZ := Lib.hid HB.out.size
    refine (rxbits_calls _ A.packed down _ HVB.out HPL.out HT.out).mono ?_
    rintro e W13 ⟨v2, rfl, hv2, hB⟩
    clear cHA0 cHPV0 cHPV1
    replace HA := Lib.hid (HA.out.below hB)
    replace HB := Lib.hid (HB.out.trans (hB.mono HB.out.size))
    replace HU := Lib.hid (HU.out.grow hB)
    replace HT := Lib.hid (fun j hj => keep_below hB _ _ (HT.out j hj))
    replace HVB := Lib.hid (HVB.out.keep (keep_below hB))
    replace HPV := Lib.hid (HPV.out.below hB)
    have HZ := Lib.hid (slc_lower hv2 HSZ.out)
    clear hv2
    clear hB
    have cHA0 := HA.out.2.1
    have cHPV0 := HPV.out.2.1
    have cHPV1 := HPV.out.2.2.1
    go_wp2_with fail
    go_ret2
    refine ⟨v2, by rw [HKT.out]; rfl, ?_, fun h => absurd (h.symm.trans HKT.out) (by decide), HB.out⟩
    have := HZ.out
    rw [← HGS.out, bsL_len]
    exact this
end Go.Proofs.YtbdbpamefkgelaaGreatDoor

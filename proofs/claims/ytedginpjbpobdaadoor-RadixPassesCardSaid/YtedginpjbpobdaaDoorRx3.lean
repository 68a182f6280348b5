/- Layer 17's law: RadixPasses. -/
import Derived.Test.YtedginpjbpobdaaDoorMgRx1
import Derived.Test.YtedginpjbpobdaaDoorMgBv1
namespace Go.Proofs.YtedginpjbpobdaaDoor
set_option maxRecDepth 100000
open Go.RowKit Fl
set_option linter.unusedVariables false

def u8s9 (l : List Nat) : List Value := l.map fun z : Nat => Value.int .u8 (z : Int)
theorem rxpass_n {ok okA : Nat → Prop} (v va : Value) (keys l : List Nat) (nk n : Nat) (s : Nat) (down : Bool) (w : World) (hv : Slc w ok v nk (u64s keys)) (hva : Slc w okA va n (ints (zL l))) (hnk : keys.length = nk) (hn : l.length = n) (hs : s < 64) (hm : nk ≤ 100) (hml : n ≤ 100) (hk : ∀ x ∈ keys, x < 18446744073709551616) (hl : ∀ x ∈ l, x < nk) :
    Calls Tryd.prog 21 #[v, va, .int .u64 (s : Int), .bool down] w fun e w' => ∃ u, e = .returned u ∧ Slc w' (fun b => w.heap.size ≤ b) u n (ints (zL (passL (dgK down (fun i => keys.getD i 0) s) l))) ∧ Below w.heap.size w w' := by
  subst hnk hn
  exact rxpass_calls v va keys l s down w hv hva hs (by omega) (by omega) hk hl
theorem rpass_n {ok okA : Nat → Prop} (v va : Value) (keys l : List Nat) (nk n : Nat) (s : Nat) (down : Bool) (w : World) (hv : Slc w ok v nk (u64s keys)) (hva : Slc w okA va n (ints (zL l))) (hnk : keys.length = nk) (hn : l.length = n) (hs : s < 64) (hm : nk ≤ 100) (hml : n ≤ 100) (hl : ∀ x ∈ l, x < nk) :
    Calls Tryd.prog 22 #[v, va, .int .u64 (s : Int), .bool down] w fun e w' => ∃ u, e = .returned u ∧ Slc w' (fun b => w.heap.size ≤ b) u n (ints (zL (passL (dgK down (fun i => keys.getD i 0) s) l))) ∧ Below w.heap.size w w' := by
  subst hnk hn
  exact rpass_calls v va keys l s down w hv hva hs (by omega) (by omega) hl
theorem pass_len (dg : Nat → Nat) (h : ∀ i, dg i < 2048) (l : List Nat) : (passL dg l).length = l.length := (passL_perm (fun x _ => h x)).length_eq
set_option maxHeartbeats 16000000 in
theorem radixPasses_walk (vk vp vl : Value) (keys P : List Nat) (sh : Nat) (down : Bool) (l : List Bool) (w : World) (hvk : Slc w (fun _ => True) vk keys.length (u64s keys)) (hvp : Slc w (fun _ => True) vp P.length (u8s9 P)) (hvl : Slc w (fun _ => True) vl l.length (bools l)) (hk : ∀ x ∈ keys, x < 18446744073709551616) (hp : ∀ x ∈ P, x < 256) (hsh : sh < 18446744073709551616) (hm1 : keys.length ≤ maxLen) (hm2 : P.length ≤ maxLen) (hm3 : l.length ≤ maxLen) (hT : TabAt w) :
    Calls Tryd.prog 5 #[vk, vp, .int .u64 (sh : Int), .bool down, vl] w (Yes17 w) := by
  obtain ⟨i0, hi, hz0, hz1, hz2⟩ := info_parts info_int
  have HK := Lib.hid hvk
  have HP := Lib.hid hvp
  have HL := Lib.hid hvl
  have HT := Lib.hid hT
  have HB := Lib.hid (Below.refl w.heap.size w)
  have HKL := Lib.hid hk
  have HPL := Lib.hid hp
  obtain ⟨ak, ck, rfl, _⟩ := hvk.opened
  obtain ⟨ap, cp, rfl, _⟩ := hvp.opened
  obtain ⟨al, cl, rfl, _⟩ := hvl.opened
  obtain ⟨nk, hnk⟩ : ∃ nk, keys.length = nk := ⟨_, rfl⟩
  obtain ⟨np, hnp⟩ : ∃ np, P.length = np := ⟨_, rfl⟩
  obtain ⟨n, hn⟩ : ∃ n, l.length = n := ⟨_, rfl⟩
  have HNK := Lib.hid hnk
  have HNP := Lib.hid hnp
  have HN := Lib.hid hn
  rw [hnk] at HK hm1 ⊢
  rw [hnp] at HP hm2 ⊢
  rw [hn] at HL hm3 ⊢
  clear hvk hvp hvl hT hk hp hnk hnp hn
  go_enter Tryd.func5, Tryd.ntmps5
  by_cases g1 : 100 < nk
  · go_wp2_with fail
    refine (awake17_calls _ HT.out).mono ?_
    rintro e W11 ⟨rfl, hB⟩
    replace HB := Lib.hid (HB.out.trans (hB.mono HB.out.size))
    replace HK := Lib.hid (HK.out.below hB)
    replace HP := Lib.hid (HP.out.below hB)
    replace HL := Lib.hid (HL.out.below hB)
    replace HT := Lib.hid (fun j hj => keep_below hB _ _ (HT.out j hj))
    clear hB
    go_wp2_with fail
    go_ret
    exact ⟨rfl, HB.out⟩
  by_cases g2 : 100 < np
  · go_wp2_with fail
    refine (awake17_calls _ HT.out).mono ?_
    rintro e W11 ⟨rfl, hB⟩
    replace HB := Lib.hid (HB.out.trans (hB.mono HB.out.size))
    replace HK := Lib.hid (HK.out.below hB)
    replace HP := Lib.hid (HP.out.below hB)
    replace HL := Lib.hid (HL.out.below hB)
    replace HT := Lib.hid (fun j hj => keep_below hB _ _ (HT.out j hj))
    clear hB
    go_wp2_with fail
    go_ret
    exact ⟨rfl, HB.out⟩
  by_cases g3 : 200 < n
  · go_wp2_with fail
    refine (awake17_calls _ HT.out).mono ?_
    rintro e W11 ⟨rfl, hB⟩
    replace HB := Lib.hid (HB.out.trans (hB.mono HB.out.size))
    replace HK := Lib.hid (HK.out.below hB)
    replace HP := Lib.hid (HP.out.below hB)
    replace HL := Lib.hid (HL.out.below hB)
    replace HT := Lib.hid (fun j hj => keep_below hB _ _ (HT.out j hj))
    clear hB
    go_wp2_with fail
    go_ret
    exact ⟨rfl, HB.out⟩
  by_cases g4 : nk = 0 ∧ 0 < np
  · obtain rfl : nk = 0 := g4.1
    have g5 := g4.2
    clear g4
    go_wp2_with fail
    refine (awake17_calls _ HT.out).mono ?_
    rintro e W11 ⟨rfl, hB⟩
    replace HB := Lib.hid (HB.out.trans (hB.mono HB.out.size))
    replace HK := Lib.hid (HK.out.below hB)
    replace HP := Lib.hid (HP.out.below hB)
    replace HL := Lib.hid (HL.out.below hB)
    replace HT := Lib.hid (fun j hj => keep_below hB _ _ (HT.out j hj))
    clear hB
    go_wp2_with fail
    go_ret
    exact ⟨rfl, HB.out⟩
  have HM1 := Lib.hid (show nk ≤ 100 by omega)
  have HM2 := Lib.hid (show np ≤ 100 by omega)
  have HM3 := Lib.hid (show n ≤ 200 by omega)
  have HG4 := Lib.hid (show 0 < np → 0 < nk by omega)
  obtain ⟨Q, hQ⟩ : ∃ Q, P.map (fun x => x % nk) = Q := ⟨_, rfl⟩
  have HQL := Lib.hid (show Q.length = np by rw [← hQ, List.length_map]; exact HNP.out)
  have HQA := Lib.hid (show ∀ (i x : Nat), P[i]? = some x → Q[i]? = some (x % nk) from fun i x h => by rw [← hQ, List.getElem?_map, h]; rfl)
  have HQM := Lib.hid (show ∀ x ∈ Q, x < nk from fun x hx => by
    rw [← hQ] at hx
    obtain ⟨y, hy, rfl⟩ := List.mem_map.1 hx
    have h1 : 0 < P.length := List.length_pos_of_mem hy
    rw [HNP.out] at h1
    exact Nat.mod_lt _ (HG4.out h1))
  obtain ⟨s, hs⟩ : ∃ s, sh % 64 = s := ⟨_, rfl⟩
  have HS := Lib.hid (show s < 64 by rw [← hs]; exact Nat.mod_lt _ (by decide))
  have s1 : (sh : Int) % 64 = (s : Int) := by rw [← hs]; simp
  have s2 : (sh : Int).tmod 64 = (s : Int) := by rw [← hs, show (64 : Int) = ((64 : Nat) : Int) from rfl, ← Int.ofNat_tmod]
  clear hQ hs
  by_cases hnz : nk = 0
  · have t1 : (((nk : Nat) : Int) == 0) = true := by simp; omega
    have t2 : (nk == 0) = true := by simpa using hnz
    have t3 : ¬ 0 < np := by omega
    clear hnz g4
    go_wp2
    go_loopw [11, 12] (fun av iv wr => ∃ i : Nat, i ≤ np ∧ iv = .int .i64 i ∧ wr.ownsRow w.heap.size 3 1 av i (ints (zL (Q.take i))) ∧ Below w.heap.size w wr) (fun _ iv _ => np - (intOf iv).toNat)
    case atStart => exact ⟨0, by omega, rfl, World.ownsRow_nil _ _ _ _, Below.refl _ _⟩
    case round =>
      obtain ⟨i, hin, rfl, hown, hBq⟩ := hrel
      have HO := Lib.hid hown
      have HQ := Lib.hid hBq
      have hsz := hBq.size
      clear hown hBq
      by_cases hlt : i < np
      · exfalso; omega
      · have hin2 : i = np := by omega
        have HA := Lib.hid (Slc.owned HO.out)
        rw [hin2] at HA
        rw [← HQL.out, List.take_length, HQL.out] at HA
        obtain ⟨aa, ca, rfl, _⟩ := HA.out.opened
        have hB : Below w.heap.size w wr := HQ.out
        clear HO HQ hsz hlt
        subst hin2
        replace HB := Lib.hid (HB.out.trans (hB.mono HB.out.size))
        replace HK := Lib.hid (HK.out.below hB)
        replace HP := Lib.hid (HP.out.below hB)
        replace HL := Lib.hid (HL.out.below hB)
        replace HT := Lib.hid (fun j hj => keep_below hB _ _ (HT.out j hj))
        clear hB
        go_wp2_with fail
        refine (rxpass_n _ _ keys Q nk i s down _ HK.out HA.out HNK.out HQL.out HS.out HM1.out HM2.out HKL.out HQM.out).mono ?_
        rintro e W51 ⟨v1, rfl, hv1, hB⟩
        replace HB := Lib.hid (HB.out.trans (hB.mono HB.out.size))
        replace HK := Lib.hid (HK.out.below hB)
        replace HP := Lib.hid (HP.out.below hB)
        replace HL := Lib.hid (HL.out.below hB)
        replace HT := Lib.hid (fun j hj => keep_below hB _ _ (HT.out j hj))
        replace HA := Lib.hid (HA.out.below hB)
        have H1 := Lib.hid hv1
        obtain ⟨a1, c1, rfl, _⟩ := hv1.opened
        clear hv1
        clear hB
        go_wp2_with fail
        refine (rpass_n _ _ keys Q nk i s down _ HK.out HA.out HNK.out HQL.out HS.out HM1.out HM2.out HQM.out).mono ?_
        rintro e W52 ⟨v2, rfl, hv2, hB⟩
        replace HB := Lib.hid (HB.out.trans (hB.mono HB.out.size))
        replace HK := Lib.hid (HK.out.below hB)
        replace HP := Lib.hid (HP.out.below hB)
        replace HL := Lib.hid (HL.out.below hB)
        replace HT := Lib.hid (fun j hj => keep_below hB _ _ (HT.out j hj))
        replace HA := Lib.hid (HA.out.below hB)
        replace H1 := Lib.hid (H1.out.below hB)
        have H2 := Lib.hid hv2
        obtain ⟨a2, c2, rfl, _⟩ := hv2.opened
        clear hv2
        clear hB
        go_wp2_with fail
        refine (ints_eq _ _ _ i _ H1.out H2.out (by rw [zL_len, pass_len _ (fun _ => dgK_lt _ _ _ _)]; exact HQL.out) (by have := HM2.out; omega)).mono ?_
        rintro e W53 ⟨rfl, hB⟩
        replace HB := Lib.hid (HB.out.trans (hB.mono HB.out.size))
        replace HK := Lib.hid (HK.out.below hB)
        replace HP := Lib.hid (HP.out.below hB)
        replace HL := Lib.hid (HL.out.below hB)
        replace HT := Lib.hid (fun j hj => keep_below hB _ _ (HT.out j hj))
        replace HA := Lib.hid (HA.out.below hB)
        replace H1 := Lib.hid (H1.out.below hB)
        replace H2 := Lib.hid (H2.out.below hB)
        clear hB
        go_wp2_with fail
        refine (pack_calls _ l _ (by rw [HN.out]; exact HL.out.1.sl) (by rw [HN.out]; have := HM3.out; omega)).mono ?_
        rintro e W54 ⟨vb, rfl, hvb, hB⟩
        replace HB := Lib.hid (HB.out.trans (hB.mono HB.out.size))
        replace HK := Lib.hid (HK.out.below hB)
        replace HP := Lib.hid (HP.out.below hB)
        replace HL := Lib.hid (HL.out.below hB)
        replace HT := Lib.hid (fun j hj => keep_below hB _ _ (HT.out j hj))
        replace HA := Lib.hid (HA.out.below hB)
        replace H1 := Lib.hid (H1.out.below hB)
        replace H2 := Lib.hid (H2.out.below hB)
        have HVB := Lib.hid hvb
        obtain ⟨pao, pcap, rfl, _⟩ := hvb.opened
        clear hvb
        clear hB
        go_wp2_with fail
        refine (rxbits_calls _ l down _ HVB.out (by rw [HN.out]; have := HM3.out; omega) HT.out).mono ?_
        rintro e W55 ⟨v3, rfl, hv3, hB⟩
        replace HB := Lib.hid (HB.out.trans (hB.mono HB.out.size))
        replace HK := Lib.hid (HK.out.below hB)
        replace HP := Lib.hid (HP.out.below hB)
        replace HL := Lib.hid (HL.out.below hB)
        replace HT := Lib.hid (fun j hj => keep_below hB _ _ (HT.out j hj))
        replace HA := Lib.hid (HA.out.below hB)
        replace H1 := Lib.hid (H1.out.below hB)
        replace H2 := Lib.hid (H2.out.below hB)
        replace HVB := Lib.hid (HVB.out.keep (keep_below hB))
        rw [HN.out] at hv3
        have H3 := Lib.hid hv3
        obtain ⟨a3, c3, rfl, _⟩ := hv3.opened
        clear hv3
        clear hB
        go_wp2_with fail
        refine (rbits_calls _ l down _ (by rw [HN.out]; exact HL.out) (by rw [HN.out]; have := HM3.out; omega)).mono ?_
        rintro e W56 ⟨v4, rfl, hv4, hB⟩
        replace HB := Lib.hid (HB.out.trans (hB.mono HB.out.size))
        replace HK := Lib.hid (HK.out.below hB)
        replace HP := Lib.hid (HP.out.below hB)
        replace HL := Lib.hid (HL.out.below hB)
        replace HT := Lib.hid (fun j hj => keep_below hB _ _ (HT.out j hj))
        replace HA := Lib.hid (HA.out.below hB)
        replace H1 := Lib.hid (H1.out.below hB)
        replace H2 := Lib.hid (H2.out.below hB)
        replace HVB := Lib.hid (HVB.out.keep (keep_below hB))
        replace H3 := Lib.hid (H3.out.below hB)
        rw [HN.out] at hv4
        have H4 := Lib.hid hv4
        obtain ⟨a4, c4, rfl, _⟩ := hv4.opened
        clear hv4
        clear hB
        go_wp2_with fail
        refine (ints_eq _ _ _ n _ H3.out H4.out (by rw [zL_len, bsL_len]; exact HN.out) (by have := HM3.out; omega)).mono ?_
        rintro e W57 ⟨rfl, hB⟩
        replace HB := Lib.hid (HB.out.trans (hB.mono HB.out.size))
        replace HK := Lib.hid (HK.out.below hB)
        replace HP := Lib.hid (HP.out.below hB)
        replace HL := Lib.hid (HL.out.below hB)
        replace HT := Lib.hid (fun j hj => keep_below hB _ _ (HT.out j hj))
        replace HA := Lib.hid (HA.out.below hB)
        replace H1 := Lib.hid (H1.out.below hB)
        replace H2 := Lib.hid (H2.out.below hB)
        replace HVB := Lib.hid (HVB.out.keep (keep_below hB))
        replace H3 := Lib.hid (H3.out.below hB)
        replace H4 := Lib.hid (H4.out.below hB)
        clear hB
        go_wp2_with fail
        refine (awake17_calls _ HT.out).mono ?_
        rintro e W58 ⟨rfl, hB⟩
        replace HB := Lib.hid (HB.out.trans (hB.mono HB.out.size))
        replace HK := Lib.hid (HK.out.below hB)
        replace HP := Lib.hid (HP.out.below hB)
        replace HL := Lib.hid (HL.out.below hB)
        replace HT := Lib.hid (fun j hj => keep_below hB _ _ (HT.out j hj))
        replace HA := Lib.hid (HA.out.below hB)
        replace H1 := Lib.hid (H1.out.below hB)
        replace H2 := Lib.hid (H2.out.below hB)
        replace HVB := Lib.hid (HVB.out.keep (keep_below hB))
        replace H3 := Lib.hid (H3.out.below hB)
        replace H4 := Lib.hid (H4.out.below hB)
        clear hB
        go_wp2_with fail
        go_ret
        exact ⟨rfl, HB.out⟩
  · have t1 : (((nk : Nat) : Int) == 0) = false := by simp; omega
    have t2 : (nk == 0) = false := by simpa using hnz
    clear hnz g4
    go_wp2
    go_loopw [11, 12] (fun av iv wr => ∃ i : Nat, i ≤ np ∧ iv = .int .i64 i ∧ wr.ownsRow w.heap.size 3 1 av i (ints (zL (Q.take i))) ∧ Below w.heap.size w wr) (fun _ iv _ => np - (intOf iv).toNat)
    case atStart => exact ⟨0, by omega, rfl, World.ownsRow_nil _ _ _ _, Below.refl _ _⟩
    case round =>
      obtain ⟨i, hin, rfl, hown, hBq⟩ := hrel
      have HO := Lib.hid hown
      have HQ := Lib.hid hBq
      have hsz := hBq.size
      clear hown hBq
      by_cases hlt : i < np
      · have hnz : 0 < nk := HG4.out (by omega)
        have hn1 : (nk = 0) = False := by simp; omega
        have hn2 : (((nk : Nat) : Int) = 0) = False := by simp; omega
        clear t1 t2
        have HP2 := Lib.hid (HP.out.below HQ.out)
        obtain ⟨b1, o1, cp1, x, e9, hx, hcx⟩ := Slc.at_map (fun z : Nat => Value.int .u8 (z : Int)) (l := P) (by rw [HNP.out]; exact HP2.out) i (by rw [HNP.out]; exact hlt)
        rw [HNP.out] at e9
        cases e9
        have hx256 := HPL.out x (List.mem_of_getElem? hx)
        have HTK := Lib.hid (take_getX (HQA.out i x hx))
        obtain ⟨q, hq⟩ : ∃ q, x % nk = q := ⟨_, rfl⟩
        have q1 : (x : Int) % (nk : Int) = (q : Int) := by rw [← hq]; rfl
        have q2 : (x : Int).tmod (nk : Int) = (q : Int) := by rw [← hq, ← Int.ofNat_tmod]
        have hq256 : q ≤ x := by rw [← hq]; exact Nat.mod_le _ _
        rw [hq] at HTK
        clear hx hq
        go_wp2_with (at_builtin; refine wpList_append_own _ rfl _ _ 22 rfl w.heap.size 3 i0 (.int .i64 0) 1 8 Tryd.underlying22 hi hz0 hz1 hz2 rfl (by decide) _ _ _ rfl (HO.out.alloc _) ⟨wr.heap.size, 0, none⟩ 1 1 [.int .i64 (q : Int)] rfl rfl (cell_one_new wr _ _) (one_intV q) (by unfold maxLen; omega) (by omega) (by simp; omega) ?_)
        intro v' w1 hown' hgrow _
        have HO1 := Lib.hid hown'
        have HB1 := Lib.hid (grown_below (HQ.out.alloc hsz _) (HO.out.alloc _) (Nat.le_refl _) (by simp; omega) hgrow)
        clear hown' hgrow
        go_wp2
        go_roundw
        case rel =>
          refine ⟨i + 1, by omega, by go_num, ?_, HB1.out⟩
          have := HO1.out
          rw [HTK.out, zL_app, ints_append2]
          exact this
        case measure => simp [intOf]; omega
      · have hin2 : i = np := by omega
        have HA := Lib.hid (Slc.owned HO.out)
        rw [hin2] at HA
        rw [← HQL.out, List.take_length, HQL.out] at HA
        obtain ⟨aa, ca, rfl, _⟩ := HA.out.opened
        have hB : Below w.heap.size w wr := HQ.out
        clear HO HQ hsz hlt
        subst hin2
        replace HB := Lib.hid (HB.out.trans (hB.mono HB.out.size))
        replace HK := Lib.hid (HK.out.below hB)
        replace HP := Lib.hid (HP.out.below hB)
        replace HL := Lib.hid (HL.out.below hB)
        replace HT := Lib.hid (fun j hj => keep_below hB _ _ (HT.out j hj))
        clear hB
        go_wp2_with fail
        refine (rxpass_n _ _ keys Q nk i s down _ HK.out HA.out HNK.out HQL.out HS.out HM1.out HM2.out HKL.out HQM.out).mono ?_
        rintro e W51 ⟨v1, rfl, hv1, hB⟩
        replace HB := Lib.hid (HB.out.trans (hB.mono HB.out.size))
        replace HK := Lib.hid (HK.out.below hB)
        replace HP := Lib.hid (HP.out.below hB)
        replace HL := Lib.hid (HL.out.below hB)
        replace HT := Lib.hid (fun j hj => keep_below hB _ _ (HT.out j hj))
        replace HA := Lib.hid (HA.out.below hB)
        have H1 := Lib.hid hv1
        obtain ⟨a1, c1, rfl, _⟩ := hv1.opened
        clear hv1
        clear hB
        go_wp2_with fail
        refine (rpass_n _ _ keys Q nk i s down _ HK.out HA.out HNK.out HQL.out HS.out HM1.out HM2.out HQM.out).mono ?_
        rintro e W52 ⟨v2, rfl, hv2, hB⟩
        replace HB := Lib.hid (HB.out.trans (hB.mono HB.out.size))
        replace HK := Lib.hid (HK.out.below hB)
        replace HP := Lib.hid (HP.out.below hB)
        replace HL := Lib.hid (HL.out.below hB)
        replace HT := Lib.hid (fun j hj => keep_below hB _ _ (HT.out j hj))
        replace HA := Lib.hid (HA.out.below hB)
        replace H1 := Lib.hid (H1.out.below hB)
        have H2 := Lib.hid hv2
        obtain ⟨a2, c2, rfl, _⟩ := hv2.opened
        clear hv2
        clear hB
        go_wp2_with fail
        refine (ints_eq _ _ _ i _ H1.out H2.out (by rw [zL_len, pass_len _ (fun _ => dgK_lt _ _ _ _)]; exact HQL.out) (by have := HM2.out; omega)).mono ?_
        rintro e W53 ⟨rfl, hB⟩
        replace HB := Lib.hid (HB.out.trans (hB.mono HB.out.size))
        replace HK := Lib.hid (HK.out.below hB)
        replace HP := Lib.hid (HP.out.below hB)
        replace HL := Lib.hid (HL.out.below hB)
        replace HT := Lib.hid (fun j hj => keep_below hB _ _ (HT.out j hj))
        replace HA := Lib.hid (HA.out.below hB)
        replace H1 := Lib.hid (H1.out.below hB)
        replace H2 := Lib.hid (H2.out.below hB)
        clear hB
        go_wp2_with fail
        refine (pack_calls _ l _ (by rw [HN.out]; exact HL.out.1.sl) (by rw [HN.out]; have := HM3.out; omega)).mono ?_
        rintro e W54 ⟨vb, rfl, hvb, hB⟩
        replace HB := Lib.hid (HB.out.trans (hB.mono HB.out.size))
        replace HK := Lib.hid (HK.out.below hB)
        replace HP := Lib.hid (HP.out.below hB)
        replace HL := Lib.hid (HL.out.below hB)
        replace HT := Lib.hid (fun j hj => keep_below hB _ _ (HT.out j hj))
        replace HA := Lib.hid (HA.out.below hB)
        replace H1 := Lib.hid (H1.out.below hB)
        replace H2 := Lib.hid (H2.out.below hB)
        have HVB := Lib.hid hvb
        obtain ⟨pao, pcap, rfl, _⟩ := hvb.opened
        clear hvb
        clear hB
        go_wp2_with fail
        refine (rxbits_calls _ l down _ HVB.out (by rw [HN.out]; have := HM3.out; omega) HT.out).mono ?_
        rintro e W55 ⟨v3, rfl, hv3, hB⟩
        replace HB := Lib.hid (HB.out.trans (hB.mono HB.out.size))
        replace HK := Lib.hid (HK.out.below hB)
        replace HP := Lib.hid (HP.out.below hB)
        replace HL := Lib.hid (HL.out.below hB)
        replace HT := Lib.hid (fun j hj => keep_below hB _ _ (HT.out j hj))
        replace HA := Lib.hid (HA.out.below hB)
        replace H1 := Lib.hid (H1.out.below hB)
        replace H2 := Lib.hid (H2.out.below hB)
        replace HVB := Lib.hid (HVB.out.keep (keep_below hB))
        rw [HN.out] at hv3
        have H3 := Lib.hid hv3
        obtain ⟨a3, c3, rfl, _⟩ := hv3.opened
        clear hv3
        clear hB
        go_wp2_with fail
        refine (rbits_calls _ l down _ (by rw [HN.out]; exact HL.out) (by rw [HN.out]; have := HM3.out; omega)).mono ?_
        rintro e W56 ⟨v4, rfl, hv4, hB⟩
        replace HB := Lib.hid (HB.out.trans (hB.mono HB.out.size))
        replace HK := Lib.hid (HK.out.below hB)
        replace HP := Lib.hid (HP.out.below hB)
        replace HL := Lib.hid (HL.out.below hB)
        replace HT := Lib.hid (fun j hj => keep_below hB _ _ (HT.out j hj))
        replace HA := Lib.hid (HA.out.below hB)
        replace H1 := Lib.hid (H1.out.below hB)
        replace H2 := Lib.hid (H2.out.below hB)
        replace HVB := Lib.hid (HVB.out.keep (keep_below hB))
        replace H3 := Lib.hid (H3.out.below hB)
        rw [HN.out] at hv4
        have H4 := Lib.hid hv4
        obtain ⟨a4, c4, rfl, _⟩ := hv4.opened
        clear hv4
        clear hB
        go_wp2_with fail
        refine (ints_eq _ _ _ n _ H3.out H4.out (by rw [zL_len, bsL_len]; exact HN.out) (by have := HM3.out; omega)).mono ?_
        rintro e W57 ⟨rfl, hB⟩
        replace HB := Lib.hid (HB.out.trans (hB.mono HB.out.size))
        replace HK := Lib.hid (HK.out.below hB)
        replace HP := Lib.hid (HP.out.below hB)
        replace HL := Lib.hid (HL.out.below hB)
        replace HT := Lib.hid (fun j hj => keep_below hB _ _ (HT.out j hj))
        replace HA := Lib.hid (HA.out.below hB)
        replace H1 := Lib.hid (H1.out.below hB)
        replace H2 := Lib.hid (H2.out.below hB)
        replace HVB := Lib.hid (HVB.out.keep (keep_below hB))
        replace H3 := Lib.hid (H3.out.below hB)
        replace H4 := Lib.hid (H4.out.below hB)
        clear hB
        go_wp2_with fail
        refine (awake17_calls _ HT.out).mono ?_
        rintro e W58 ⟨rfl, hB⟩
        replace HB := Lib.hid (HB.out.trans (hB.mono HB.out.size))
        replace HK := Lib.hid (HK.out.below hB)
        replace HP := Lib.hid (HP.out.below hB)
        replace HL := Lib.hid (HL.out.below hB)
        replace HT := Lib.hid (fun j hj => keep_below hB _ _ (HT.out j hj))
        replace HA := Lib.hid (HA.out.below hB)
        replace H1 := Lib.hid (H1.out.below hB)
        replace H2 := Lib.hid (H2.out.below hB)
        replace HVB := Lib.hid (HVB.out.keep (keep_below hB))
        replace H3 := Lib.hid (H3.out.below hB)
        replace H4 := Lib.hid (H4.out.below hB)
        clear hB
        go_wp2_with fail
        go_ret
        exact ⟨rfl, HB.out⟩

theorem nat_u64 {l : List Int} (h : ∀ z ∈ l, (Lit.int .u64 z).wf = true) : l.map (Value.int .u64) = u64s (l.map Int.toNat) ∧ ∀ x ∈ l.map Int.toNat, x < 18446744073709551616 := by
  refine ⟨?_, fun x hx => ?_⟩
  · unfold u64s; rw [List.map_map]
    exact List.map_congr_left fun z hz => by have := bounds_u64 (h z hz); simp only [Function.comp]; rw [Int.toNat_of_nonneg this.1]
  · obtain ⟨z, hz, rfl⟩ := List.mem_map.1 hx
    have := bounds_u64 (h z hz); omega
theorem nat_u8 {l : List Int} (h : ∀ z ∈ l, (Lit.int .u8 z).wf = true) : l.map (Value.int .u8) = u8s9 (l.map Int.toNat) ∧ ∀ x ∈ l.map Int.toNat, x < 256 := by
  refine ⟨?_, fun x hx => ?_⟩
  · unfold u8s9; rw [List.map_map]
    exact List.map_congr_left fun z hz => by have := bounds_u8 (h z hz); simp only [Function.comp]; rw [Int.toNat_of_nonneg this.1]
  · obtain ⟨z, hz, rfl⟩ := List.mem_map.1 hx
    have := bounds_u8 (h z hz); omega
theorem radixPasses_frame (w : World) (vk : Value) (keys : List Int) (hr1 : RowC w vk (keys.map (Value.int .u64))) (hz1 : ∀ z ∈ keys, (Lit.int .u64 z).wf = true) (hm1 : keys.length ≤ maxLen) (vp : Value) (picks : List Int) (hr2 : RowC w vp (picks.map (Value.int .u8))) (hz2 : ∀ z ∈ picks, (Lit.int .u8 z).wf = true) (hm2 : picks.length ≤ maxLen) (shift : Int) (hsh : (Lit.int .u64 shift).wf = true) (down : Bool) (vl : Value) (l : List Bool) (hr3 : RowC w vl (l.map Value.bool)) (hm3 : l.length ≤ maxLen) (hT : TabAt w) :
    Calls Tryd.prog 5 #[vk, vp, .int .u64 shift, .bool down, vl] w fun e w' => e = .returned (.bool true) ∧ Below w.heap.size w w' := by
  have hs := bounds_u64 hsh
  obtain ⟨sh, rfl⟩ := Int.eq_ofNat_of_zero_le hs.1
  obtain ⟨k1, k2⟩ := nat_u64 hz1
  obtain ⟨p1, p2⟩ := nat_u8 hz2
  have s1 := hr1.slc
  have s2 := hr2.slc
  have s3 := hr3.slc
  rw [List.length_map] at s1 s2 s3
  rw [k1] at s1
  rw [p1] at s2
  exact radixPasses_walk vk vp vl (keys.map Int.toNat) (picks.map Int.toNat) sh down l w (by rw [List.length_map]; exact s1) (by rw [List.length_map]; exact s2) s3 k2 p2 (by omega) (by rw [List.length_map]; exact hm1) (by rw [List.length_map]; exact hm2) hm3 hT
end Go.Proofs.YtedginpjbpobdaaDoor

/- Layer 17's law: RadixKeys. -/
import Derived.Test.YtedginpjbpobdaaDoorMgRx1
import Derived.Test.YtedginpjbpobdaaDoorMgVe1
namespace Go.Proofs.YtedginpjbpobdaaDoor
set_option maxRecDepth 100000
open Go.RowKit Fl
set_option linter.unusedVariables false

theorem keys_ints {ok : Nat → Prop} (u : Value) (l : List Int) (n : Nat) (w : World) (h : IsV w ok u (.ints l)) (hl : l.length = n) (hn : n ≤ 100) (hs : l.all sm = true) (hT : TabAt w) :
    Calls Tryd.prog 16 #[.agg #[u]] w fun e w' => ∃ v, e = .returned (.tuple #[v, .bool true]) ∧ Slc w' (fun b => w.heap.size ≤ b) v n (u64s (l.map kI)) ∧ Below w.heap.size w w' := by
  refine (rxkeys_calls u (.ints l) w h (show l.length ≤ 1048576 by omega) (fun z hz => by have := sm_of (List.all_eq_true.1 hs z hz); omega) (fun z hz => by cases hz) hT).mono ?_
  rintro e w' ⟨v, h1, h2, _, h3⟩
  have e1 : (keysV (.ints l)) = l.map kI := by unfold keysV; rw [if_neg (show ¬ (VV.ints l).kind = 5 by simp [VV.kind])]; rfl
  rw [e1, List.length_map, hl] at h2
  exact ⟨v, h1, h2, h3⟩
theorem keys_chars {ok : Nat → Prop} (u : Value) (l : List Int) (n : Nat) (w : World) (h : IsV w ok u (.chars l)) (hl : l.length = n) (hn : n ≤ 100) (hs : ∀ z ∈ l, -2147483648 ≤ z ∧ z ≤ 2147483647) (hT : TabAt w) :
    Calls Tryd.prog 16 #[.agg #[u]] w fun e w' => ∃ v, e = .returned (.tuple #[v, .bool true]) ∧ Slc w' (fun b => w.heap.size ≤ b) v n (u64s (l.map kR)) ∧ Below w.heap.size w w' := by
  refine (rxkeys_calls u (.chars l) w h (show l.length ≤ 1048576 by omega) (fun z hz => by cases hz) hs hT).mono ?_
  rintro e w' ⟨v, h1, h2, _, h3⟩
  have e1 : (keysV (.chars l)) = l.map kR := by unfold keysV; rw [if_pos (show (VV.chars l).kind = 5 from rfl)]; rfl
  rw [e1, List.length_map, hl] at h2
  exact ⟨v, h1, h2, h3⟩
theorem keys_none {ok : Nat → Prop} (u : Value) (w : World) (h : IsV w ok u (.boxes [])) (hT : TabAt w) :
    Calls Tryd.prog 16 #[.agg #[u]] w fun e w' => e = .returned (.tuple #[.slice none 0 0, .bool false]) ∧ Below w.heap.size w w' := by
  refine (rxkeys_calls u (.boxes []) w h ⟨by decide, fun p hp => by cases hp⟩ (fun z hz => by cases hz) (fun z hz => by cases hz) hT).mono ?_
  rintro e w' ⟨v, h1, _, h2, h3⟩
  rw [h2 rfl] at h1
  exact ⟨h1, h3⟩
theorem rxspread_n {ok : Nat → Prop} (v : Value) (keys : List Nat) (n : Nat) (w : World) (hv : Slc w ok v n (u64s keys)) (hl : keys.length = n) (hn : n ≤ 100) (hk : ∀ x ∈ keys, x < 18446744073709551616) :
    Calls Tryd.prog 19 #[v] w fun e w' => e = .returned (.int .u64 ((spN keys 64 : Nat) : Int)) ∧ w = w' := rxspread_calls v keys w (by rw [hl]; exact hv) (by omega) hk
theorem rspread_n {ok : Nat → Prop} (v : Value) (keys : List Nat) (n : Nat) (w : World) (hv : Slc w ok v n (u64s keys)) (hl : keys.length = n) (hn : n ≤ 100) (hk : ∀ x ∈ keys, x < 18446744073709551616) :
    Calls Tryd.prog 20 #[v] w fun e w' => e = .returned (.int .u64 ((spN keys 64 : Nat) : Int)) ∧ Below w.heap.size w w' := rspread_calls v keys w (by rw [hl]; exact hv) (by omega) hk
theorem rxspread_nil (w : World) : Calls Tryd.prog 19 #[.slice none 0 0] w fun e w' => e = .returned (.int .u64 0) ∧ w = w' := rxspread_calls (.slice none 0 0) [] w (Slc.nil w (fun _ => True)) (by decide) (fun x hx => by cases hx)
theorem kI_wrap {x : Int} (h1 : -9223372036854775808 ≤ x) (h2 : x ≤ 9223372036854775807) : IntKind.u64.wrap (IntKind.u64.wrap x + 9223372036854775808) = ((kI x : Nat) : Int) := by
  unfold kI; rw [IntKind.wrap_u64, IntKind.wrap_u64]; omega
theorem kI_iff {x y : Int} (h1 : -9223372036854775808 ≤ x) (h2 : -9223372036854775808 ≤ y) : kI x < kI y ↔ x < y := by unfold kI; omega
theorem wf_i32k {z : Int} (h : (Lit.int .i32 z).wf = true) : -2147483648 ≤ z ∧ z ≤ 2147483647 := wf_i32 h
theorem kR_val {x : Int} (h1 : -2147483648 ≤ x) : ((kR x : Nat) : Int) = x + 2147483648 := by unfold kR; omega
set_option maxHeartbeats 16000000 in
theorem radixKeys_walk (vl vc : Value) (l c : List Int) (w : World) (hvl : Slc w (fun _ => True) vl l.length (ints l)) (hvc : Slc w (fun _ => True) vc c.length (i32s c)) (hcr : ∀ z ∈ c, -2147483648 ≤ z ∧ z ≤ 2147483647) (hml : l.length ≤ maxLen) (hmc : c.length ≤ maxLen) (hT : TabAt w) :
    Calls Tryd.prog 4 #[vl, vc] w (Yes17 w) := by
  have HL := Lib.hid hvl
  have HC := Lib.hid hvc
  have HT := Lib.hid hT
  have HB := Lib.hid (Below.refl w.heap.size w)
  have HCR := Lib.hid hcr
  obtain ⟨ao, cap, rfl, _⟩ := hvl.opened
  obtain ⟨co, cap2, rfl, _⟩ := hvc.opened
  obtain ⟨n, hn⟩ : ∃ n, l.length = n := ⟨_, rfl⟩
  obtain ⟨m, hm⟩ : ∃ m, c.length = m := ⟨_, rfl⟩
  have HN := Lib.hid hn
  have HM := Lib.hid hm
  rw [hn] at HL hml ⊢
  rw [hm] at HC hmc ⊢
  obtain ⟨sb, hsb⟩ : ∃ sb, l.all sm = sb := ⟨_, rfl⟩
  have HSB := Lib.hid hsb
  clear hvl hvc hT hcr hn hm hsb
  go_enter Tryd.func4, Tryd.ntmps4
  by_cases g1 : 100 < n
  · go_wp2_with fail
    refine (awake17_calls _ HT.out).mono ?_
    rintro e W11 ⟨rfl, hB⟩
    replace HB := Lib.hid (HB.out.trans (hB.mono HB.out.size))
    replace HL := Lib.hid (HL.out.below hB)
    replace HC := Lib.hid (HC.out.below hB)
    replace HT := Lib.hid (fun j hj => keep_below hB _ _ (HT.out j hj))
    clear hB
    go_wp2_with fail
    go_ret
    exact ⟨rfl, HB.out⟩
  by_cases g2 : 100 < m
  · go_wp2_with fail
    refine (awake17_calls _ HT.out).mono ?_
    rintro e W11 ⟨rfl, hB⟩
    replace HB := Lib.hid (HB.out.trans (hB.mono HB.out.size))
    replace HL := Lib.hid (HL.out.below hB)
    replace HC := Lib.hid (HC.out.below hB)
    replace HT := Lib.hid (fun j hj => keep_below hB _ _ (HT.out j hj))
    clear hB
    go_wp2_with fail
    go_ret
    exact ⟨rfl, HB.out⟩
  have HN1 := Lib.hid (show n ≤ 100 by omega)
  have HM1 := Lib.hid (show m ≤ 100 by omega)
  cases sb
  · go_wp2_with fail
    refine (vints_no _ l _ (by rw [HN.out]; exact HL.out) (by rw [HN.out]; have := HN1.out; omega) HSB.out).mono ?_
    rintro e W11 ⟨u, rfl, hu, hB⟩
    replace HB := Lib.hid (HB.out.trans (hB.mono HB.out.size))
    replace HL := Lib.hid (HL.out.below hB)
    replace HC := Lib.hid (HC.out.below hB)
    replace HT := Lib.hid (fun j hj => keep_below hB _ _ (HT.out j hj))
    have HU := Lib.hid hu
    have hsu := HU.out.store
    clear hu
    clear hB
    obtain ⟨W12, hWn⟩ : ∃ xw9, W11.alloc (.cells #[u] 30) = xw9 := ⟨_, rfl⟩
    have hB : Below W11.heap.size W11 W12 := by rw [← hWn]; exact below_new _ _
    have hNB : At1 W12 W11.heap.size (u) := by rw [← hWn]; exact At1.new _ _ _
    replace HB := Lib.hid (HB.out.trans (hB.mono HB.out.size))
    replace HL := Lib.hid (HL.out.below hB)
    replace HC := Lib.hid (HC.out.below hB)
    replace HT := Lib.hid (fun j hj => keep_below hB _ _ (HT.out j hj))
    replace HU := Lib.hid (HU.out.grow hB)
    have HA := Lib.hid hNB
    clear hNB hB
    have cHA0 := HA.out.2.1
    go_wp2_with fail
    clear hWn
    refine (awake17_calls _ HT.out).mono ?_
    rintro e W13 ⟨rfl, hB⟩
    clear cHA0
    replace HB := Lib.hid (HB.out.trans (hB.mono HB.out.size))
    replace HL := Lib.hid (HL.out.below hB)
    replace HC := Lib.hid (HC.out.below hB)
    replace HT := Lib.hid (fun j hj => keep_below hB _ _ (HT.out j hj))
    replace HU := Lib.hid (HU.out.grow hB)
    replace HA := Lib.hid (HA.out.below hB)
    clear hB
    have cHA0 := HA.out.2.1
    go_wp2_with fail
    go_ret
    exact ⟨rfl, HB.out⟩
  · go_wp2_with fail
    refine (vints_yes _ l _ (by rw [HN.out]; exact HL.out) (by rw [HN.out]; have := HN1.out; omega) HSB.out).mono ?_
    rintro e W11 ⟨u, rfl, hu, hB⟩
    replace HB := Lib.hid (HB.out.trans (hB.mono HB.out.size))
    replace HL := Lib.hid (HL.out.below hB)
    replace HC := Lib.hid (HC.out.below hB)
    replace HT := Lib.hid (fun j hj => keep_below hB _ _ (HT.out j hj))
    have HU := Lib.hid hu
    have hsu := HU.out.store
    clear hu
    clear hB
    obtain ⟨W12, hWn⟩ : ∃ xw9, W11.alloc (.cells #[u] 30) = xw9 := ⟨_, rfl⟩
    have hB : Below W11.heap.size W11 W12 := by rw [← hWn]; exact below_new _ _
    have hNB : At1 W12 W11.heap.size (u) := by rw [← hWn]; exact At1.new _ _ _
    replace HB := Lib.hid (HB.out.trans (hB.mono HB.out.size))
    replace HL := Lib.hid (HL.out.below hB)
    replace HC := Lib.hid (HC.out.below hB)
    replace HT := Lib.hid (fun j hj => keep_below hB _ _ (HT.out j hj))
    replace HU := Lib.hid (HU.out.grow hB)
    have HV := Lib.hid hNB
    clear hNB hB
    have cHV0 := HV.out.2.1
    go_wp2_with fail
    clear hWn
    refine (keys_ints _ l n _ HU.out HN.out HN1.out HSB.out HT.out).mono ?_
    rintro e W13 ⟨va, rfl, hva, hB⟩
    clear cHV0
    replace HB := Lib.hid (HB.out.trans (hB.mono HB.out.size))
    replace HL := Lib.hid (HL.out.below hB)
    replace HC := Lib.hid (HC.out.below hB)
    replace HT := Lib.hid (fun j hj => keep_below hB _ _ (HT.out j hj))
    replace HU := Lib.hid (HU.out.grow hB)
    replace HV := Lib.hid (HV.out.below hB)
    have HA := Lib.hid hva
    obtain ⟨ka, kac, rfl, _⟩ := hva.opened
    clear hva
    clear hB
    have cHV0 := HV.out.2.1
    go_wp2_with fail
    refine (vchars_calls _ c _ (by rw [HM.out]; exact HC.out) (by rw [HM.out]; have := HM1.out; omega)).mono ?_
    rintro e W14 ⟨uc, rfl, huc, hB⟩
    clear cHV0
    replace HB := Lib.hid (HB.out.trans (hB.mono HB.out.size))
    replace HL := Lib.hid (HL.out.below hB)
    replace HC := Lib.hid (HC.out.below hB)
    replace HT := Lib.hid (fun j hj => keep_below hB _ _ (HT.out j hj))
    replace HU := Lib.hid (HU.out.grow hB)
    replace HV := Lib.hid (HV.out.below hB)
    replace HA := Lib.hid (HA.out.below hB)
    have HUC := Lib.hid huc
    have hsuc := HUC.out.store
    clear huc
    clear hB
    have cHV0 := HV.out.2.1
    go_wp2_with fail
    refine (keys_chars _ c m _ HUC.out HM.out HM1.out HCR.out HT.out).mono ?_
    rintro e W15 ⟨vb, rfl, hvb, hB⟩
    clear cHV0
    replace HB := Lib.hid (HB.out.trans (hB.mono HB.out.size))
    replace HL := Lib.hid (HL.out.below hB)
    replace HC := Lib.hid (HC.out.below hB)
    replace HT := Lib.hid (fun j hj => keep_below hB _ _ (HT.out j hj))
    replace HU := Lib.hid (HU.out.grow hB)
    replace HV := Lib.hid (HV.out.below hB)
    replace HA := Lib.hid (HA.out.below hB)
    replace HUC := Lib.hid (HUC.out.grow hB)
    have HBK := Lib.hid hvb
    obtain ⟨kb, kbc, rfl, _⟩ := hvb.opened
    clear hvb
    clear hB
    have HKI := Lib.hid (show ∀ x ∈ l.map kI, x < 18446744073709551616 from fun x hx => by
      obtain ⟨z, hz, rfl⟩ := List.mem_map.1 hx
      have := sm_of (List.all_eq_true.1 HSB.out z hz)
      exact kI_lt (by omega) (by omega))
    have HKR := Lib.hid (show ∀ x ∈ c.map kR, x < 18446744073709551616 from fun x hx => by
      obtain ⟨z, hz, rfl⟩ := List.mem_map.1 hx
      have h9 := HCR.out z hz
      have := kR_lt h9.1 h9.2
      omega)
    have HLI := Lib.hid (show (l.map kI).length = n by rw [List.length_map]; exact HN.out)
    have HLR := Lib.hid (show (c.map kR).length = m by rw [List.length_map]; exact HM.out)
    have HLA := Lib.hid (show ∀ (i : Nat) (x : Int), l[i]? = some x → (l.map kI)[i]? = some (kI x) ∧ -9223372036854775808 ≤ x ∧ x ≤ 9223372036854775807 from fun i x h => ⟨by rw [List.getElem?_map, h]; rfl, by
      have := sm_of (List.all_eq_true.1 HSB.out x (List.mem_of_getElem? h)); omega⟩)
    have HLB := Lib.hid (show ∀ (i : Nat) (x : Int), c[i]? = some x → (c.map kR)[i]? = some (kR x) ∧ -2147483648 ≤ x ∧ x ≤ 2147483647 from fun i x h => ⟨by rw [List.getElem?_map, h]; rfl, HCR.out x (List.mem_of_getElem? h)⟩)
    obtain ⟨KA, hKA⟩ : ∃ KA, l.map kI = KA := ⟨_, rfl⟩
    obtain ⟨KB, hKB⟩ : ∃ KB, c.map kR = KB := ⟨_, rfl⟩
    rw [hKA] at HA HKI HLI HLA
    rw [hKB] at HBK HKR HLR HLB
    clear hKA hKB
    go_wp2
    go_loopw [11] (fun iv wr => ∃ i : Nat, i ≤ n ∧ iv = .int .i64 i ∧ Below W15.heap.size W15 wr) (fun iv _ => n - (intOf iv).toNat)
    case atStart => exact ⟨0, by omega, rfl, Below.refl _ _⟩
    case round =>
      obtain ⟨i, hi, rfl, hBq⟩ := hrel
      have HQ := Lib.hid hBq
      clear hBq
      by_cases hlt : i < n
      · have HL2 := Lib.hid (HL.out.below HQ.out)
        have HA2 := Lib.hid (HA.out.below HQ.out)
        obtain ⟨b1, o1, cp1, x, e9, hx, hcx⟩ := Slc.at_map (Value.int .i64) (l := l) (by rw [HN.out]; exact HL2.out) i (by rw [HN.out]; exact hlt)
        rw [HN.out] at e9
        cases e9
        obtain ⟨b2, o2, cp2, kx, e9, hkx, hckx⟩ := Slc.at_map (fun z : Nat => Value.int .u64 (z : Int)) (l := KA) (by rw [HLI.out]; exact HA2.out) i (by rw [HLI.out]; exact hlt)
        rw [HLI.out] at e9
        cases e9
        obtain ⟨f1, f2, f3⟩ := HLA.out i x hx
        obtain rfl : kI x = kx := Option.some.inj (f1.symm.trans hkx)
        have e1 := kI_wrap f2 f3
        have HX := Lib.hid hx
        have HF2 := Lib.hid f2
        have HKX := Lib.hid hkx
        clear f1 f2 f3 hx hkx
        go_wp2
        go_region
        clear hcx hckx
        go_wp2
        go_loopw [12] (fun kv wz => ∃ k : Nat, k ≤ i ∧ kv = .int .i64 k ∧ Below W15.heap.size W15 wz) (fun kv _ => i - (intOf kv).toNat)
        case atStart => exact ⟨0, by omega, rfl, HQ.out.trans ((Below.drewN' (Below.refl _ _) 1).mono HQ.out.size)⟩
        case round =>
          obtain ⟨k, hk, rfl, hBz⟩ := hrel
          have HQ2 := Lib.hid hBz
          clear hBz HL2 HA2
          by_cases hlk : k < i
          · have HL2 := Lib.hid (HL.out.below HQ2.out)
            have HA2 := Lib.hid (HA.out.below HQ2.out)
            obtain ⟨b1, o1, cp1, x2, e9, hx2, hcx⟩ := Slc.at_map (Value.int .i64) (l := l) (by rw [HN.out]; exact HL2.out) i (by rw [HN.out]; exact hlt)
            rw [HN.out] at e9
            cases e9
            obtain rfl : x2 = x := Option.some.inj (hx2.symm.trans HX.out)
            obtain ⟨b2, o2, cp2, kx, e9, hkx, hckx⟩ := Slc.at_map (fun z : Nat => Value.int .u64 (z : Int)) (l := KA) (by rw [HLI.out]; exact HA2.out) i (by rw [HLI.out]; exact hlt)
            rw [HLI.out] at e9
            cases e9
            obtain rfl : kx = kI x2 := Option.some.inj (hkx.symm.trans HKX.out)
            obtain ⟨b3, o3, cp3, y, e9, hy, hcy⟩ := Slc.at_map (Value.int .i64) (l := l) (by rw [HN.out]; exact HL2.out) k (by rw [HN.out]; omega)
            rw [HN.out] at e9
            cases e9
            obtain ⟨b4, o4, cp4, ky, e9, hky, hcky⟩ := Slc.at_map (fun z : Nat => Value.int .u64 (z : Int)) (l := KA) (by rw [HLI.out]; exact HA2.out) k (by rw [HLI.out]; omega)
            rw [HLI.out] at e9
            cases e9
            obtain ⟨f1, f2, f3⟩ := HLA.out k y hy
            obtain rfl : kI y = ky := Option.some.inj (f1.symm.trans hky)
            have HIF := Lib.hid (kI_iff HF2.out f2)
            obtain ⟨p, hp⟩ : ∃ p, kI x2 = p := ⟨_, rfl⟩
            obtain ⟨q, hq⟩ : ∃ q, kI y = q := ⟨_, rfl⟩
            rw [hp] at hckx HIF
            rw [hq] at hcky HIF
            clear f1 f2 f3 hx2 hkx hy hky hp hq e1
            by_cases hxy : x2 < y
            · have hpq : p < q := HIF.out.2 hxy
              go_wp2
              go_region
              go_wp2
              go_roundw
              case rel => exact ⟨k + 1, by omega, by go_num, HQ2.out.trans ((Below.drewN' (Below.refl _ _) 1).mono HQ2.out.size)⟩
              case measure => simp [intOf]; omega
            · have hpq : ¬ p < q := fun h => hxy (HIF.out.1 h)
              go_wp2
              go_region
              go_wp2
              go_roundw
              case rel => exact ⟨k + 1, by omega, by go_num, HQ2.out.trans ((Below.drewN' (Below.refl _ _) 1).mono HQ2.out.size)⟩
              case measure => simp [intOf]; omega
          · clear e1
            go_wp2
            go_roundw
            case rel => exact ⟨i + 1, by omega, by go_num, HQ2.out⟩
            case measure => simp [intOf]; omega
      · go_wp2
        go_loopw [13] (fun iv wz => ∃ i : Nat, i ≤ m ∧ iv = .int .i64 i ∧ Below W15.heap.size W15 wz) (fun iv _ => m - (intOf iv).toNat)
        case atStart => exact ⟨0, by omega, rfl, HQ.out⟩
        case round =>
          obtain ⟨j, hj, rfl, hBq⟩ := hrel
          clear HQ
          have HQ := Lib.hid hBq
          clear hBq
          by_cases hlj : j < m
          · have HC2 := Lib.hid (HC.out.below HQ.out)
            have HB2 := Lib.hid (HBK.out.below HQ.out)
            obtain ⟨b1, o1, cp1, x, e9, hx, hcx⟩ := Slc.at_map (Value.int .i32) (l := c) (by rw [HM.out]; exact HC2.out) j (by rw [HM.out]; exact hlj)
            rw [HM.out] at e9
            cases e9
            obtain ⟨b2, o2, cp2, kx, e9, hkx, hckx⟩ := Slc.at_map (fun z : Nat => Value.int .u64 (z : Int)) (l := KB) (by rw [HLR.out]; exact HB2.out) j (by rw [HLR.out]; exact hlj)
            rw [HLR.out] at e9
            cases e9
            obtain ⟨f1, f2, f3⟩ := HLB.out j x hx
            obtain rfl : kR x = kx := Option.some.inj (f1.symm.trans hkx)
            rw [kR_val f2] at hckx
            clear f1 hx hkx
            go_wp2
            go_region
            go_wp2
            go_roundw
            case rel => exact ⟨j + 1, by omega, by go_num, HQ.out.trans ((Below.drewN' (Below.refl _ _) 1).mono HQ.out.size)⟩
            case measure => simp [intOf]; omega
          · skip
            have hB : Below W15.heap.size W15 wr := HQ.out
            clear HQ
            clear HU HV HUC HL HC
            replace HB := Lib.hid (HB.out.trans (hB.mono HB.out.size))
            replace HT := Lib.hid (fun j hj => keep_below hB _ _ (HT.out j hj))
            replace HA := Lib.hid (HA.out.below hB)
            replace HBK := Lib.hid (HBK.out.below hB)
            clear hB
            go_wp2_with fail
            refine (vboxes_calls (.slice none 0 0) [] _ (ok := fun _ => True) (Arrs.nil _ _) (by decide) (fun p hp => by cases hp)).mono ?_
            rintro e W16 ⟨ub, rfl, hub, hB⟩
            replace HB := Lib.hid (HB.out.trans (hB.mono HB.out.size))
            replace HT := Lib.hid (fun j hj => keep_below hB _ _ (HT.out j hj))
            replace HA := Lib.hid (HA.out.below hB)
            replace HBK := Lib.hid (HBK.out.below hB)
            have HUB := Lib.hid hub
            have hsub := HUB.out.store
            clear hub
            clear hB
            go_wp2_with fail
            refine (keys_none _ _ HUB.out HT.out).mono ?_
            rintro e W17 ⟨rfl, hB⟩
            replace HB := Lib.hid (HB.out.trans (hB.mono HB.out.size))
            replace HT := Lib.hid (fun j hj => keep_below hB _ _ (HT.out j hj))
            replace HA := Lib.hid (HA.out.below hB)
            replace HBK := Lib.hid (HBK.out.below hB)
            replace HUB := Lib.hid (HUB.out.grow hB)
            clear hB
            go_wp2_with fail
            refine (rxspread_n _ KA n _ HA.out HLI.out HN1.out HKI.out).mono ?_
            rintro e w9 ⟨rfl, rfl⟩
            obtain ⟨sa, hsa⟩ : ∃ sa, spN KA 64 = sa := ⟨_, rfl⟩
            have HSA := Lib.hid hsa
            rw [hsa]
            clear hsa
            go_wp2_with fail
            refine (rspread_n _ KA n _ HA.out HLI.out HN1.out HKI.out).mono ?_
            rintro e W18 ⟨rfl, hB⟩
            replace HB := Lib.hid (HB.out.trans (hB.mono HB.out.size))
            replace HT := Lib.hid (fun j hj => keep_below hB _ _ (HT.out j hj))
            replace HA := Lib.hid (HA.out.below hB)
            replace HBK := Lib.hid (HBK.out.below hB)
            replace HUB := Lib.hid (HUB.out.grow hB)
            rw [HSA.out]
            clear hB
            go_wp2_with fail
            refine (rxspread_n _ KB m _ HBK.out HLR.out HM1.out HKR.out).mono ?_
            rintro e w9 ⟨rfl, rfl⟩
            obtain ⟨sc, hsc⟩ : ∃ sc, spN KB 64 = sc := ⟨_, rfl⟩
            have HSC := Lib.hid hsc
            rw [hsc]
            clear hsc
            go_wp2_with fail
            refine (rspread_n _ KB m _ HBK.out HLR.out HM1.out HKR.out).mono ?_
            rintro e W19 ⟨rfl, hB⟩
            replace HB := Lib.hid (HB.out.trans (hB.mono HB.out.size))
            replace HT := Lib.hid (fun j hj => keep_below hB _ _ (HT.out j hj))
            replace HA := Lib.hid (HA.out.below hB)
            replace HBK := Lib.hid (HBK.out.below hB)
            replace HUB := Lib.hid (HUB.out.grow hB)
            rw [HSC.out]
            clear hB
            go_wp2_with fail
            refine (rxspread_nil _).mono ?_
            rintro e w9 ⟨rfl, rfl⟩
            go_wp2_with fail
            refine (awake17_calls _ HT.out).mono ?_
            rintro e W20 ⟨rfl, hB⟩
            replace HB := Lib.hid (HB.out.trans (hB.mono HB.out.size))
            replace HT := Lib.hid (fun j hj => keep_below hB _ _ (HT.out j hj))
            replace HA := Lib.hid (HA.out.below hB)
            replace HBK := Lib.hid (HBK.out.below hB)
            replace HUB := Lib.hid (HUB.out.grow hB)
            clear hB
            go_wp2_with fail
            go_ret
            exact ⟨rfl, HB.out⟩

theorem radixKeys_frame (w : World) (vl : Value) (l : List Int) (hr : RowC w vl (l.map (Value.int .i64))) (hz : ∀ z ∈ l, (Lit.int .i64 z).wf = true) (hm : l.length ≤ maxLen) (vc : Value) (c : List Int) (hr2 : RowC w vc (c.map (Value.int .i32))) (hz2 : ∀ z ∈ c, (Lit.int .i32 z).wf = true) (hm2 : c.length ≤ maxLen) (hT : TabAt w) :
    Calls Tryd.prog 4 #[vl, vc] w fun e w' => e = .returned (.bool true) ∧ Below w.heap.size w w' :=
  radixKeys_walk vl vc l c w (by have := hr.slc; rw [List.length_map] at this; exact this) (by have := hr2.slc; rw [List.length_map] at this; exact this) (fun z hz => wf_i32k (hz2 z hz)) hm hm2 hT
end Go.Proofs.YtedginpjbpobdaaDoor

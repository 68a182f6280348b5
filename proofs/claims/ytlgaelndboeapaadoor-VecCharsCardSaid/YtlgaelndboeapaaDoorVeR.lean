/- VecChars, walked. -/
import Derived.Test.YtlgaelndboeapaaDoorVeQ
namespace Go.Proofs.YtlgaelndboeapaaDoor
open Go.RowKit Fl
set_option linter.unusedVariables false
set_option maxRecDepth 8000

def kindN (c : Int) : Int := if c = 1 then 5 else if c = 2 then 6 else 1
theorem noneV_kind (c : Int) : (noneV c).kind = kindN c := by unfold noneV kindN; split <;> (try split) <;> rfl
theorem noneV_len (c : Int) : (noneV c).len = 0 := by unfold noneV; split <;> (try split) <;> rfl

set_option maxHeartbeats 8000000 in
theorem vecChars_calls (w : World) (v : Value) (l : List Int) (hr : RowC w v (l.map (Value.int .i32))) (hz : ∀ z ∈ l, (Lit.int .i32 z).wf = true) (hl : l.length ≤ maxLen) (i : Int) (hi : (Lit.int .i64 i).wf = true) (c : Int) (hc : (Lit.int .i64 c).wf = true) (hT : TabAt w) :
    Calls Tryd.prog 5 #[v, .int .i64 i, .int .i64 c] w fun e w' => e = .returned (.bool true) ∧ Below w.heap.size w w' := by
  have HT := Lib.hid hT
  have HS := Lib.hid (show Slc w (fun _ => True) v l.length (i32s l) by have := hr.slc; rw [List.length_map] at this; exact this)
  obtain ⟨ao, cap, rfl, _⟩ := HS.out.opened
  unfold maxLen at hl
  clear hr hz hT hi hc
  by_cases hbig : 500 < l.length
  · go_enter Tryd.func5, Tryd.ntmps5
    go_wp2_with fail
    refine (awake4_calls w).mono ?_
    rintro e w1 ⟨rfl, hB⟩
    have HB := Lib.hid hB
    clear hB
    go_wp2
    go_ret
    exact ⟨rfl, HB.out⟩
  · have hl2 : l.length ≤ 1048576 := by omega
    have HOK : Hid ((VV.chars l).ok) := Lib.hid hl2
    have ho0 : FloatKind.f64.format.order 0 0 = some .eq := by decide
    have hb2 : ((l.length : Int) == (l.length : Int)) = true := by simp
    by_cases h1 : c = 1
    · subst h1
      have HKN : Hid (kindN 1 = 5) := Lib.hid rfl
      by_cases hin : 0 ≤ i ∧ i < (l.length : Int)
      · obtain ⟨k, rfl⟩ := Int.eq_ofNat_of_zero_le hin.1
        have hk : k < l.length := by omega
        obtain ⟨b, off, cap', x, e1, hx, hcx⟩ := Slc.at_map (Value.int .i32) HS.out k hk
        obtain ⟨e1a, e1b⟩ : ao = some ⟨b, off, none⟩ ∧ cap = cap' := by cases e1; exact ⟨rfl, rfl⟩
        subst e1a
        have HCL := Lib.hid hcx
        have HCH := Lib.hid (atI_some (d := (0 : Int)) hx)
        obtain ⟨i, hik⟩ : ∃ i : Int, i = (k : Int) := ⟨_, rfl⟩
        have hbx : (x == x) = true := by simp
        clear hin hx hcx e1 e1b
        have HB := Lib.hid (Below.refl w.heap.size w)
        go_enter Tryd.func5, Tryd.ntmps5
        go_wp2_with fail
        refine (vchars_calls _ l _ HS.out (by omega)).mono ?_
        rintro e W1 ⟨u, rfl, hu, hB⟩
        replace HS := Lib.hid (HS.out.below hB)
        replace HB := Lib.hid (HB.out.trans (hB.mono HB.out.size))
        have hst := hu.store
        have HU := Lib.hid hu.any
        clear hu
        clear hB
        obtain ⟨W2, hWn⟩ : ∃ W2, (W1.alloc (.cells #[u] 29)) = W2 := ⟨_, rfl⟩
        have hB : Below W1.heap.size W1 W2 := by rw [← hWn]; exact (below_new _ _)
        replace HS := Lib.hid (HS.out.below hB)
        replace HU := Lib.hid (HU.out.grow hB)
        replace HB := Lib.hid (HB.out.trans (hB.mono HB.out.size))
        have HA := Lib.hid (show At1 W2 W1.heap.size (u) by rw [← hWn]; exact At1.new W1 (u) 29)
        clear hB
        have cHA := HA.out.2.1
        have hcl := keep_below HB.out _ _ HCL.out
        go_wp2_with fail
        clear hWn
        refine (vnone_calls 1 _).mono ?_
        clear cHA
        rintro e W3 ⟨un, rfl, hu, hB⟩
        replace HS := Lib.hid (HS.out.below hB)
        replace HU := Lib.hid (HU.out.grow hB)
        replace HA := Lib.hid (HA.out.below hB)
        replace HB := Lib.hid (HB.out.trans (hB.mono HB.out.size))
        have hst2 := hu.store
        have HUN := Lib.hid hu.any
        clear hu
        clear hB
        have cHA := HA.out.2.1
        obtain ⟨W4, hWn⟩ : ∃ W4, (W3.alloc (.cells #[un] 29)) = W4 := ⟨_, rfl⟩
        have hB : Below W3.heap.size W3 W4 := by rw [← hWn]; exact (below_new _ _)
        clear cHA
        replace HS := Lib.hid (HS.out.below hB)
        replace HU := Lib.hid (HU.out.grow hB)
        replace HA := Lib.hid (HA.out.below hB)
        replace HUN := Lib.hid (HUN.out.grow hB)
        replace HB := Lib.hid (HB.out.trans (hB.mono HB.out.size))
        have HAN := Lib.hid (show At1 W4 W3.heap.size (un) by rw [← hWn]; exact At1.new W3 (un) 29)
        clear hB
        have cHA := HA.out.2.1
        have cHAN := HAN.out.2.1
        go_wp2_with fail
        clear hWn
        refine (vwholes_calls _ _ _ HU.out HOK.out (fun j hj => keep_below HB.out _ _ (HT.out j hj))).mono ?_
        clear cHA cHAN
        rintro e W5 ⟨vw, rfl, hs, hB⟩
        replace HS := Lib.hid (HS.out.below hB)
        replace HU := Lib.hid (HU.out.grow hB)
        replace HA := Lib.hid (HA.out.below hB)
        replace HUN := Lib.hid (HUN.out.grow hB)
        replace HAN := Lib.hid (HAN.out.below hB)
        replace HB := Lib.hid (HB.out.trans (hB.mono HB.out.size))
        obtain ⟨aw, cw, rfl, _⟩ := hs.opened
        simp only [VV.whs, VV.isWh, List.length_nil]
        clear hs
        clear hB
        have cHA := HA.out.2.1
        have cHAN := HAN.out.2.1
        go_wp2_with fail
        refine (kind_calls _ _ _ HU.out).mono ?_
        clear cHA cHAN
        rintro e W6 ⟨rfl, hB⟩
        replace HS := Lib.hid (HS.out.below hB)
        replace HU := Lib.hid (HU.out.grow hB)
        replace HA := Lib.hid (HA.out.below hB)
        replace HUN := Lib.hid (HUN.out.grow hB)
        replace HAN := Lib.hid (HAN.out.below hB)
        replace HB := Lib.hid (HB.out.trans (hB.mono HB.out.size))
        simp only [VV.kind]
        clear hB
        have cHA := HA.out.2.1
        have cHAN := HAN.out.2.1
        go_wp2_with fail
        refine (class_calls _ _ _ HU.out).mono ?_
        clear cHA cHAN
        rintro e W7 ⟨rfl, hB⟩
        replace HS := Lib.hid (HS.out.below hB)
        replace HU := Lib.hid (HU.out.grow hB)
        replace HA := Lib.hid (HA.out.below hB)
        replace HUN := Lib.hid (HUN.out.grow hB)
        replace HAN := Lib.hid (HAN.out.below hB)
        replace HB := Lib.hid (HB.out.trans (hB.mono HB.out.size))
        simp only [VV.cls]
        clear hB
        have cHA := HA.out.2.1
        have cHAN := HAN.out.2.1
        go_wp2_with fail
        refine (vlen_calls _ _ _ HU.out).mono ?_
        clear cHA cHAN
        rintro e W8 ⟨rfl, hB⟩
        replace HS := Lib.hid (HS.out.below hB)
        replace HU := Lib.hid (HU.out.grow hB)
        replace HA := Lib.hid (HA.out.below hB)
        replace HUN := Lib.hid (HUN.out.grow hB)
        replace HAN := Lib.hid (HAN.out.below hB)
        replace HB := Lib.hid (HB.out.trans (hB.mono HB.out.size))
        simp only [VV.len]
        clear hB
        have cHA := HA.out.2.1
        have cHAN := HAN.out.2.1
        go_wp2_with fail
        refine (vtext_calls _ _ _ HU.out HOK.out).mono ?_
        clear cHA cHAN
        rintro e W9 ⟨vt, rfl, hs, hB⟩
        replace HS := Lib.hid (HS.out.below hB)
        replace HU := Lib.hid (HU.out.grow hB)
        replace HA := Lib.hid (HA.out.below hB)
        replace HUN := Lib.hid (HUN.out.grow hB)
        replace HAN := Lib.hid (HAN.out.below hB)
        replace HB := Lib.hid (HB.out.trans (hB.mono HB.out.size))
        have HTX := Lib.hid (show Slc _ _ _ l.length (i32s l) from hs)
        clear hs
        clear hB
        have cHA := HA.out.2.1
        have cHAN := HAN.out.2.1
        go_wp2_with fail
        refine (runes_same _ _ l _ HTX.out HS.out (by omega)).mono ?_
        clear cHA cHAN
        rintro e W10 ⟨rfl, hB⟩
        replace HS := Lib.hid (HS.out.below hB)
        replace HU := Lib.hid (HU.out.grow hB)
        replace HA := Lib.hid (HA.out.below hB)
        replace HUN := Lib.hid (HUN.out.grow hB)
        replace HAN := Lib.hid (HAN.out.below hB)
        replace HTX := Lib.hid (HTX.out.below hB)
        replace HB := Lib.hid (HB.out.trans (hB.mono HB.out.size))
        clear hB
        have cHA := HA.out.2.1
        have cHAN := HAN.out.2.1
        go_wp2_with fail
        refine (vchar_calls _ _ (k : Int) _ HU.out).mono ?_
        clear cHA cHAN
        rintro e W11 ⟨rfl, hB⟩
        replace HS := Lib.hid (HS.out.below hB)
        replace HU := Lib.hid (HU.out.grow hB)
        replace HA := Lib.hid (HA.out.below hB)
        replace HUN := Lib.hid (HUN.out.grow hB)
        replace HAN := Lib.hid (HAN.out.below hB)
        replace HTX := Lib.hid (HTX.out.below hB)
        replace HB := Lib.hid (HB.out.trans (hB.mono HB.out.size))
        simp only [VV.text]
        rw [HCH.out]
        clear hB
        have cHA := HA.out.2.1
        have cHAN := HAN.out.2.1
        go_wp2_with fail
        refine (num_calls _ _ 0 _ HU.out).mono ?_
        clear cHA cHAN
        rintro e W12 ⟨rfl, hB⟩
        replace HS := Lib.hid (HS.out.below hB)
        replace HU := Lib.hid (HU.out.grow hB)
        replace HA := Lib.hid (HA.out.below hB)
        replace HUN := Lib.hid (HUN.out.grow hB)
        replace HAN := Lib.hid (HAN.out.below hB)
        replace HTX := Lib.hid (HTX.out.below hB)
        replace HB := Lib.hid (HB.out.trans (hB.mono HB.out.size))
        rw [show atI (VV.chars l).nums 0 0 = 0 by simp [VV.nums, atI]]
        clear hB
        have cHA := HA.out.2.1
        have cHAN := HAN.out.2.1
        go_wp2_with fail
        refine (vnums_calls _ _ _ HU.out HOK.out (fun j hj => keep_below HB.out _ _ (HT.out j hj))).mono ?_
        clear cHA cHAN
        rintro e W13 ⟨vn, rfl, hs, hB⟩
        replace HS := Lib.hid (HS.out.below hB)
        replace HU := Lib.hid (HU.out.grow hB)
        replace HA := Lib.hid (HA.out.below hB)
        replace HUN := Lib.hid (HUN.out.grow hB)
        replace HAN := Lib.hid (HAN.out.below hB)
        replace HTX := Lib.hid (HTX.out.below hB)
        replace HB := Lib.hid (HB.out.trans (hB.mono HB.out.size))
        obtain ⟨an, cn, rfl, _⟩ := hs.opened
        simp only [VV.nums, List.length_nil]
        clear hs
        clear hB
        have cHA := HA.out.2.1
        have cHAN := HAN.out.2.1
        go_wp2_with fail
        refine (kind_calls _ _ _ HUN.out).mono ?_
        clear cHA cHAN
        rintro e W14 ⟨rfl, hB⟩
        replace HS := Lib.hid (HS.out.below hB)
        replace HU := Lib.hid (HU.out.grow hB)
        replace HA := Lib.hid (HA.out.below hB)
        replace HUN := Lib.hid (HUN.out.grow hB)
        replace HAN := Lib.hid (HAN.out.below hB)
        replace HTX := Lib.hid (HTX.out.below hB)
        replace HB := Lib.hid (HB.out.trans (hB.mono HB.out.size))
        rw [noneV_kind, HKN.out]
        clear hB
        have cHA := HA.out.2.1
        have cHAN := HAN.out.2.1
        go_wp2_with fail
        refine (vlen_calls _ _ _ HUN.out).mono ?_
        clear cHA cHAN
        rintro e W15 ⟨rfl, hB⟩
        replace HS := Lib.hid (HS.out.below hB)
        replace HU := Lib.hid (HU.out.grow hB)
        replace HA := Lib.hid (HA.out.below hB)
        replace HUN := Lib.hid (HUN.out.grow hB)
        replace HAN := Lib.hid (HAN.out.below hB)
        replace HTX := Lib.hid (HTX.out.below hB)
        replace HB := Lib.hid (HB.out.trans (hB.mono HB.out.size))
        rw [noneV_len]
        clear hB
        have cHA := HA.out.2.1
        have cHAN := HAN.out.2.1
        go_wp2_with fail
        refine (awake4_calls _).mono ?_
        clear cHA cHAN
        rintro e W16 ⟨rfl, hB⟩
        replace HS := Lib.hid (HS.out.below hB)
        replace HU := Lib.hid (HU.out.grow hB)
        replace HA := Lib.hid (HA.out.below hB)
        replace HUN := Lib.hid (HUN.out.grow hB)
        replace HAN := Lib.hid (HAN.out.below hB)
        replace HTX := Lib.hid (HTX.out.below hB)
        replace HB := Lib.hid (HB.out.trans (hB.mono HB.out.size))
        clear hB
        have cHA := HA.out.2.1
        have cHAN := HAN.out.2.1
        go_wp2
        go_ret
        exact ⟨rfl, HB.out⟩
      · have HCH := Lib.hid (atI_neg (l := l) (d := (0 : Int)) hin)
        rcases Int.lt_or_le i 0 with hneg | hneg
        · clear hin
          have HB := Lib.hid (Below.refl w.heap.size w)
          go_enter Tryd.func5, Tryd.ntmps5
          go_wp2_with fail
          refine (vchars_calls _ l _ HS.out (by omega)).mono ?_
          rintro e W1 ⟨u, rfl, hu, hB⟩
          replace HS := Lib.hid (HS.out.below hB)
          replace HB := Lib.hid (HB.out.trans (hB.mono HB.out.size))
          have hst := hu.store
          have HU := Lib.hid hu.any
          clear hu
          clear hB
          obtain ⟨W2, hWn⟩ : ∃ W2, (W1.alloc (.cells #[u] 29)) = W2 := ⟨_, rfl⟩
          have hB : Below W1.heap.size W1 W2 := by rw [← hWn]; exact (below_new _ _)
          replace HS := Lib.hid (HS.out.below hB)
          replace HU := Lib.hid (HU.out.grow hB)
          replace HB := Lib.hid (HB.out.trans (hB.mono HB.out.size))
          have HA := Lib.hid (show At1 W2 W1.heap.size (u) by rw [← hWn]; exact At1.new W1 (u) 29)
          clear hB
          have cHA := HA.out.2.1
          go_wp2_with fail
          clear hWn
          refine (vnone_calls 1 _).mono ?_
          clear cHA
          rintro e W3 ⟨un, rfl, hu, hB⟩
          replace HS := Lib.hid (HS.out.below hB)
          replace HU := Lib.hid (HU.out.grow hB)
          replace HA := Lib.hid (HA.out.below hB)
          replace HB := Lib.hid (HB.out.trans (hB.mono HB.out.size))
          have hst2 := hu.store
          have HUN := Lib.hid hu.any
          clear hu
          clear hB
          have cHA := HA.out.2.1
          obtain ⟨W4, hWn⟩ : ∃ W4, (W3.alloc (.cells #[un] 29)) = W4 := ⟨_, rfl⟩
          have hB : Below W3.heap.size W3 W4 := by rw [← hWn]; exact (below_new _ _)
          clear cHA
          replace HS := Lib.hid (HS.out.below hB)
          replace HU := Lib.hid (HU.out.grow hB)
          replace HA := Lib.hid (HA.out.below hB)
          replace HUN := Lib.hid (HUN.out.grow hB)
          replace HB := Lib.hid (HB.out.trans (hB.mono HB.out.size))
          have HAN := Lib.hid (show At1 W4 W3.heap.size (un) by rw [← hWn]; exact At1.new W3 (un) 29)
          clear hB
          have cHA := HA.out.2.1
          have cHAN := HAN.out.2.1
          go_wp2_with fail
          clear hWn
          refine (vwholes_calls _ _ _ HU.out HOK.out (fun j hj => keep_below HB.out _ _ (HT.out j hj))).mono ?_
          clear cHA cHAN
          rintro e W5 ⟨vw, rfl, hs, hB⟩
          replace HS := Lib.hid (HS.out.below hB)
          replace HU := Lib.hid (HU.out.grow hB)
          replace HA := Lib.hid (HA.out.below hB)
          replace HUN := Lib.hid (HUN.out.grow hB)
          replace HAN := Lib.hid (HAN.out.below hB)
          replace HB := Lib.hid (HB.out.trans (hB.mono HB.out.size))
          obtain ⟨aw, cw, rfl, _⟩ := hs.opened
          simp only [VV.whs, VV.isWh, List.length_nil]
          clear hs
          clear hB
          have cHA := HA.out.2.1
          have cHAN := HAN.out.2.1
          go_wp2_with fail
          refine (kind_calls _ _ _ HU.out).mono ?_
          clear cHA cHAN
          rintro e W6 ⟨rfl, hB⟩
          replace HS := Lib.hid (HS.out.below hB)
          replace HU := Lib.hid (HU.out.grow hB)
          replace HA := Lib.hid (HA.out.below hB)
          replace HUN := Lib.hid (HUN.out.grow hB)
          replace HAN := Lib.hid (HAN.out.below hB)
          replace HB := Lib.hid (HB.out.trans (hB.mono HB.out.size))
          simp only [VV.kind]
          clear hB
          have cHA := HA.out.2.1
          have cHAN := HAN.out.2.1
          go_wp2_with fail
          refine (class_calls _ _ _ HU.out).mono ?_
          clear cHA cHAN
          rintro e W7 ⟨rfl, hB⟩
          replace HS := Lib.hid (HS.out.below hB)
          replace HU := Lib.hid (HU.out.grow hB)
          replace HA := Lib.hid (HA.out.below hB)
          replace HUN := Lib.hid (HUN.out.grow hB)
          replace HAN := Lib.hid (HAN.out.below hB)
          replace HB := Lib.hid (HB.out.trans (hB.mono HB.out.size))
          simp only [VV.cls]
          clear hB
          have cHA := HA.out.2.1
          have cHAN := HAN.out.2.1
          go_wp2_with fail
          refine (vlen_calls _ _ _ HU.out).mono ?_
          clear cHA cHAN
          rintro e W8 ⟨rfl, hB⟩
          replace HS := Lib.hid (HS.out.below hB)
          replace HU := Lib.hid (HU.out.grow hB)
          replace HA := Lib.hid (HA.out.below hB)
          replace HUN := Lib.hid (HUN.out.grow hB)
          replace HAN := Lib.hid (HAN.out.below hB)
          replace HB := Lib.hid (HB.out.trans (hB.mono HB.out.size))
          simp only [VV.len]
          clear hB
          have cHA := HA.out.2.1
          have cHAN := HAN.out.2.1
          go_wp2_with fail
          refine (vtext_calls _ _ _ HU.out HOK.out).mono ?_
          clear cHA cHAN
          rintro e W9 ⟨vt, rfl, hs, hB⟩
          replace HS := Lib.hid (HS.out.below hB)
          replace HU := Lib.hid (HU.out.grow hB)
          replace HA := Lib.hid (HA.out.below hB)
          replace HUN := Lib.hid (HUN.out.grow hB)
          replace HAN := Lib.hid (HAN.out.below hB)
          replace HB := Lib.hid (HB.out.trans (hB.mono HB.out.size))
          have HTX := Lib.hid (show Slc _ _ _ l.length (i32s l) from hs)
          clear hs
          clear hB
          have cHA := HA.out.2.1
          have cHAN := HAN.out.2.1
          go_wp2_with fail
          refine (runes_same _ _ l _ HTX.out HS.out (by omega)).mono ?_
          clear cHA cHAN
          rintro e W10 ⟨rfl, hB⟩
          replace HS := Lib.hid (HS.out.below hB)
          replace HU := Lib.hid (HU.out.grow hB)
          replace HA := Lib.hid (HA.out.below hB)
          replace HUN := Lib.hid (HUN.out.grow hB)
          replace HAN := Lib.hid (HAN.out.below hB)
          replace HTX := Lib.hid (HTX.out.below hB)
          replace HB := Lib.hid (HB.out.trans (hB.mono HB.out.size))
          clear hB
          have cHA := HA.out.2.1
          have cHAN := HAN.out.2.1
          go_wp2_with fail
          refine (vchar_calls _ _ i _ HU.out).mono ?_
          clear cHA cHAN
          rintro e W11 ⟨rfl, hB⟩
          replace HS := Lib.hid (HS.out.below hB)
          replace HU := Lib.hid (HU.out.grow hB)
          replace HA := Lib.hid (HA.out.below hB)
          replace HUN := Lib.hid (HUN.out.grow hB)
          replace HAN := Lib.hid (HAN.out.below hB)
          replace HTX := Lib.hid (HTX.out.below hB)
          replace HB := Lib.hid (HB.out.trans (hB.mono HB.out.size))
          simp only [VV.text]
          rw [HCH.out]
          clear hB
          have cHA := HA.out.2.1
          have cHAN := HAN.out.2.1
          go_wp2_with fail
          refine (num_calls _ _ 0 _ HU.out).mono ?_
          clear cHA cHAN
          rintro e W12 ⟨rfl, hB⟩
          replace HS := Lib.hid (HS.out.below hB)
          replace HU := Lib.hid (HU.out.grow hB)
          replace HA := Lib.hid (HA.out.below hB)
          replace HUN := Lib.hid (HUN.out.grow hB)
          replace HAN := Lib.hid (HAN.out.below hB)
          replace HTX := Lib.hid (HTX.out.below hB)
          replace HB := Lib.hid (HB.out.trans (hB.mono HB.out.size))
          rw [show atI (VV.chars l).nums 0 0 = 0 by simp [VV.nums, atI]]
          clear hB
          have cHA := HA.out.2.1
          have cHAN := HAN.out.2.1
          go_wp2_with fail
          refine (vnums_calls _ _ _ HU.out HOK.out (fun j hj => keep_below HB.out _ _ (HT.out j hj))).mono ?_
          clear cHA cHAN
          rintro e W13 ⟨vn, rfl, hs, hB⟩
          replace HS := Lib.hid (HS.out.below hB)
          replace HU := Lib.hid (HU.out.grow hB)
          replace HA := Lib.hid (HA.out.below hB)
          replace HUN := Lib.hid (HUN.out.grow hB)
          replace HAN := Lib.hid (HAN.out.below hB)
          replace HTX := Lib.hid (HTX.out.below hB)
          replace HB := Lib.hid (HB.out.trans (hB.mono HB.out.size))
          obtain ⟨an, cn, rfl, _⟩ := hs.opened
          simp only [VV.nums, List.length_nil]
          clear hs
          clear hB
          have cHA := HA.out.2.1
          have cHAN := HAN.out.2.1
          go_wp2_with fail
          refine (kind_calls _ _ _ HUN.out).mono ?_
          clear cHA cHAN
          rintro e W14 ⟨rfl, hB⟩
          replace HS := Lib.hid (HS.out.below hB)
          replace HU := Lib.hid (HU.out.grow hB)
          replace HA := Lib.hid (HA.out.below hB)
          replace HUN := Lib.hid (HUN.out.grow hB)
          replace HAN := Lib.hid (HAN.out.below hB)
          replace HTX := Lib.hid (HTX.out.below hB)
          replace HB := Lib.hid (HB.out.trans (hB.mono HB.out.size))
          rw [noneV_kind, HKN.out]
          clear hB
          have cHA := HA.out.2.1
          have cHAN := HAN.out.2.1
          go_wp2_with fail
          refine (vlen_calls _ _ _ HUN.out).mono ?_
          clear cHA cHAN
          rintro e W15 ⟨rfl, hB⟩
          replace HS := Lib.hid (HS.out.below hB)
          replace HU := Lib.hid (HU.out.grow hB)
          replace HA := Lib.hid (HA.out.below hB)
          replace HUN := Lib.hid (HUN.out.grow hB)
          replace HAN := Lib.hid (HAN.out.below hB)
          replace HTX := Lib.hid (HTX.out.below hB)
          replace HB := Lib.hid (HB.out.trans (hB.mono HB.out.size))
          rw [noneV_len]
          clear hB
          have cHA := HA.out.2.1
          have cHAN := HAN.out.2.1
          go_wp2_with fail
          refine (awake4_calls _).mono ?_
          clear cHA cHAN
          rintro e W16 ⟨rfl, hB⟩
          replace HS := Lib.hid (HS.out.below hB)
          replace HU := Lib.hid (HU.out.grow hB)
          replace HA := Lib.hid (HA.out.below hB)
          replace HUN := Lib.hid (HUN.out.grow hB)
          replace HAN := Lib.hid (HAN.out.below hB)
          replace HTX := Lib.hid (HTX.out.below hB)
          replace HB := Lib.hid (HB.out.trans (hB.mono HB.out.size))
          clear hB
          have cHA := HA.out.2.1
          have cHAN := HAN.out.2.1
          go_wp2
          go_ret
          exact ⟨rfl, HB.out⟩
        · have hge : (l.length : Int) ≤ i := by omega
          clear hin
          have HB := Lib.hid (Below.refl w.heap.size w)
          go_enter Tryd.func5, Tryd.ntmps5
          go_wp2_with fail
          refine (vchars_calls _ l _ HS.out (by omega)).mono ?_
          rintro e W1 ⟨u, rfl, hu, hB⟩
          replace HS := Lib.hid (HS.out.below hB)
          replace HB := Lib.hid (HB.out.trans (hB.mono HB.out.size))
          have hst := hu.store
          have HU := Lib.hid hu.any
          clear hu
          clear hB
          obtain ⟨W2, hWn⟩ : ∃ W2, (W1.alloc (.cells #[u] 29)) = W2 := ⟨_, rfl⟩
          have hB : Below W1.heap.size W1 W2 := by rw [← hWn]; exact (below_new _ _)
          replace HS := Lib.hid (HS.out.below hB)
          replace HU := Lib.hid (HU.out.grow hB)
          replace HB := Lib.hid (HB.out.trans (hB.mono HB.out.size))
          have HA := Lib.hid (show At1 W2 W1.heap.size (u) by rw [← hWn]; exact At1.new W1 (u) 29)
          clear hB
          have cHA := HA.out.2.1
          go_wp2_with fail
          clear hWn
          refine (vnone_calls 1 _).mono ?_
          clear cHA
          rintro e W3 ⟨un, rfl, hu, hB⟩
          replace HS := Lib.hid (HS.out.below hB)
          replace HU := Lib.hid (HU.out.grow hB)
          replace HA := Lib.hid (HA.out.below hB)
          replace HB := Lib.hid (HB.out.trans (hB.mono HB.out.size))
          have hst2 := hu.store
          have HUN := Lib.hid hu.any
          clear hu
          clear hB
          have cHA := HA.out.2.1
          obtain ⟨W4, hWn⟩ : ∃ W4, (W3.alloc (.cells #[un] 29)) = W4 := ⟨_, rfl⟩
          have hB : Below W3.heap.size W3 W4 := by rw [← hWn]; exact (below_new _ _)
          clear cHA
          replace HS := Lib.hid (HS.out.below hB)
          replace HU := Lib.hid (HU.out.grow hB)
          replace HA := Lib.hid (HA.out.below hB)
          replace HUN := Lib.hid (HUN.out.grow hB)
          replace HB := Lib.hid (HB.out.trans (hB.mono HB.out.size))
          have HAN := Lib.hid (show At1 W4 W3.heap.size (un) by rw [← hWn]; exact At1.new W3 (un) 29)
          clear hB
          have cHA := HA.out.2.1
          have cHAN := HAN.out.2.1
          go_wp2_with fail
          clear hWn
          refine (vwholes_calls _ _ _ HU.out HOK.out (fun j hj => keep_below HB.out _ _ (HT.out j hj))).mono ?_
          clear cHA cHAN
          rintro e W5 ⟨vw, rfl, hs, hB⟩
          replace HS := Lib.hid (HS.out.below hB)
          replace HU := Lib.hid (HU.out.grow hB)
          replace HA := Lib.hid (HA.out.below hB)
          replace HUN := Lib.hid (HUN.out.grow hB)
          replace HAN := Lib.hid (HAN.out.below hB)
          replace HB := Lib.hid (HB.out.trans (hB.mono HB.out.size))
          obtain ⟨aw, cw, rfl, _⟩ := hs.opened
          simp only [VV.whs, VV.isWh, List.length_nil]
          clear hs
          clear hB
          have cHA := HA.out.2.1
          have cHAN := HAN.out.2.1
          go_wp2_with fail
          refine (kind_calls _ _ _ HU.out).mono ?_
          clear cHA cHAN
          rintro e W6 ⟨rfl, hB⟩
          replace HS := Lib.hid (HS.out.below hB)
          replace HU := Lib.hid (HU.out.grow hB)
          replace HA := Lib.hid (HA.out.below hB)
          replace HUN := Lib.hid (HUN.out.grow hB)
          replace HAN := Lib.hid (HAN.out.below hB)
          replace HB := Lib.hid (HB.out.trans (hB.mono HB.out.size))
          simp only [VV.kind]
          clear hB
          have cHA := HA.out.2.1
          have cHAN := HAN.out.2.1
          go_wp2_with fail
          refine (class_calls _ _ _ HU.out).mono ?_
          clear cHA cHAN
          rintro e W7 ⟨rfl, hB⟩
          replace HS := Lib.hid (HS.out.below hB)
          replace HU := Lib.hid (HU.out.grow hB)
          replace HA := Lib.hid (HA.out.below hB)
          replace HUN := Lib.hid (HUN.out.grow hB)
          replace HAN := Lib.hid (HAN.out.below hB)
          replace HB := Lib.hid (HB.out.trans (hB.mono HB.out.size))
          simp only [VV.cls]
          clear hB
          have cHA := HA.out.2.1
          have cHAN := HAN.out.2.1
          go_wp2_with fail
          refine (vlen_calls _ _ _ HU.out).mono ?_
          clear cHA cHAN
          rintro e W8 ⟨rfl, hB⟩
          replace HS := Lib.hid (HS.out.below hB)
          replace HU := Lib.hid (HU.out.grow hB)
          replace HA := Lib.hid (HA.out.below hB)
          replace HUN := Lib.hid (HUN.out.grow hB)
          replace HAN := Lib.hid (HAN.out.below hB)
          replace HB := Lib.hid (HB.out.trans (hB.mono HB.out.size))
          simp only [VV.len]
          clear hB
          have cHA := HA.out.2.1
          have cHAN := HAN.out.2.1
          go_wp2_with fail
          refine (vtext_calls _ _ _ HU.out HOK.out).mono ?_
          clear cHA cHAN
          rintro e W9 ⟨vt, rfl, hs, hB⟩
          replace HS := Lib.hid (HS.out.below hB)
          replace HU := Lib.hid (HU.out.grow hB)
          replace HA := Lib.hid (HA.out.below hB)
          replace HUN := Lib.hid (HUN.out.grow hB)
          replace HAN := Lib.hid (HAN.out.below hB)
          replace HB := Lib.hid (HB.out.trans (hB.mono HB.out.size))
          have HTX := Lib.hid (show Slc _ _ _ l.length (i32s l) from hs)
          clear hs
          clear hB
          have cHA := HA.out.2.1
          have cHAN := HAN.out.2.1
          go_wp2_with fail
          refine (runes_same _ _ l _ HTX.out HS.out (by omega)).mono ?_
          clear cHA cHAN
          rintro e W10 ⟨rfl, hB⟩
          replace HS := Lib.hid (HS.out.below hB)
          replace HU := Lib.hid (HU.out.grow hB)
          replace HA := Lib.hid (HA.out.below hB)
          replace HUN := Lib.hid (HUN.out.grow hB)
          replace HAN := Lib.hid (HAN.out.below hB)
          replace HTX := Lib.hid (HTX.out.below hB)
          replace HB := Lib.hid (HB.out.trans (hB.mono HB.out.size))
          clear hB
          have cHA := HA.out.2.1
          have cHAN := HAN.out.2.1
          go_wp2_with fail
          refine (vchar_calls _ _ i _ HU.out).mono ?_
          clear cHA cHAN
          rintro e W11 ⟨rfl, hB⟩
          replace HS := Lib.hid (HS.out.below hB)
          replace HU := Lib.hid (HU.out.grow hB)
          replace HA := Lib.hid (HA.out.below hB)
          replace HUN := Lib.hid (HUN.out.grow hB)
          replace HAN := Lib.hid (HAN.out.below hB)
          replace HTX := Lib.hid (HTX.out.below hB)
          replace HB := Lib.hid (HB.out.trans (hB.mono HB.out.size))
          simp only [VV.text]
          rw [HCH.out]
          clear hB
          have cHA := HA.out.2.1
          have cHAN := HAN.out.2.1
          go_wp2_with fail
          refine (num_calls _ _ 0 _ HU.out).mono ?_
          clear cHA cHAN
          rintro e W12 ⟨rfl, hB⟩
          replace HS := Lib.hid (HS.out.below hB)
          replace HU := Lib.hid (HU.out.grow hB)
          replace HA := Lib.hid (HA.out.below hB)
          replace HUN := Lib.hid (HUN.out.grow hB)
          replace HAN := Lib.hid (HAN.out.below hB)
          replace HTX := Lib.hid (HTX.out.below hB)
          replace HB := Lib.hid (HB.out.trans (hB.mono HB.out.size))
          rw [show atI (VV.chars l).nums 0 0 = 0 by simp [VV.nums, atI]]
          clear hB
          have cHA := HA.out.2.1
          have cHAN := HAN.out.2.1
          go_wp2_with fail
          refine (vnums_calls _ _ _ HU.out HOK.out (fun j hj => keep_below HB.out _ _ (HT.out j hj))).mono ?_
          clear cHA cHAN
          rintro e W13 ⟨vn, rfl, hs, hB⟩
          replace HS := Lib.hid (HS.out.below hB)
          replace HU := Lib.hid (HU.out.grow hB)
          replace HA := Lib.hid (HA.out.below hB)
          replace HUN := Lib.hid (HUN.out.grow hB)
          replace HAN := Lib.hid (HAN.out.below hB)
          replace HTX := Lib.hid (HTX.out.below hB)
          replace HB := Lib.hid (HB.out.trans (hB.mono HB.out.size))
          obtain ⟨an, cn, rfl, _⟩ := hs.opened
          simp only [VV.nums, List.length_nil]
          clear hs
          clear hB
          have cHA := HA.out.2.1
          have cHAN := HAN.out.2.1
          go_wp2_with fail
          refine (kind_calls _ _ _ HUN.out).mono ?_
          clear cHA cHAN
          rintro e W14 ⟨rfl, hB⟩
          replace HS := Lib.hid (HS.out.below hB)
          replace HU := Lib.hid (HU.out.grow hB)
          replace HA := Lib.hid (HA.out.below hB)
          replace HUN := Lib.hid (HUN.out.grow hB)
          replace HAN := Lib.hid (HAN.out.below hB)
          replace HTX := Lib.hid (HTX.out.below hB)
          replace HB := Lib.hid (HB.out.trans (hB.mono HB.out.size))
          rw [noneV_kind, HKN.out]
          clear hB
          have cHA := HA.out.2.1
          have cHAN := HAN.out.2.1
          go_wp2_with fail
          refine (vlen_calls _ _ _ HUN.out).mono ?_
          clear cHA cHAN
          rintro e W15 ⟨rfl, hB⟩
          replace HS := Lib.hid (HS.out.below hB)
          replace HU := Lib.hid (HU.out.grow hB)
          replace HA := Lib.hid (HA.out.below hB)
          replace HUN := Lib.hid (HUN.out.grow hB)
          replace HAN := Lib.hid (HAN.out.below hB)
          replace HTX := Lib.hid (HTX.out.below hB)
          replace HB := Lib.hid (HB.out.trans (hB.mono HB.out.size))
          rw [noneV_len]
          clear hB
          have cHA := HA.out.2.1
          have cHAN := HAN.out.2.1
          go_wp2_with fail
          refine (awake4_calls _).mono ?_
          clear cHA cHAN
          rintro e W16 ⟨rfl, hB⟩
          replace HS := Lib.hid (HS.out.below hB)
          replace HU := Lib.hid (HU.out.grow hB)
          replace HA := Lib.hid (HA.out.below hB)
          replace HUN := Lib.hid (HUN.out.grow hB)
          replace HAN := Lib.hid (HAN.out.below hB)
          replace HTX := Lib.hid (HTX.out.below hB)
          replace HB := Lib.hid (HB.out.trans (hB.mono HB.out.size))
          clear hB
          have cHA := HA.out.2.1
          have cHAN := HAN.out.2.1
          go_wp2
          go_ret
          exact ⟨rfl, HB.out⟩
    · by_cases h2 : c = 2
      · subst h2
        have HKN : Hid (kindN 2 = 6) := Lib.hid rfl
        by_cases hin : 0 ≤ i ∧ i < (l.length : Int)
        · obtain ⟨k, rfl⟩ := Int.eq_ofNat_of_zero_le hin.1
          have hk : k < l.length := by omega
          obtain ⟨b, off, cap', x, e1, hx, hcx⟩ := Slc.at_map (Value.int .i32) HS.out k hk
          obtain ⟨e1a, e1b⟩ : ao = some ⟨b, off, none⟩ ∧ cap = cap' := by cases e1; exact ⟨rfl, rfl⟩
          subst e1a
          have HCL := Lib.hid hcx
          have HCH := Lib.hid (atI_some (d := (0 : Int)) hx)
          obtain ⟨i, hik⟩ : ∃ i : Int, i = (k : Int) := ⟨_, rfl⟩
          have hbx : (x == x) = true := by simp
          clear hin hx hcx e1 e1b
          have HB := Lib.hid (Below.refl w.heap.size w)
          go_enter Tryd.func5, Tryd.ntmps5
          go_wp2_with fail
          refine (vchars_calls _ l _ HS.out (by omega)).mono ?_
          rintro e W1 ⟨u, rfl, hu, hB⟩
          replace HS := Lib.hid (HS.out.below hB)
          replace HB := Lib.hid (HB.out.trans (hB.mono HB.out.size))
          have hst := hu.store
          have HU := Lib.hid hu.any
          clear hu
          clear hB
          obtain ⟨W2, hWn⟩ : ∃ W2, (W1.alloc (.cells #[u] 29)) = W2 := ⟨_, rfl⟩
          have hB : Below W1.heap.size W1 W2 := by rw [← hWn]; exact (below_new _ _)
          replace HS := Lib.hid (HS.out.below hB)
          replace HU := Lib.hid (HU.out.grow hB)
          replace HB := Lib.hid (HB.out.trans (hB.mono HB.out.size))
          have HA := Lib.hid (show At1 W2 W1.heap.size (u) by rw [← hWn]; exact At1.new W1 (u) 29)
          clear hB
          have cHA := HA.out.2.1
          have hcl := keep_below HB.out _ _ HCL.out
          go_wp2_with fail
          clear hWn
          refine (vnone_calls 2 _).mono ?_
          clear cHA
          rintro e W3 ⟨un, rfl, hu, hB⟩
          replace HS := Lib.hid (HS.out.below hB)
          replace HU := Lib.hid (HU.out.grow hB)
          replace HA := Lib.hid (HA.out.below hB)
          replace HB := Lib.hid (HB.out.trans (hB.mono HB.out.size))
          have hst2 := hu.store
          have HUN := Lib.hid hu.any
          clear hu
          clear hB
          have cHA := HA.out.2.1
          obtain ⟨W4, hWn⟩ : ∃ W4, (W3.alloc (.cells #[un] 29)) = W4 := ⟨_, rfl⟩
          have hB : Below W3.heap.size W3 W4 := by rw [← hWn]; exact (below_new _ _)
          clear cHA
          replace HS := Lib.hid (HS.out.below hB)
          replace HU := Lib.hid (HU.out.grow hB)
          replace HA := Lib.hid (HA.out.below hB)
          replace HUN := Lib.hid (HUN.out.grow hB)
          replace HB := Lib.hid (HB.out.trans (hB.mono HB.out.size))
          have HAN := Lib.hid (show At1 W4 W3.heap.size (un) by rw [← hWn]; exact At1.new W3 (un) 29)
          clear hB
          have cHA := HA.out.2.1
          have cHAN := HAN.out.2.1
          go_wp2_with fail
          clear hWn
          refine (vwholes_calls _ _ _ HU.out HOK.out (fun j hj => keep_below HB.out _ _ (HT.out j hj))).mono ?_
          clear cHA cHAN
          rintro e W5 ⟨vw, rfl, hs, hB⟩
          replace HS := Lib.hid (HS.out.below hB)
          replace HU := Lib.hid (HU.out.grow hB)
          replace HA := Lib.hid (HA.out.below hB)
          replace HUN := Lib.hid (HUN.out.grow hB)
          replace HAN := Lib.hid (HAN.out.below hB)
          replace HB := Lib.hid (HB.out.trans (hB.mono HB.out.size))
          obtain ⟨aw, cw, rfl, _⟩ := hs.opened
          simp only [VV.whs, VV.isWh, List.length_nil]
          clear hs
          clear hB
          have cHA := HA.out.2.1
          have cHAN := HAN.out.2.1
          go_wp2_with fail
          refine (kind_calls _ _ _ HU.out).mono ?_
          clear cHA cHAN
          rintro e W6 ⟨rfl, hB⟩
          replace HS := Lib.hid (HS.out.below hB)
          replace HU := Lib.hid (HU.out.grow hB)
          replace HA := Lib.hid (HA.out.below hB)
          replace HUN := Lib.hid (HUN.out.grow hB)
          replace HAN := Lib.hid (HAN.out.below hB)
          replace HB := Lib.hid (HB.out.trans (hB.mono HB.out.size))
          simp only [VV.kind]
          clear hB
          have cHA := HA.out.2.1
          have cHAN := HAN.out.2.1
          go_wp2_with fail
          refine (class_calls _ _ _ HU.out).mono ?_
          clear cHA cHAN
          rintro e W7 ⟨rfl, hB⟩
          replace HS := Lib.hid (HS.out.below hB)
          replace HU := Lib.hid (HU.out.grow hB)
          replace HA := Lib.hid (HA.out.below hB)
          replace HUN := Lib.hid (HUN.out.grow hB)
          replace HAN := Lib.hid (HAN.out.below hB)
          replace HB := Lib.hid (HB.out.trans (hB.mono HB.out.size))
          simp only [VV.cls]
          clear hB
          have cHA := HA.out.2.1
          have cHAN := HAN.out.2.1
          go_wp2_with fail
          refine (vlen_calls _ _ _ HU.out).mono ?_
          clear cHA cHAN
          rintro e W8 ⟨rfl, hB⟩
          replace HS := Lib.hid (HS.out.below hB)
          replace HU := Lib.hid (HU.out.grow hB)
          replace HA := Lib.hid (HA.out.below hB)
          replace HUN := Lib.hid (HUN.out.grow hB)
          replace HAN := Lib.hid (HAN.out.below hB)
          replace HB := Lib.hid (HB.out.trans (hB.mono HB.out.size))
          simp only [VV.len]
          clear hB
          have cHA := HA.out.2.1
          have cHAN := HAN.out.2.1
          go_wp2_with fail
          refine (vtext_calls _ _ _ HU.out HOK.out).mono ?_
          clear cHA cHAN
          rintro e W9 ⟨vt, rfl, hs, hB⟩
          replace HS := Lib.hid (HS.out.below hB)
          replace HU := Lib.hid (HU.out.grow hB)
          replace HA := Lib.hid (HA.out.below hB)
          replace HUN := Lib.hid (HUN.out.grow hB)
          replace HAN := Lib.hid (HAN.out.below hB)
          replace HB := Lib.hid (HB.out.trans (hB.mono HB.out.size))
          have HTX := Lib.hid (show Slc _ _ _ l.length (i32s l) from hs)
          clear hs
          clear hB
          have cHA := HA.out.2.1
          have cHAN := HAN.out.2.1
          go_wp2_with fail
          refine (runes_same _ _ l _ HTX.out HS.out (by omega)).mono ?_
          clear cHA cHAN
          rintro e W10 ⟨rfl, hB⟩
          replace HS := Lib.hid (HS.out.below hB)
          replace HU := Lib.hid (HU.out.grow hB)
          replace HA := Lib.hid (HA.out.below hB)
          replace HUN := Lib.hid (HUN.out.grow hB)
          replace HAN := Lib.hid (HAN.out.below hB)
          replace HTX := Lib.hid (HTX.out.below hB)
          replace HB := Lib.hid (HB.out.trans (hB.mono HB.out.size))
          clear hB
          have cHA := HA.out.2.1
          have cHAN := HAN.out.2.1
          go_wp2_with fail
          refine (vchar_calls _ _ (k : Int) _ HU.out).mono ?_
          clear cHA cHAN
          rintro e W11 ⟨rfl, hB⟩
          replace HS := Lib.hid (HS.out.below hB)
          replace HU := Lib.hid (HU.out.grow hB)
          replace HA := Lib.hid (HA.out.below hB)
          replace HUN := Lib.hid (HUN.out.grow hB)
          replace HAN := Lib.hid (HAN.out.below hB)
          replace HTX := Lib.hid (HTX.out.below hB)
          replace HB := Lib.hid (HB.out.trans (hB.mono HB.out.size))
          simp only [VV.text]
          rw [HCH.out]
          clear hB
          have cHA := HA.out.2.1
          have cHAN := HAN.out.2.1
          go_wp2_with fail
          refine (num_calls _ _ 0 _ HU.out).mono ?_
          clear cHA cHAN
          rintro e W12 ⟨rfl, hB⟩
          replace HS := Lib.hid (HS.out.below hB)
          replace HU := Lib.hid (HU.out.grow hB)
          replace HA := Lib.hid (HA.out.below hB)
          replace HUN := Lib.hid (HUN.out.grow hB)
          replace HAN := Lib.hid (HAN.out.below hB)
          replace HTX := Lib.hid (HTX.out.below hB)
          replace HB := Lib.hid (HB.out.trans (hB.mono HB.out.size))
          rw [show atI (VV.chars l).nums 0 0 = 0 by simp [VV.nums, atI]]
          clear hB
          have cHA := HA.out.2.1
          have cHAN := HAN.out.2.1
          go_wp2_with fail
          refine (vnums_calls _ _ _ HU.out HOK.out (fun j hj => keep_below HB.out _ _ (HT.out j hj))).mono ?_
          clear cHA cHAN
          rintro e W13 ⟨vn, rfl, hs, hB⟩
          replace HS := Lib.hid (HS.out.below hB)
          replace HU := Lib.hid (HU.out.grow hB)
          replace HA := Lib.hid (HA.out.below hB)
          replace HUN := Lib.hid (HUN.out.grow hB)
          replace HAN := Lib.hid (HAN.out.below hB)
          replace HTX := Lib.hid (HTX.out.below hB)
          replace HB := Lib.hid (HB.out.trans (hB.mono HB.out.size))
          obtain ⟨an, cn, rfl, _⟩ := hs.opened
          simp only [VV.nums, List.length_nil]
          clear hs
          clear hB
          have cHA := HA.out.2.1
          have cHAN := HAN.out.2.1
          go_wp2_with fail
          refine (kind_calls _ _ _ HUN.out).mono ?_
          clear cHA cHAN
          rintro e W14 ⟨rfl, hB⟩
          replace HS := Lib.hid (HS.out.below hB)
          replace HU := Lib.hid (HU.out.grow hB)
          replace HA := Lib.hid (HA.out.below hB)
          replace HUN := Lib.hid (HUN.out.grow hB)
          replace HAN := Lib.hid (HAN.out.below hB)
          replace HTX := Lib.hid (HTX.out.below hB)
          replace HB := Lib.hid (HB.out.trans (hB.mono HB.out.size))
          rw [noneV_kind, HKN.out]
          clear hB
          have cHA := HA.out.2.1
          have cHAN := HAN.out.2.1
          go_wp2_with fail
          refine (vlen_calls _ _ _ HUN.out).mono ?_
          clear cHA cHAN
          rintro e W15 ⟨rfl, hB⟩
          replace HS := Lib.hid (HS.out.below hB)
          replace HU := Lib.hid (HU.out.grow hB)
          replace HA := Lib.hid (HA.out.below hB)
          replace HUN := Lib.hid (HUN.out.grow hB)
          replace HAN := Lib.hid (HAN.out.below hB)
          replace HTX := Lib.hid (HTX.out.below hB)
          replace HB := Lib.hid (HB.out.trans (hB.mono HB.out.size))
          rw [noneV_len]
          clear hB
          have cHA := HA.out.2.1
          have cHAN := HAN.out.2.1
          go_wp2_with fail
          refine (awake4_calls _).mono ?_
          clear cHA cHAN
          rintro e W16 ⟨rfl, hB⟩
          replace HS := Lib.hid (HS.out.below hB)
          replace HU := Lib.hid (HU.out.grow hB)
          replace HA := Lib.hid (HA.out.below hB)
          replace HUN := Lib.hid (HUN.out.grow hB)
          replace HAN := Lib.hid (HAN.out.below hB)
          replace HTX := Lib.hid (HTX.out.below hB)
          replace HB := Lib.hid (HB.out.trans (hB.mono HB.out.size))
          clear hB
          have cHA := HA.out.2.1
          have cHAN := HAN.out.2.1
          go_wp2
          go_ret
          exact ⟨rfl, HB.out⟩
        · have HCH := Lib.hid (atI_neg (l := l) (d := (0 : Int)) hin)
          rcases Int.lt_or_le i 0 with hneg | hneg
          · clear hin
            have HB := Lib.hid (Below.refl w.heap.size w)
            go_enter Tryd.func5, Tryd.ntmps5
            go_wp2_with fail
            refine (vchars_calls _ l _ HS.out (by omega)).mono ?_
            rintro e W1 ⟨u, rfl, hu, hB⟩
            replace HS := Lib.hid (HS.out.below hB)
            replace HB := Lib.hid (HB.out.trans (hB.mono HB.out.size))
            have hst := hu.store
            have HU := Lib.hid hu.any
            clear hu
            clear hB
            obtain ⟨W2, hWn⟩ : ∃ W2, (W1.alloc (.cells #[u] 29)) = W2 := ⟨_, rfl⟩
            have hB : Below W1.heap.size W1 W2 := by rw [← hWn]; exact (below_new _ _)
            replace HS := Lib.hid (HS.out.below hB)
            replace HU := Lib.hid (HU.out.grow hB)
            replace HB := Lib.hid (HB.out.trans (hB.mono HB.out.size))
            have HA := Lib.hid (show At1 W2 W1.heap.size (u) by rw [← hWn]; exact At1.new W1 (u) 29)
            clear hB
            have cHA := HA.out.2.1
            go_wp2_with fail
            clear hWn
            refine (vnone_calls 2 _).mono ?_
            clear cHA
            rintro e W3 ⟨un, rfl, hu, hB⟩
            replace HS := Lib.hid (HS.out.below hB)
            replace HU := Lib.hid (HU.out.grow hB)
            replace HA := Lib.hid (HA.out.below hB)
            replace HB := Lib.hid (HB.out.trans (hB.mono HB.out.size))
            have hst2 := hu.store
            have HUN := Lib.hid hu.any
            clear hu
            clear hB
            have cHA := HA.out.2.1
            obtain ⟨W4, hWn⟩ : ∃ W4, (W3.alloc (.cells #[un] 29)) = W4 := ⟨_, rfl⟩
            have hB : Below W3.heap.size W3 W4 := by rw [← hWn]; exact (below_new _ _)
            clear cHA
            replace HS := Lib.hid (HS.out.below hB)
            replace HU := Lib.hid (HU.out.grow hB)
            replace HA := Lib.hid (HA.out.below hB)
            replace HUN := Lib.hid (HUN.out.grow hB)
            replace HB := Lib.hid (HB.out.trans (hB.mono HB.out.size))
            have HAN := Lib.hid (show At1 W4 W3.heap.size (un) by rw [← hWn]; exact At1.new W3 (un) 29)
            clear hB
            have cHA := HA.out.2.1
            have cHAN := HAN.out.2.1
            go_wp2_with fail
            clear hWn
            refine (vwholes_calls _ _ _ HU.out HOK.out (fun j hj => keep_below HB.out _ _ (HT.out j hj))).mono ?_
            clear cHA cHAN
            rintro e W5 ⟨vw, rfl, hs, hB⟩
            replace HS := Lib.hid (HS.out.below hB)
            replace HU := Lib.hid (HU.out.grow hB)
            replace HA := Lib.hid (HA.out.below hB)
            replace HUN := Lib.hid (HUN.out.grow hB)
            replace HAN := Lib.hid (HAN.out.below hB)
            replace HB := Lib.hid (HB.out.trans (hB.mono HB.out.size))
            obtain ⟨aw, cw, rfl, _⟩ := hs.opened
            simp only [VV.whs, VV.isWh, List.length_nil]
            clear hs
            clear hB
            have cHA := HA.out.2.1
            have cHAN := HAN.out.2.1
            go_wp2_with fail
            refine (kind_calls _ _ _ HU.out).mono ?_
            clear cHA cHAN
            rintro e W6 ⟨rfl, hB⟩
            replace HS := Lib.hid (HS.out.below hB)
            replace HU := Lib.hid (HU.out.grow hB)
            replace HA := Lib.hid (HA.out.below hB)
            replace HUN := Lib.hid (HUN.out.grow hB)
            replace HAN := Lib.hid (HAN.out.below hB)
            replace HB := Lib.hid (HB.out.trans (hB.mono HB.out.size))
            simp only [VV.kind]
            clear hB
            have cHA := HA.out.2.1
            have cHAN := HAN.out.2.1
            go_wp2_with fail
            refine (class_calls _ _ _ HU.out).mono ?_
            clear cHA cHAN
            rintro e W7 ⟨rfl, hB⟩
            replace HS := Lib.hid (HS.out.below hB)
            replace HU := Lib.hid (HU.out.grow hB)
            replace HA := Lib.hid (HA.out.below hB)
            replace HUN := Lib.hid (HUN.out.grow hB)
            replace HAN := Lib.hid (HAN.out.below hB)
            replace HB := Lib.hid (HB.out.trans (hB.mono HB.out.size))
            simp only [VV.cls]
            clear hB
            have cHA := HA.out.2.1
            have cHAN := HAN.out.2.1
            go_wp2_with fail
            refine (vlen_calls _ _ _ HU.out).mono ?_
            clear cHA cHAN
            rintro e W8 ⟨rfl, hB⟩
            replace HS := Lib.hid (HS.out.below hB)
            replace HU := Lib.hid (HU.out.grow hB)
            replace HA := Lib.hid (HA.out.below hB)
            replace HUN := Lib.hid (HUN.out.grow hB)
            replace HAN := Lib.hid (HAN.out.below hB)
            replace HB := Lib.hid (HB.out.trans (hB.mono HB.out.size))
            simp only [VV.len]
            clear hB
            have cHA := HA.out.2.1
            have cHAN := HAN.out.2.1
            go_wp2_with fail
            refine (vtext_calls _ _ _ HU.out HOK.out).mono ?_
            clear cHA cHAN
            rintro e W9 ⟨vt, rfl, hs, hB⟩
            replace HS := Lib.hid (HS.out.below hB)
            replace HU := Lib.hid (HU.out.grow hB)
            replace HA := Lib.hid (HA.out.below hB)
            replace HUN := Lib.hid (HUN.out.grow hB)
            replace HAN := Lib.hid (HAN.out.below hB)
            replace HB := Lib.hid (HB.out.trans (hB.mono HB.out.size))
            have HTX := Lib.hid (show Slc _ _ _ l.length (i32s l) from hs)
            clear hs
            clear hB
            have cHA := HA.out.2.1
            have cHAN := HAN.out.2.1
            go_wp2_with fail
            refine (runes_same _ _ l _ HTX.out HS.out (by omega)).mono ?_
            clear cHA cHAN
            rintro e W10 ⟨rfl, hB⟩
            replace HS := Lib.hid (HS.out.below hB)
            replace HU := Lib.hid (HU.out.grow hB)
            replace HA := Lib.hid (HA.out.below hB)
            replace HUN := Lib.hid (HUN.out.grow hB)
            replace HAN := Lib.hid (HAN.out.below hB)
            replace HTX := Lib.hid (HTX.out.below hB)
            replace HB := Lib.hid (HB.out.trans (hB.mono HB.out.size))
            clear hB
            have cHA := HA.out.2.1
            have cHAN := HAN.out.2.1
            go_wp2_with fail
            refine (vchar_calls _ _ i _ HU.out).mono ?_
            clear cHA cHAN
            rintro e W11 ⟨rfl, hB⟩
            replace HS := Lib.hid (HS.out.below hB)
            replace HU := Lib.hid (HU.out.grow hB)
            replace HA := Lib.hid (HA.out.below hB)
            replace HUN := Lib.hid (HUN.out.grow hB)
            replace HAN := Lib.hid (HAN.out.below hB)
            replace HTX := Lib.hid (HTX.out.below hB)
            replace HB := Lib.hid (HB.out.trans (hB.mono HB.out.size))
            simp only [VV.text]
            rw [HCH.out]
            clear hB
            have cHA := HA.out.2.1
            have cHAN := HAN.out.2.1
            go_wp2_with fail
            refine (num_calls _ _ 0 _ HU.out).mono ?_
            clear cHA cHAN
            rintro e W12 ⟨rfl, hB⟩
            replace HS := Lib.hid (HS.out.below hB)
            replace HU := Lib.hid (HU.out.grow hB)
            replace HA := Lib.hid (HA.out.below hB)
            replace HUN := Lib.hid (HUN.out.grow hB)
            replace HAN := Lib.hid (HAN.out.below hB)
            replace HTX := Lib.hid (HTX.out.below hB)
            replace HB := Lib.hid (HB.out.trans (hB.mono HB.out.size))
            rw [show atI (VV.chars l).nums 0 0 = 0 by simp [VV.nums, atI]]
            clear hB
            have cHA := HA.out.2.1
            have cHAN := HAN.out.2.1
            go_wp2_with fail
            refine (vnums_calls _ _ _ HU.out HOK.out (fun j hj => keep_below HB.out _ _ (HT.out j hj))).mono ?_
            clear cHA cHAN
            rintro e W13 ⟨vn, rfl, hs, hB⟩
            replace HS := Lib.hid (HS.out.below hB)
            replace HU := Lib.hid (HU.out.grow hB)
            replace HA := Lib.hid (HA.out.below hB)
            replace HUN := Lib.hid (HUN.out.grow hB)
            replace HAN := Lib.hid (HAN.out.below hB)
            replace HTX := Lib.hid (HTX.out.below hB)
            replace HB := Lib.hid (HB.out.trans (hB.mono HB.out.size))
            obtain ⟨an, cn, rfl, _⟩ := hs.opened
            simp only [VV.nums, List.length_nil]
            clear hs
            clear hB
            have cHA := HA.out.2.1
            have cHAN := HAN.out.2.1
            go_wp2_with fail
            refine (kind_calls _ _ _ HUN.out).mono ?_
            clear cHA cHAN
            rintro e W14 ⟨rfl, hB⟩
            replace HS := Lib.hid (HS.out.below hB)
            replace HU := Lib.hid (HU.out.grow hB)
            replace HA := Lib.hid (HA.out.below hB)
            replace HUN := Lib.hid (HUN.out.grow hB)
            replace HAN := Lib.hid (HAN.out.below hB)
            replace HTX := Lib.hid (HTX.out.below hB)
            replace HB := Lib.hid (HB.out.trans (hB.mono HB.out.size))
            rw [noneV_kind, HKN.out]
            clear hB
            have cHA := HA.out.2.1
            have cHAN := HAN.out.2.1
            go_wp2_with fail
            refine (vlen_calls _ _ _ HUN.out).mono ?_
            clear cHA cHAN
            rintro e W15 ⟨rfl, hB⟩
            replace HS := Lib.hid (HS.out.below hB)
            replace HU := Lib.hid (HU.out.grow hB)
            replace HA := Lib.hid (HA.out.below hB)
            replace HUN := Lib.hid (HUN.out.grow hB)
            replace HAN := Lib.hid (HAN.out.below hB)
            replace HTX := Lib.hid (HTX.out.below hB)
            replace HB := Lib.hid (HB.out.trans (hB.mono HB.out.size))
            rw [noneV_len]
            clear hB
            have cHA := HA.out.2.1
            have cHAN := HAN.out.2.1
            go_wp2_with fail
            refine (awake4_calls _).mono ?_
            clear cHA cHAN
            rintro e W16 ⟨rfl, hB⟩
            replace HS := Lib.hid (HS.out.below hB)
            replace HU := Lib.hid (HU.out.grow hB)
            replace HA := Lib.hid (HA.out.below hB)
            replace HUN := Lib.hid (HUN.out.grow hB)
            replace HAN := Lib.hid (HAN.out.below hB)
            replace HTX := Lib.hid (HTX.out.below hB)
            replace HB := Lib.hid (HB.out.trans (hB.mono HB.out.size))
            clear hB
            have cHA := HA.out.2.1
            have cHAN := HAN.out.2.1
            go_wp2
            go_ret
            exact ⟨rfl, HB.out⟩
          · have hge : (l.length : Int) ≤ i := by omega
            clear hin
            have HB := Lib.hid (Below.refl w.heap.size w)
            go_enter Tryd.func5, Tryd.ntmps5
            go_wp2_with fail
            refine (vchars_calls _ l _ HS.out (by omega)).mono ?_
            rintro e W1 ⟨u, rfl, hu, hB⟩
            replace HS := Lib.hid (HS.out.below hB)
            replace HB := Lib.hid (HB.out.trans (hB.mono HB.out.size))
            have hst := hu.store
            have HU := Lib.hid hu.any
            clear hu
            clear hB
            obtain ⟨W2, hWn⟩ : ∃ W2, (W1.alloc (.cells #[u] 29)) = W2 := ⟨_, rfl⟩
            have hB : Below W1.heap.size W1 W2 := by rw [← hWn]; exact (below_new _ _)
            replace HS := Lib.hid (HS.out.below hB)
            replace HU := Lib.hid (HU.out.grow hB)
            replace HB := Lib.hid (HB.out.trans (hB.mono HB.out.size))
            have HA := Lib.hid (show At1 W2 W1.heap.size (u) by rw [← hWn]; exact At1.new W1 (u) 29)
            clear hB
            have cHA := HA.out.2.1
            go_wp2_with fail
            clear hWn
            refine (vnone_calls 2 _).mono ?_
            clear cHA
            rintro e W3 ⟨un, rfl, hu, hB⟩
            replace HS := Lib.hid (HS.out.below hB)
            replace HU := Lib.hid (HU.out.grow hB)
            replace HA := Lib.hid (HA.out.below hB)
            replace HB := Lib.hid (HB.out.trans (hB.mono HB.out.size))
            have hst2 := hu.store
            have HUN := Lib.hid hu.any
            clear hu
            clear hB
            have cHA := HA.out.2.1
            obtain ⟨W4, hWn⟩ : ∃ W4, (W3.alloc (.cells #[un] 29)) = W4 := ⟨_, rfl⟩
            have hB : Below W3.heap.size W3 W4 := by rw [← hWn]; exact (below_new _ _)
            clear cHA
            replace HS := Lib.hid (HS.out.below hB)
            replace HU := Lib.hid (HU.out.grow hB)
            replace HA := Lib.hid (HA.out.below hB)
            replace HUN := Lib.hid (HUN.out.grow hB)
            replace HB := Lib.hid (HB.out.trans (hB.mono HB.out.size))
            have HAN := Lib.hid (show At1 W4 W3.heap.size (un) by rw [← hWn]; exact At1.new W3 (un) 29)
            clear hB
            have cHA := HA.out.2.1
            have cHAN := HAN.out.2.1
            go_wp2_with fail
            clear hWn
            refine (vwholes_calls _ _ _ HU.out HOK.out (fun j hj => keep_below HB.out _ _ (HT.out j hj))).mono ?_
            clear cHA cHAN
            rintro e W5 ⟨vw, rfl, hs, hB⟩
            replace HS := Lib.hid (HS.out.below hB)
            replace HU := Lib.hid (HU.out.grow hB)
            replace HA := Lib.hid (HA.out.below hB)
            replace HUN := Lib.hid (HUN.out.grow hB)
            replace HAN := Lib.hid (HAN.out.below hB)
            replace HB := Lib.hid (HB.out.trans (hB.mono HB.out.size))
            obtain ⟨aw, cw, rfl, _⟩ := hs.opened
            simp only [VV.whs, VV.isWh, List.length_nil]
            clear hs
            clear hB
            have cHA := HA.out.2.1
            have cHAN := HAN.out.2.1
            go_wp2_with fail
            refine (kind_calls _ _ _ HU.out).mono ?_
            clear cHA cHAN
            rintro e W6 ⟨rfl, hB⟩
            replace HS := Lib.hid (HS.out.below hB)
            replace HU := Lib.hid (HU.out.grow hB)
            replace HA := Lib.hid (HA.out.below hB)
            replace HUN := Lib.hid (HUN.out.grow hB)
            replace HAN := Lib.hid (HAN.out.below hB)
            replace HB := Lib.hid (HB.out.trans (hB.mono HB.out.size))
            simp only [VV.kind]
            clear hB
            have cHA := HA.out.2.1
            have cHAN := HAN.out.2.1
            go_wp2_with fail
            refine (class_calls _ _ _ HU.out).mono ?_
            clear cHA cHAN
            rintro e W7 ⟨rfl, hB⟩
            replace HS := Lib.hid (HS.out.below hB)
            replace HU := Lib.hid (HU.out.grow hB)
            replace HA := Lib.hid (HA.out.below hB)
            replace HUN := Lib.hid (HUN.out.grow hB)
            replace HAN := Lib.hid (HAN.out.below hB)
            replace HB := Lib.hid (HB.out.trans (hB.mono HB.out.size))
            simp only [VV.cls]
            clear hB
            have cHA := HA.out.2.1
            have cHAN := HAN.out.2.1
            go_wp2_with fail
            refine (vlen_calls _ _ _ HU.out).mono ?_
            clear cHA cHAN
            rintro e W8 ⟨rfl, hB⟩
            replace HS := Lib.hid (HS.out.below hB)
            replace HU := Lib.hid (HU.out.grow hB)
            replace HA := Lib.hid (HA.out.below hB)
            replace HUN := Lib.hid (HUN.out.grow hB)
            replace HAN := Lib.hid (HAN.out.below hB)
            replace HB := Lib.hid (HB.out.trans (hB.mono HB.out.size))
            simp only [VV.len]
            clear hB
            have cHA := HA.out.2.1
            have cHAN := HAN.out.2.1
            go_wp2_with fail
            refine (vtext_calls _ _ _ HU.out HOK.out).mono ?_
            clear cHA cHAN
            rintro e W9 ⟨vt, rfl, hs, hB⟩
            replace HS := Lib.hid (HS.out.below hB)
            replace HU := Lib.hid (HU.out.grow hB)
            replace HA := Lib.hid (HA.out.below hB)
            replace HUN := Lib.hid (HUN.out.grow hB)
            replace HAN := Lib.hid (HAN.out.below hB)
            replace HB := Lib.hid (HB.out.trans (hB.mono HB.out.size))
            have HTX := Lib.hid (show Slc _ _ _ l.length (i32s l) from hs)
            clear hs
            clear hB
            have cHA := HA.out.2.1
            have cHAN := HAN.out.2.1
            go_wp2_with fail
            refine (runes_same _ _ l _ HTX.out HS.out (by omega)).mono ?_
            clear cHA cHAN
            rintro e W10 ⟨rfl, hB⟩
            replace HS := Lib.hid (HS.out.below hB)
            replace HU := Lib.hid (HU.out.grow hB)
            replace HA := Lib.hid (HA.out.below hB)
            replace HUN := Lib.hid (HUN.out.grow hB)
            replace HAN := Lib.hid (HAN.out.below hB)
            replace HTX := Lib.hid (HTX.out.below hB)
            replace HB := Lib.hid (HB.out.trans (hB.mono HB.out.size))
            clear hB
            have cHA := HA.out.2.1
            have cHAN := HAN.out.2.1
            go_wp2_with fail
            refine (vchar_calls _ _ i _ HU.out).mono ?_
            clear cHA cHAN
            rintro e W11 ⟨rfl, hB⟩
            replace HS := Lib.hid (HS.out.below hB)
            replace HU := Lib.hid (HU.out.grow hB)
            replace HA := Lib.hid (HA.out.below hB)
            replace HUN := Lib.hid (HUN.out.grow hB)
            replace HAN := Lib.hid (HAN.out.below hB)
            replace HTX := Lib.hid (HTX.out.below hB)
            replace HB := Lib.hid (HB.out.trans (hB.mono HB.out.size))
            simp only [VV.text]
            rw [HCH.out]
            clear hB
            have cHA := HA.out.2.1
            have cHAN := HAN.out.2.1
            go_wp2_with fail
            refine (num_calls _ _ 0 _ HU.out).mono ?_
            clear cHA cHAN
            rintro e W12 ⟨rfl, hB⟩
            replace HS := Lib.hid (HS.out.below hB)
            replace HU := Lib.hid (HU.out.grow hB)
            replace HA := Lib.hid (HA.out.below hB)
            replace HUN := Lib.hid (HUN.out.grow hB)
            replace HAN := Lib.hid (HAN.out.below hB)
            replace HTX := Lib.hid (HTX.out.below hB)
            replace HB := Lib.hid (HB.out.trans (hB.mono HB.out.size))
            rw [show atI (VV.chars l).nums 0 0 = 0 by simp [VV.nums, atI]]
            clear hB
            have cHA := HA.out.2.1
            have cHAN := HAN.out.2.1
            go_wp2_with fail
            refine (vnums_calls _ _ _ HU.out HOK.out (fun j hj => keep_below HB.out _ _ (HT.out j hj))).mono ?_
            clear cHA cHAN
            rintro e W13 ⟨vn, rfl, hs, hB⟩
            replace HS := Lib.hid (HS.out.below hB)
            replace HU := Lib.hid (HU.out.grow hB)
            replace HA := Lib.hid (HA.out.below hB)
            replace HUN := Lib.hid (HUN.out.grow hB)
            replace HAN := Lib.hid (HAN.out.below hB)
            replace HTX := Lib.hid (HTX.out.below hB)
            replace HB := Lib.hid (HB.out.trans (hB.mono HB.out.size))
            obtain ⟨an, cn, rfl, _⟩ := hs.opened
            simp only [VV.nums, List.length_nil]
            clear hs
            clear hB
            have cHA := HA.out.2.1
            have cHAN := HAN.out.2.1
            go_wp2_with fail
            refine (kind_calls _ _ _ HUN.out).mono ?_
            clear cHA cHAN
            rintro e W14 ⟨rfl, hB⟩
            replace HS := Lib.hid (HS.out.below hB)
            replace HU := Lib.hid (HU.out.grow hB)
            replace HA := Lib.hid (HA.out.below hB)
            replace HUN := Lib.hid (HUN.out.grow hB)
            replace HAN := Lib.hid (HAN.out.below hB)
            replace HTX := Lib.hid (HTX.out.below hB)
            replace HB := Lib.hid (HB.out.trans (hB.mono HB.out.size))
            rw [noneV_kind, HKN.out]
            clear hB
            have cHA := HA.out.2.1
            have cHAN := HAN.out.2.1
            go_wp2_with fail
            refine (vlen_calls _ _ _ HUN.out).mono ?_
            clear cHA cHAN
            rintro e W15 ⟨rfl, hB⟩
            replace HS := Lib.hid (HS.out.below hB)
            replace HU := Lib.hid (HU.out.grow hB)
            replace HA := Lib.hid (HA.out.below hB)
            replace HUN := Lib.hid (HUN.out.grow hB)
            replace HAN := Lib.hid (HAN.out.below hB)
            replace HTX := Lib.hid (HTX.out.below hB)
            replace HB := Lib.hid (HB.out.trans (hB.mono HB.out.size))
            rw [noneV_len]
            clear hB
            have cHA := HA.out.2.1
            have cHAN := HAN.out.2.1
            go_wp2_with fail
            refine (awake4_calls _).mono ?_
            clear cHA cHAN
            rintro e W16 ⟨rfl, hB⟩
            replace HS := Lib.hid (HS.out.below hB)
            replace HU := Lib.hid (HU.out.grow hB)
            replace HA := Lib.hid (HA.out.below hB)
            replace HUN := Lib.hid (HUN.out.grow hB)
            replace HAN := Lib.hid (HAN.out.below hB)
            replace HTX := Lib.hid (HTX.out.below hB)
            replace HB := Lib.hid (HB.out.trans (hB.mono HB.out.size))
            clear hB
            have cHA := HA.out.2.1
            have cHAN := HAN.out.2.1
            go_wp2
            go_ret
            exact ⟨rfl, HB.out⟩
      · have HKN : Hid (kindN c = 1) := Lib.hid (by unfold kindN; rw [if_neg h1, if_neg h2])
        have h1' : (c == 1) = false := by simpa using h1
        have h2' : (c == 2) = false := by simpa using h2
        clear h1 h2
        by_cases hin : 0 ≤ i ∧ i < (l.length : Int)
        · obtain ⟨k, rfl⟩ := Int.eq_ofNat_of_zero_le hin.1
          have hk : k < l.length := by omega
          obtain ⟨b, off, cap', x, e1, hx, hcx⟩ := Slc.at_map (Value.int .i32) HS.out k hk
          obtain ⟨e1a, e1b⟩ : ao = some ⟨b, off, none⟩ ∧ cap = cap' := by cases e1; exact ⟨rfl, rfl⟩
          subst e1a
          have HCL := Lib.hid hcx
          have HCH := Lib.hid (atI_some (d := (0 : Int)) hx)
          obtain ⟨i, hik⟩ : ∃ i : Int, i = (k : Int) := ⟨_, rfl⟩
          have hbx : (x == x) = true := by simp
          clear hin hx hcx e1 e1b
          have HB := Lib.hid (Below.refl w.heap.size w)
          go_enter Tryd.func5, Tryd.ntmps5
          go_wp2_with fail
          refine (vchars_calls _ l _ HS.out (by omega)).mono ?_
          rintro e W1 ⟨u, rfl, hu, hB⟩
          replace HS := Lib.hid (HS.out.below hB)
          replace HB := Lib.hid (HB.out.trans (hB.mono HB.out.size))
          have hst := hu.store
          have HU := Lib.hid hu.any
          clear hu
          clear hB
          obtain ⟨W2, hWn⟩ : ∃ W2, (W1.alloc (.cells #[u] 29)) = W2 := ⟨_, rfl⟩
          have hB : Below W1.heap.size W1 W2 := by rw [← hWn]; exact (below_new _ _)
          replace HS := Lib.hid (HS.out.below hB)
          replace HU := Lib.hid (HU.out.grow hB)
          replace HB := Lib.hid (HB.out.trans (hB.mono HB.out.size))
          have HA := Lib.hid (show At1 W2 W1.heap.size (u) by rw [← hWn]; exact At1.new W1 (u) 29)
          clear hB
          have cHA := HA.out.2.1
          have hcl := keep_below HB.out _ _ HCL.out
          go_wp2_with fail
          clear hWn
          refine (vnone_calls c _).mono ?_
          clear cHA
          rintro e W3 ⟨un, rfl, hu, hB⟩
          replace HS := Lib.hid (HS.out.below hB)
          replace HU := Lib.hid (HU.out.grow hB)
          replace HA := Lib.hid (HA.out.below hB)
          replace HB := Lib.hid (HB.out.trans (hB.mono HB.out.size))
          have hst2 := hu.store
          have HUN := Lib.hid hu.any
          clear hu
          clear hB
          have cHA := HA.out.2.1
          obtain ⟨W4, hWn⟩ : ∃ W4, (W3.alloc (.cells #[un] 29)) = W4 := ⟨_, rfl⟩
          have hB : Below W3.heap.size W3 W4 := by rw [← hWn]; exact (below_new _ _)
          clear cHA
          replace HS := Lib.hid (HS.out.below hB)
          replace HU := Lib.hid (HU.out.grow hB)
          replace HA := Lib.hid (HA.out.below hB)
          replace HUN := Lib.hid (HUN.out.grow hB)
          replace HB := Lib.hid (HB.out.trans (hB.mono HB.out.size))
          have HAN := Lib.hid (show At1 W4 W3.heap.size (un) by rw [← hWn]; exact At1.new W3 (un) 29)
          clear hB
          have cHA := HA.out.2.1
          have cHAN := HAN.out.2.1
          go_wp2_with fail
          clear hWn
          refine (vwholes_calls _ _ _ HU.out HOK.out (fun j hj => keep_below HB.out _ _ (HT.out j hj))).mono ?_
          clear cHA cHAN
          rintro e W5 ⟨vw, rfl, hs, hB⟩
          replace HS := Lib.hid (HS.out.below hB)
          replace HU := Lib.hid (HU.out.grow hB)
          replace HA := Lib.hid (HA.out.below hB)
          replace HUN := Lib.hid (HUN.out.grow hB)
          replace HAN := Lib.hid (HAN.out.below hB)
          replace HB := Lib.hid (HB.out.trans (hB.mono HB.out.size))
          obtain ⟨aw, cw, rfl, _⟩ := hs.opened
          simp only [VV.whs, VV.isWh, List.length_nil]
          clear hs
          clear hB
          have cHA := HA.out.2.1
          have cHAN := HAN.out.2.1
          go_wp2_with fail
          refine (kind_calls _ _ _ HU.out).mono ?_
          clear cHA cHAN
          rintro e W6 ⟨rfl, hB⟩
          replace HS := Lib.hid (HS.out.below hB)
          replace HU := Lib.hid (HU.out.grow hB)
          replace HA := Lib.hid (HA.out.below hB)
          replace HUN := Lib.hid (HUN.out.grow hB)
          replace HAN := Lib.hid (HAN.out.below hB)
          replace HB := Lib.hid (HB.out.trans (hB.mono HB.out.size))
          simp only [VV.kind]
          clear hB
          have cHA := HA.out.2.1
          have cHAN := HAN.out.2.1
          go_wp2_with fail
          refine (class_calls _ _ _ HU.out).mono ?_
          clear cHA cHAN
          rintro e W7 ⟨rfl, hB⟩
          replace HS := Lib.hid (HS.out.below hB)
          replace HU := Lib.hid (HU.out.grow hB)
          replace HA := Lib.hid (HA.out.below hB)
          replace HUN := Lib.hid (HUN.out.grow hB)
          replace HAN := Lib.hid (HAN.out.below hB)
          replace HB := Lib.hid (HB.out.trans (hB.mono HB.out.size))
          simp only [VV.cls]
          clear hB
          have cHA := HA.out.2.1
          have cHAN := HAN.out.2.1
          go_wp2_with fail
          refine (vlen_calls _ _ _ HU.out).mono ?_
          clear cHA cHAN
          rintro e W8 ⟨rfl, hB⟩
          replace HS := Lib.hid (HS.out.below hB)
          replace HU := Lib.hid (HU.out.grow hB)
          replace HA := Lib.hid (HA.out.below hB)
          replace HUN := Lib.hid (HUN.out.grow hB)
          replace HAN := Lib.hid (HAN.out.below hB)
          replace HB := Lib.hid (HB.out.trans (hB.mono HB.out.size))
          simp only [VV.len]
          clear hB
          have cHA := HA.out.2.1
          have cHAN := HAN.out.2.1
          go_wp2_with fail
          refine (vtext_calls _ _ _ HU.out HOK.out).mono ?_
          clear cHA cHAN
          rintro e W9 ⟨vt, rfl, hs, hB⟩
          replace HS := Lib.hid (HS.out.below hB)
          replace HU := Lib.hid (HU.out.grow hB)
          replace HA := Lib.hid (HA.out.below hB)
          replace HUN := Lib.hid (HUN.out.grow hB)
          replace HAN := Lib.hid (HAN.out.below hB)
          replace HB := Lib.hid (HB.out.trans (hB.mono HB.out.size))
          have HTX := Lib.hid (show Slc _ _ _ l.length (i32s l) from hs)
          clear hs
          clear hB
          have cHA := HA.out.2.1
          have cHAN := HAN.out.2.1
          go_wp2_with fail
          refine (runes_same _ _ l _ HTX.out HS.out (by omega)).mono ?_
          clear cHA cHAN
          rintro e W10 ⟨rfl, hB⟩
          replace HS := Lib.hid (HS.out.below hB)
          replace HU := Lib.hid (HU.out.grow hB)
          replace HA := Lib.hid (HA.out.below hB)
          replace HUN := Lib.hid (HUN.out.grow hB)
          replace HAN := Lib.hid (HAN.out.below hB)
          replace HTX := Lib.hid (HTX.out.below hB)
          replace HB := Lib.hid (HB.out.trans (hB.mono HB.out.size))
          clear hB
          have cHA := HA.out.2.1
          have cHAN := HAN.out.2.1
          go_wp2_with fail
          refine (vchar_calls _ _ (k : Int) _ HU.out).mono ?_
          clear cHA cHAN
          rintro e W11 ⟨rfl, hB⟩
          replace HS := Lib.hid (HS.out.below hB)
          replace HU := Lib.hid (HU.out.grow hB)
          replace HA := Lib.hid (HA.out.below hB)
          replace HUN := Lib.hid (HUN.out.grow hB)
          replace HAN := Lib.hid (HAN.out.below hB)
          replace HTX := Lib.hid (HTX.out.below hB)
          replace HB := Lib.hid (HB.out.trans (hB.mono HB.out.size))
          simp only [VV.text]
          rw [HCH.out]
          clear hB
          have cHA := HA.out.2.1
          have cHAN := HAN.out.2.1
          go_wp2_with fail
          refine (num_calls _ _ 0 _ HU.out).mono ?_
          clear cHA cHAN
          rintro e W12 ⟨rfl, hB⟩
          replace HS := Lib.hid (HS.out.below hB)
          replace HU := Lib.hid (HU.out.grow hB)
          replace HA := Lib.hid (HA.out.below hB)
          replace HUN := Lib.hid (HUN.out.grow hB)
          replace HAN := Lib.hid (HAN.out.below hB)
          replace HTX := Lib.hid (HTX.out.below hB)
          replace HB := Lib.hid (HB.out.trans (hB.mono HB.out.size))
          rw [show atI (VV.chars l).nums 0 0 = 0 by simp [VV.nums, atI]]
          clear hB
          have cHA := HA.out.2.1
          have cHAN := HAN.out.2.1
          go_wp2_with fail
          refine (vnums_calls _ _ _ HU.out HOK.out (fun j hj => keep_below HB.out _ _ (HT.out j hj))).mono ?_
          clear cHA cHAN
          rintro e W13 ⟨vn, rfl, hs, hB⟩
          replace HS := Lib.hid (HS.out.below hB)
          replace HU := Lib.hid (HU.out.grow hB)
          replace HA := Lib.hid (HA.out.below hB)
          replace HUN := Lib.hid (HUN.out.grow hB)
          replace HAN := Lib.hid (HAN.out.below hB)
          replace HTX := Lib.hid (HTX.out.below hB)
          replace HB := Lib.hid (HB.out.trans (hB.mono HB.out.size))
          obtain ⟨an, cn, rfl, _⟩ := hs.opened
          simp only [VV.nums, List.length_nil]
          clear hs
          clear hB
          have cHA := HA.out.2.1
          have cHAN := HAN.out.2.1
          go_wp2_with fail
          refine (kind_calls _ _ _ HUN.out).mono ?_
          clear cHA cHAN
          rintro e W14 ⟨rfl, hB⟩
          replace HS := Lib.hid (HS.out.below hB)
          replace HU := Lib.hid (HU.out.grow hB)
          replace HA := Lib.hid (HA.out.below hB)
          replace HUN := Lib.hid (HUN.out.grow hB)
          replace HAN := Lib.hid (HAN.out.below hB)
          replace HTX := Lib.hid (HTX.out.below hB)
          replace HB := Lib.hid (HB.out.trans (hB.mono HB.out.size))
          rw [noneV_kind, HKN.out]
          clear hB
          have cHA := HA.out.2.1
          have cHAN := HAN.out.2.1
          go_wp2_with fail
          refine (vlen_calls _ _ _ HUN.out).mono ?_
          clear cHA cHAN
          rintro e W15 ⟨rfl, hB⟩
          replace HS := Lib.hid (HS.out.below hB)
          replace HU := Lib.hid (HU.out.grow hB)
          replace HA := Lib.hid (HA.out.below hB)
          replace HUN := Lib.hid (HUN.out.grow hB)
          replace HAN := Lib.hid (HAN.out.below hB)
          replace HTX := Lib.hid (HTX.out.below hB)
          replace HB := Lib.hid (HB.out.trans (hB.mono HB.out.size))
          rw [noneV_len]
          clear hB
          have cHA := HA.out.2.1
          have cHAN := HAN.out.2.1
          go_wp2_with fail
          refine (awake4_calls _).mono ?_
          clear cHA cHAN
          rintro e W16 ⟨rfl, hB⟩
          replace HS := Lib.hid (HS.out.below hB)
          replace HU := Lib.hid (HU.out.grow hB)
          replace HA := Lib.hid (HA.out.below hB)
          replace HUN := Lib.hid (HUN.out.grow hB)
          replace HAN := Lib.hid (HAN.out.below hB)
          replace HTX := Lib.hid (HTX.out.below hB)
          replace HB := Lib.hid (HB.out.trans (hB.mono HB.out.size))
          clear hB
          have cHA := HA.out.2.1
          have cHAN := HAN.out.2.1
          go_wp2
          go_ret
          exact ⟨rfl, HB.out⟩
        · have HCH := Lib.hid (atI_neg (l := l) (d := (0 : Int)) hin)
          rcases Int.lt_or_le i 0 with hneg | hneg
          · clear hin
            have HB := Lib.hid (Below.refl w.heap.size w)
            go_enter Tryd.func5, Tryd.ntmps5
            go_wp2_with fail
            refine (vchars_calls _ l _ HS.out (by omega)).mono ?_
            rintro e W1 ⟨u, rfl, hu, hB⟩
            replace HS := Lib.hid (HS.out.below hB)
            replace HB := Lib.hid (HB.out.trans (hB.mono HB.out.size))
            have hst := hu.store
            have HU := Lib.hid hu.any
            clear hu
            clear hB
            obtain ⟨W2, hWn⟩ : ∃ W2, (W1.alloc (.cells #[u] 29)) = W2 := ⟨_, rfl⟩
            have hB : Below W1.heap.size W1 W2 := by rw [← hWn]; exact (below_new _ _)
            replace HS := Lib.hid (HS.out.below hB)
            replace HU := Lib.hid (HU.out.grow hB)
            replace HB := Lib.hid (HB.out.trans (hB.mono HB.out.size))
            have HA := Lib.hid (show At1 W2 W1.heap.size (u) by rw [← hWn]; exact At1.new W1 (u) 29)
            clear hB
            have cHA := HA.out.2.1
            go_wp2_with fail
            clear hWn
            refine (vnone_calls c _).mono ?_
            clear cHA
            rintro e W3 ⟨un, rfl, hu, hB⟩
            replace HS := Lib.hid (HS.out.below hB)
            replace HU := Lib.hid (HU.out.grow hB)
            replace HA := Lib.hid (HA.out.below hB)
            replace HB := Lib.hid (HB.out.trans (hB.mono HB.out.size))
            have hst2 := hu.store
            have HUN := Lib.hid hu.any
            clear hu
            clear hB
            have cHA := HA.out.2.1
            obtain ⟨W4, hWn⟩ : ∃ W4, (W3.alloc (.cells #[un] 29)) = W4 := ⟨_, rfl⟩
            have hB : Below W3.heap.size W3 W4 := by rw [← hWn]; exact (below_new _ _)
            clear cHA
            replace HS := Lib.hid (HS.out.below hB)
            replace HU := Lib.hid (HU.out.grow hB)
            replace HA := Lib.hid (HA.out.below hB)
            replace HUN := Lib.hid (HUN.out.grow hB)
            replace HB := Lib.hid (HB.out.trans (hB.mono HB.out.size))
            have HAN := Lib.hid (show At1 W4 W3.heap.size (un) by rw [← hWn]; exact At1.new W3 (un) 29)
            clear hB
            have cHA := HA.out.2.1
            have cHAN := HAN.out.2.1
            go_wp2_with fail
            clear hWn
            refine (vwholes_calls _ _ _ HU.out HOK.out (fun j hj => keep_below HB.out _ _ (HT.out j hj))).mono ?_
            clear cHA cHAN
            rintro e W5 ⟨vw, rfl, hs, hB⟩
            replace HS := Lib.hid (HS.out.below hB)
            replace HU := Lib.hid (HU.out.grow hB)
            replace HA := Lib.hid (HA.out.below hB)
            replace HUN := Lib.hid (HUN.out.grow hB)
            replace HAN := Lib.hid (HAN.out.below hB)
            replace HB := Lib.hid (HB.out.trans (hB.mono HB.out.size))
            obtain ⟨aw, cw, rfl, _⟩ := hs.opened
            simp only [VV.whs, VV.isWh, List.length_nil]
            clear hs
            clear hB
            have cHA := HA.out.2.1
            have cHAN := HAN.out.2.1
            go_wp2_with fail
            refine (kind_calls _ _ _ HU.out).mono ?_
            clear cHA cHAN
            rintro e W6 ⟨rfl, hB⟩
            replace HS := Lib.hid (HS.out.below hB)
            replace HU := Lib.hid (HU.out.grow hB)
            replace HA := Lib.hid (HA.out.below hB)
            replace HUN := Lib.hid (HUN.out.grow hB)
            replace HAN := Lib.hid (HAN.out.below hB)
            replace HB := Lib.hid (HB.out.trans (hB.mono HB.out.size))
            simp only [VV.kind]
            clear hB
            have cHA := HA.out.2.1
            have cHAN := HAN.out.2.1
            go_wp2_with fail
            refine (class_calls _ _ _ HU.out).mono ?_
            clear cHA cHAN
            rintro e W7 ⟨rfl, hB⟩
            replace HS := Lib.hid (HS.out.below hB)
            replace HU := Lib.hid (HU.out.grow hB)
            replace HA := Lib.hid (HA.out.below hB)
            replace HUN := Lib.hid (HUN.out.grow hB)
            replace HAN := Lib.hid (HAN.out.below hB)
            replace HB := Lib.hid (HB.out.trans (hB.mono HB.out.size))
            simp only [VV.cls]
            clear hB
            have cHA := HA.out.2.1
            have cHAN := HAN.out.2.1
            go_wp2_with fail
            refine (vlen_calls _ _ _ HU.out).mono ?_
            clear cHA cHAN
            rintro e W8 ⟨rfl, hB⟩
            replace HS := Lib.hid (HS.out.below hB)
            replace HU := Lib.hid (HU.out.grow hB)
            replace HA := Lib.hid (HA.out.below hB)
            replace HUN := Lib.hid (HUN.out.grow hB)
            replace HAN := Lib.hid (HAN.out.below hB)
            replace HB := Lib.hid (HB.out.trans (hB.mono HB.out.size))
            simp only [VV.len]
            clear hB
            have cHA := HA.out.2.1
            have cHAN := HAN.out.2.1
            go_wp2_with fail
            refine (vtext_calls _ _ _ HU.out HOK.out).mono ?_
            clear cHA cHAN
            rintro e W9 ⟨vt, rfl, hs, hB⟩
            replace HS := Lib.hid (HS.out.below hB)
            replace HU := Lib.hid (HU.out.grow hB)
            replace HA := Lib.hid (HA.out.below hB)
            replace HUN := Lib.hid (HUN.out.grow hB)
            replace HAN := Lib.hid (HAN.out.below hB)
            replace HB := Lib.hid (HB.out.trans (hB.mono HB.out.size))
            have HTX := Lib.hid (show Slc _ _ _ l.length (i32s l) from hs)
            clear hs
            clear hB
            have cHA := HA.out.2.1
            have cHAN := HAN.out.2.1
            go_wp2_with fail
            refine (runes_same _ _ l _ HTX.out HS.out (by omega)).mono ?_
            clear cHA cHAN
            rintro e W10 ⟨rfl, hB⟩
            replace HS := Lib.hid (HS.out.below hB)
            replace HU := Lib.hid (HU.out.grow hB)
            replace HA := Lib.hid (HA.out.below hB)
            replace HUN := Lib.hid (HUN.out.grow hB)
            replace HAN := Lib.hid (HAN.out.below hB)
            replace HTX := Lib.hid (HTX.out.below hB)
            replace HB := Lib.hid (HB.out.trans (hB.mono HB.out.size))
            clear hB
            have cHA := HA.out.2.1
            have cHAN := HAN.out.2.1
            go_wp2_with fail
            refine (vchar_calls _ _ i _ HU.out).mono ?_
            clear cHA cHAN
            rintro e W11 ⟨rfl, hB⟩
            replace HS := Lib.hid (HS.out.below hB)
            replace HU := Lib.hid (HU.out.grow hB)
            replace HA := Lib.hid (HA.out.below hB)
            replace HUN := Lib.hid (HUN.out.grow hB)
            replace HAN := Lib.hid (HAN.out.below hB)
            replace HTX := Lib.hid (HTX.out.below hB)
            replace HB := Lib.hid (HB.out.trans (hB.mono HB.out.size))
            simp only [VV.text]
            rw [HCH.out]
            clear hB
            have cHA := HA.out.2.1
            have cHAN := HAN.out.2.1
            go_wp2_with fail
            refine (num_calls _ _ 0 _ HU.out).mono ?_
            clear cHA cHAN
            rintro e W12 ⟨rfl, hB⟩
            replace HS := Lib.hid (HS.out.below hB)
            replace HU := Lib.hid (HU.out.grow hB)
            replace HA := Lib.hid (HA.out.below hB)
            replace HUN := Lib.hid (HUN.out.grow hB)
            replace HAN := Lib.hid (HAN.out.below hB)
            replace HTX := Lib.hid (HTX.out.below hB)
            replace HB := Lib.hid (HB.out.trans (hB.mono HB.out.size))
            rw [show atI (VV.chars l).nums 0 0 = 0 by simp [VV.nums, atI]]
            clear hB
            have cHA := HA.out.2.1
            have cHAN := HAN.out.2.1
            go_wp2_with fail
            refine (vnums_calls _ _ _ HU.out HOK.out (fun j hj => keep_below HB.out _ _ (HT.out j hj))).mono ?_
            clear cHA cHAN
            rintro e W13 ⟨vn, rfl, hs, hB⟩
            replace HS := Lib.hid (HS.out.below hB)
            replace HU := Lib.hid (HU.out.grow hB)
            replace HA := Lib.hid (HA.out.below hB)
            replace HUN := Lib.hid (HUN.out.grow hB)
            replace HAN := Lib.hid (HAN.out.below hB)
            replace HTX := Lib.hid (HTX.out.below hB)
            replace HB := Lib.hid (HB.out.trans (hB.mono HB.out.size))
            obtain ⟨an, cn, rfl, _⟩ := hs.opened
            simp only [VV.nums, List.length_nil]
            clear hs
            clear hB
            have cHA := HA.out.2.1
            have cHAN := HAN.out.2.1
            go_wp2_with fail
            refine (kind_calls _ _ _ HUN.out).mono ?_
            clear cHA cHAN
            rintro e W14 ⟨rfl, hB⟩
            replace HS := Lib.hid (HS.out.below hB)
            replace HU := Lib.hid (HU.out.grow hB)
            replace HA := Lib.hid (HA.out.below hB)
            replace HUN := Lib.hid (HUN.out.grow hB)
            replace HAN := Lib.hid (HAN.out.below hB)
            replace HTX := Lib.hid (HTX.out.below hB)
            replace HB := Lib.hid (HB.out.trans (hB.mono HB.out.size))
            rw [noneV_kind, HKN.out]
            clear hB
            have cHA := HA.out.2.1
            have cHAN := HAN.out.2.1
            go_wp2_with fail
            refine (vlen_calls _ _ _ HUN.out).mono ?_
            clear cHA cHAN
            rintro e W15 ⟨rfl, hB⟩
            replace HS := Lib.hid (HS.out.below hB)
            replace HU := Lib.hid (HU.out.grow hB)
            replace HA := Lib.hid (HA.out.below hB)
            replace HUN := Lib.hid (HUN.out.grow hB)
            replace HAN := Lib.hid (HAN.out.below hB)
            replace HTX := Lib.hid (HTX.out.below hB)
            replace HB := Lib.hid (HB.out.trans (hB.mono HB.out.size))
            rw [noneV_len]
            clear hB
            have cHA := HA.out.2.1
            have cHAN := HAN.out.2.1
            go_wp2_with fail
            refine (awake4_calls _).mono ?_
            clear cHA cHAN
            rintro e W16 ⟨rfl, hB⟩
            replace HS := Lib.hid (HS.out.below hB)
            replace HU := Lib.hid (HU.out.grow hB)
            replace HA := Lib.hid (HA.out.below hB)
            replace HUN := Lib.hid (HUN.out.grow hB)
            replace HAN := Lib.hid (HAN.out.below hB)
            replace HTX := Lib.hid (HTX.out.below hB)
            replace HB := Lib.hid (HB.out.trans (hB.mono HB.out.size))
            clear hB
            have cHA := HA.out.2.1
            have cHAN := HAN.out.2.1
            go_wp2
            go_ret
            exact ⟨rfl, HB.out⟩
          · have hge : (l.length : Int) ≤ i := by omega
            clear hin
            have HB := Lib.hid (Below.refl w.heap.size w)
            go_enter Tryd.func5, Tryd.ntmps5
            go_wp2_with fail
            refine (vchars_calls _ l _ HS.out (by omega)).mono ?_
            rintro e W1 ⟨u, rfl, hu, hB⟩
            replace HS := Lib.hid (HS.out.below hB)
            replace HB := Lib.hid (HB.out.trans (hB.mono HB.out.size))
            have hst := hu.store
            have HU := Lib.hid hu.any
            clear hu
            clear hB
            obtain ⟨W2, hWn⟩ : ∃ W2, (W1.alloc (.cells #[u] 29)) = W2 := ⟨_, rfl⟩
            have hB : Below W1.heap.size W1 W2 := by rw [← hWn]; exact (below_new _ _)
            replace HS := Lib.hid (HS.out.below hB)
            replace HU := Lib.hid (HU.out.grow hB)
            replace HB := Lib.hid (HB.out.trans (hB.mono HB.out.size))
            have HA := Lib.hid (show At1 W2 W1.heap.size (u) by rw [← hWn]; exact At1.new W1 (u) 29)
            clear hB
            have cHA := HA.out.2.1
            go_wp2_with fail
            clear hWn
            refine (vnone_calls c _).mono ?_
            clear cHA
            rintro e W3 ⟨un, rfl, hu, hB⟩
            replace HS := Lib.hid (HS.out.below hB)
            replace HU := Lib.hid (HU.out.grow hB)
            replace HA := Lib.hid (HA.out.below hB)
            replace HB := Lib.hid (HB.out.trans (hB.mono HB.out.size))
            have hst2 := hu.store
            have HUN := Lib.hid hu.any
            clear hu
            clear hB
            have cHA := HA.out.2.1
            obtain ⟨W4, hWn⟩ : ∃ W4, (W3.alloc (.cells #[un] 29)) = W4 := ⟨_, rfl⟩
            have hB : Below W3.heap.size W3 W4 := by rw [← hWn]; exact (below_new _ _)
            clear cHA
            replace HS := Lib.hid (HS.out.below hB)
            replace HU := Lib.hid (HU.out.grow hB)
            replace HA := Lib.hid (HA.out.below hB)
            replace HUN := Lib.hid (HUN.out.grow hB)
            replace HB := Lib.hid (HB.out.trans (hB.mono HB.out.size))
            have HAN := Lib.hid (show At1 W4 W3.heap.size (un) by rw [← hWn]; exact At1.new W3 (un) 29)
            clear hB
            have cHA := HA.out.2.1
            have cHAN := HAN.out.2.1
            go_wp2_with fail
            clear hWn
            refine (vwholes_calls _ _ _ HU.out HOK.out (fun j hj => keep_below HB.out _ _ (HT.out j hj))).mono ?_
            clear cHA cHAN
            rintro e W5 ⟨vw, rfl, hs, hB⟩
            replace HS := Lib.hid (HS.out.below hB)
            replace HU := Lib.hid (HU.out.grow hB)
            replace HA := Lib.hid (HA.out.below hB)
            replace HUN := Lib.hid (HUN.out.grow hB)
            replace HAN := Lib.hid (HAN.out.below hB)
            replace HB := Lib.hid (HB.out.trans (hB.mono HB.out.size))
            obtain ⟨aw, cw, rfl, _⟩ := hs.opened
            simp only [VV.whs, VV.isWh, List.length_nil]
            clear hs
            clear hB
            have cHA := HA.out.2.1
            have cHAN := HAN.out.2.1
            go_wp2_with fail
            refine (kind_calls _ _ _ HU.out).mono ?_
            clear cHA cHAN
            rintro e W6 ⟨rfl, hB⟩
            replace HS := Lib.hid (HS.out.below hB)
            replace HU := Lib.hid (HU.out.grow hB)
            replace HA := Lib.hid (HA.out.below hB)
            replace HUN := Lib.hid (HUN.out.grow hB)
            replace HAN := Lib.hid (HAN.out.below hB)
            replace HB := Lib.hid (HB.out.trans (hB.mono HB.out.size))
            simp only [VV.kind]
            clear hB
            have cHA := HA.out.2.1
            have cHAN := HAN.out.2.1
            go_wp2_with fail
            refine (class_calls _ _ _ HU.out).mono ?_
            clear cHA cHAN
            rintro e W7 ⟨rfl, hB⟩
            replace HS := Lib.hid (HS.out.below hB)
            replace HU := Lib.hid (HU.out.grow hB)
            replace HA := Lib.hid (HA.out.below hB)
            replace HUN := Lib.hid (HUN.out.grow hB)
            replace HAN := Lib.hid (HAN.out.below hB)
            replace HB := Lib.hid (HB.out.trans (hB.mono HB.out.size))
            simp only [VV.cls]
            clear hB
            have cHA := HA.out.2.1
            have cHAN := HAN.out.2.1
            go_wp2_with fail
            refine (vlen_calls _ _ _ HU.out).mono ?_
            clear cHA cHAN
            rintro e W8 ⟨rfl, hB⟩
            replace HS := Lib.hid (HS.out.below hB)
            replace HU := Lib.hid (HU.out.grow hB)
            replace HA := Lib.hid (HA.out.below hB)
            replace HUN := Lib.hid (HUN.out.grow hB)
            replace HAN := Lib.hid (HAN.out.below hB)
            replace HB := Lib.hid (HB.out.trans (hB.mono HB.out.size))
            simp only [VV.len]
            clear hB
            have cHA := HA.out.2.1
            have cHAN := HAN.out.2.1
            go_wp2_with fail
            refine (vtext_calls _ _ _ HU.out HOK.out).mono ?_
            clear cHA cHAN
            rintro e W9 ⟨vt, rfl, hs, hB⟩
            replace HS := Lib.hid (HS.out.below hB)
            replace HU := Lib.hid (HU.out.grow hB)
            replace HA := Lib.hid (HA.out.below hB)
            replace HUN := Lib.hid (HUN.out.grow hB)
            replace HAN := Lib.hid (HAN.out.below hB)
            replace HB := Lib.hid (HB.out.trans (hB.mono HB.out.size))
            have HTX := Lib.hid (show Slc _ _ _ l.length (i32s l) from hs)
            clear hs
            clear hB
            have cHA := HA.out.2.1
            have cHAN := HAN.out.2.1
            go_wp2_with fail
            refine (runes_same _ _ l _ HTX.out HS.out (by omega)).mono ?_
            clear cHA cHAN
            rintro e W10 ⟨rfl, hB⟩
            replace HS := Lib.hid (HS.out.below hB)
            replace HU := Lib.hid (HU.out.grow hB)
            replace HA := Lib.hid (HA.out.below hB)
            replace HUN := Lib.hid (HUN.out.grow hB)
            replace HAN := Lib.hid (HAN.out.below hB)
            replace HTX := Lib.hid (HTX.out.below hB)
            replace HB := Lib.hid (HB.out.trans (hB.mono HB.out.size))
            clear hB
            have cHA := HA.out.2.1
            have cHAN := HAN.out.2.1
            go_wp2_with fail
            refine (vchar_calls _ _ i _ HU.out).mono ?_
            clear cHA cHAN
            rintro e W11 ⟨rfl, hB⟩
            replace HS := Lib.hid (HS.out.below hB)
            replace HU := Lib.hid (HU.out.grow hB)
            replace HA := Lib.hid (HA.out.below hB)
            replace HUN := Lib.hid (HUN.out.grow hB)
            replace HAN := Lib.hid (HAN.out.below hB)
            replace HTX := Lib.hid (HTX.out.below hB)
            replace HB := Lib.hid (HB.out.trans (hB.mono HB.out.size))
            simp only [VV.text]
            rw [HCH.out]
            clear hB
            have cHA := HA.out.2.1
            have cHAN := HAN.out.2.1
            go_wp2_with fail
            refine (num_calls _ _ 0 _ HU.out).mono ?_
            clear cHA cHAN
            rintro e W12 ⟨rfl, hB⟩
            replace HS := Lib.hid (HS.out.below hB)
            replace HU := Lib.hid (HU.out.grow hB)
            replace HA := Lib.hid (HA.out.below hB)
            replace HUN := Lib.hid (HUN.out.grow hB)
            replace HAN := Lib.hid (HAN.out.below hB)
            replace HTX := Lib.hid (HTX.out.below hB)
            replace HB := Lib.hid (HB.out.trans (hB.mono HB.out.size))
            rw [show atI (VV.chars l).nums 0 0 = 0 by simp [VV.nums, atI]]
            clear hB
            have cHA := HA.out.2.1
            have cHAN := HAN.out.2.1
            go_wp2_with fail
            refine (vnums_calls _ _ _ HU.out HOK.out (fun j hj => keep_below HB.out _ _ (HT.out j hj))).mono ?_
            clear cHA cHAN
            rintro e W13 ⟨vn, rfl, hs, hB⟩
            replace HS := Lib.hid (HS.out.below hB)
            replace HU := Lib.hid (HU.out.grow hB)
            replace HA := Lib.hid (HA.out.below hB)
            replace HUN := Lib.hid (HUN.out.grow hB)
            replace HAN := Lib.hid (HAN.out.below hB)
            replace HTX := Lib.hid (HTX.out.below hB)
            replace HB := Lib.hid (HB.out.trans (hB.mono HB.out.size))
            obtain ⟨an, cn, rfl, _⟩ := hs.opened
            simp only [VV.nums, List.length_nil]
            clear hs
            clear hB
            have cHA := HA.out.2.1
            have cHAN := HAN.out.2.1
            go_wp2_with fail
            refine (kind_calls _ _ _ HUN.out).mono ?_
            clear cHA cHAN
            rintro e W14 ⟨rfl, hB⟩
            replace HS := Lib.hid (HS.out.below hB)
            replace HU := Lib.hid (HU.out.grow hB)
            replace HA := Lib.hid (HA.out.below hB)
            replace HUN := Lib.hid (HUN.out.grow hB)
            replace HAN := Lib.hid (HAN.out.below hB)
            replace HTX := Lib.hid (HTX.out.below hB)
            replace HB := Lib.hid (HB.out.trans (hB.mono HB.out.size))
            rw [noneV_kind, HKN.out]
            clear hB
            have cHA := HA.out.2.1
            have cHAN := HAN.out.2.1
            go_wp2_with fail
            refine (vlen_calls _ _ _ HUN.out).mono ?_
            clear cHA cHAN
            rintro e W15 ⟨rfl, hB⟩
            replace HS := Lib.hid (HS.out.below hB)
            replace HU := Lib.hid (HU.out.grow hB)
            replace HA := Lib.hid (HA.out.below hB)
            replace HUN := Lib.hid (HUN.out.grow hB)
            replace HAN := Lib.hid (HAN.out.below hB)
            replace HTX := Lib.hid (HTX.out.below hB)
            replace HB := Lib.hid (HB.out.trans (hB.mono HB.out.size))
            rw [noneV_len]
            clear hB
            have cHA := HA.out.2.1
            have cHAN := HAN.out.2.1
            go_wp2_with fail
            refine (awake4_calls _).mono ?_
            clear cHA cHAN
            rintro e W16 ⟨rfl, hB⟩
            replace HS := Lib.hid (HS.out.below hB)
            replace HU := Lib.hid (HU.out.grow hB)
            replace HA := Lib.hid (HA.out.below hB)
            replace HUN := Lib.hid (HUN.out.grow hB)
            replace HAN := Lib.hid (HAN.out.below hB)
            replace HTX := Lib.hid (HTX.out.below hB)
            replace HB := Lib.hid (HB.out.trans (hB.mono HB.out.size))
            clear hB
            have cHA := HA.out.2.1
            have cHAN := HAN.out.2.1
            go_wp2
            go_ret
            exact ⟨rfl, HB.out⟩
end Go.Proofs.YtlgaelndboeapaaDoor

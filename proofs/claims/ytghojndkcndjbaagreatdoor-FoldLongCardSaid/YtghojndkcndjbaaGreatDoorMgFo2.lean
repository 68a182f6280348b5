/- Merged: FoE, FoK. -/
import Derived.Test.YtghojndkcndjbaaGreatDoorMgFo1
import Derived.Test.YtghojndkcndjbaaGreatDoorMgKp1
import Derived.Test.YtghojndkcndjbaaGreatDoorMgVe1
/- Layer 13, walked: the reference's Fold. -/
namespace Go.Proofs.YtghojndkcndjbaaGreatDoor
set_option maxRecDepth 100000
open Go.RowKit Fl
set_option linter.unusedVariables false

theorem rfE_yes {f : Int} {l : List Nat} {outer n inner : Nat} (hk : fknown f = true) (h : ¬ (n = 0 ∧ (fstart f).2 = false)) : rfE f l outer n inner = errG (rowN f) (rowsL l outer n inner) := by unfold rfE; rw [if_pos hk, if_neg h]
theorem rfL_bad {f : Int} {l : List Nat} {outer n inner : Nat} (h : rfE f l outer n inner ≠ 0) : rfL f l outer n inner = [] := if_neg h
theorem rfL_yes {f : Int} {l : List Nat} {outer n inner : Nat} (h : rfE f l outer n inner = 0) : rfL f l outer n inner = outG (rowN f) (rowsL l outer n inner) := if_pos h
set_option maxHeartbeats 8000000 in
theorem rffold_calls {ok : Nat → Prop} (f : Int) (v : Value) (l : List Nat) (outer n inner : Nat) (w : World) (hv : Slc w ok v l.length (f64s l)) (hl : l.length = outer * n * inner) (hlm : l.length ≤ 1048576) (hN : ∀ x ∈ l, Num x) (hnm : n ≤ 1048576) (him : inner ≤ 1048576) (hom : outer ≤ 1048576) (hoi : outer * inner ≤ 1048576) :
  Calls Tryz.prog 23 #[.int .i64 f, v, .int .i64 (outer : Int), .int .i64 (n : Int), .int .i64 (inner : Int)] w fun e w' => ∃ v', e = .returned (.tuple #[v', .int .i64 (rfE f l outer n inner)]) ∧ Slc w' (fun b => w.heap.size ≤ b) v' (rfL f l outer n inner).length (f64s (rfL f l outer n inner)) ∧ Below w.heap.size w w' := by
 obtain ⟨E, hEE⟩ : ∃ E : Int, E = rfE f l outer n inner := ⟨_, rfl⟩
 obtain ⟨R, hRR⟩ : ∃ R, R = rfL f l outer n inner := ⟨_, rfl⟩
 rw [← hRR, ← hEE]
 have HRR := Lib.hid hRR; have HEE := Lib.hid hEE; have HV := Lib.hid hv
 have HLL := Lib.hid (And.intro hl hlm)
 have HNM := Lib.hid hN; clear hRR hEE
 obtain ⟨i0, hi, hz0, hz1, hz2⟩ := info_parts info_f64
 have HI0 := Lib.hid (And.intro hi (And.intro hz0 (And.intro hz1 hz2)))
 clear hi hz0 hz1 hz2
 obtain ⟨ao, cap, rfl, _⟩ := hv.opened
 have hst := run_store_float
 by_cases hk : fknown f = true
 rotate_left
 ·have HK := Lib.hid (show fknown f = false by simpa using hk)
  have HE0 := Lib.hid (show rfE f l outer n inner = 1 by unfold rfE; rw [if_neg hk])
  have HR0 := Lib.hid (show R = [] by rw [HRR.out]; exact rfL_bad (by rw [HE0.out]; decide))
  clear hv hl hlm hN hk
  go_enter Tryz.func23, Tryz.ntmps23
  go_wp2_with ((with_reducible refine (rfknown_calls _ _).mono ?_); rintro e w' ⟨rfl, rfl⟩; rw [HK.out])
  go_ret2
  refine ⟨.slice none 0 0, ?_, ?_, Below.refl _ _⟩
  ·(rw [HEE.out, HE0.out]) <;> rfl
  ·rw [HR0.out]; exact Slc.nil _ _
 have HK := Lib.hid hk
 obtain ⟨s, hs⟩ : ∃ s, (fstart f).2 = s := ⟨_, rfl⟩
 have HS := Lib.hid hs
 by_cases h24 : n = 0 ∧ s = false
 ·have HE0 := Lib.hid (show rfE f l outer n inner = 24 by unfold rfE; rw [if_pos hk, if_pos ⟨h24.1, hs.trans h24.2⟩])
  have HR0 := Lib.hid (show R = [] by rw [HRR.out]; exact rfL_bad (by rw [HE0.out]; decide))
  obtain ⟨hn0, hs0⟩ := h24
  subst hs0
  have hb : ((n : Int) == 0) = true := by simp [hn0]
  have h1 : ¬ (outer : Int) < 0 := by omega
  have h2 : ¬ (n : Int) < 0 := by omega
  have h3 : ¬ (inner : Int) < 0 := by omega
  clear hv hl hlm hN hk hs hn0
  go_enter Tryz.func23, Tryz.ntmps23
  go_wp2_with (first | ((with_reducible refine (rfknown_calls _ _).mono ?_); rintro e w' ⟨rfl, rfl⟩; rw [HK.out]) | ((with_reducible refine (rfstart_calls _ _).mono ?_); rintro e w' ⟨rfl, hB⟩; rw [HS.out]))
  go_ret2
  refine ⟨.slice none 0 0, ?_, ?_, hB⟩
  ·(rw [HEE.out, HE0.out]) <;> rfl
  ·rw [HR0.out]; exact Slc.nil _ _
 obtain ⟨P, hP⟩ : ∃ P, rowsL l outer n inner = P := ⟨_, rfl⟩
 have HPL := Lib.hid (show P.length = outer * inner by rw [← hP, rowsL_len])
 have HPG := Lib.hid (show ∀ o k, o < outer → k < inner → P[o * inner + k]? = some (lineG 0 l n inner o k) by intro o k ho hk; rw [← hP]; exact rowsL_get ho hk)
 have HE1 := Lib.hid (show rfE f l outer n inner = errG (rowN f) P by rw [← hP]; exact rfE_yes hk (by rw [hs]; exact h24))
 have HR1 := Lib.hid (show errG (rowN f) P = 0 → R = outG (rowN f) P by intro h; rw [HRR.out, rfL_yes (by rw [HE1.out]; exact h), hP])
 have HOI := Lib.hid hoi; have HIM := Lib.hid him; have HNN := Lib.hid hnm; have HOM := Lib.hid hom
 have h1 : ¬ (outer : Int) < 0 := by omega
 have h2 : ¬ (n : Int) < 0 := by omega
 have h3 : ¬ (inner : Int) < 0 := by omega
 have hb : (((n : Int) == 0) && !s) = false := by
  cases s
  ·have : ((n : Int) == 0) = false := by rw [beq_eq_false_iff_ne]; intro h; exact h24 ⟨by omega, rfl⟩
   simp [this]
  ·simp
 have HST := Lib.hid (show ((n : Int) == 0) = true ∧ s = true ∨ ((n : Int) == 0) = false by
  cases h9 : ((n : Int) == 0) <;> cases s <;> simp_all)
 clear hv hl hlm hN hk hs h24 hP hb hoi hnm
 have go1 : ∀ (wz : World) (hz : Below w.heap.size w wz), True := fun _ _ => trivial
 rcases HST.out with ⟨hb1, hb2⟩ | hb1
 ·subst hb2
  --L
  go_enter Tryz.func23, Tryz.ntmps23
  go_wp2_with (first | ((with_reducible refine (rfknown_calls _ _).mono ?_); rintro e w' ⟨rfl, rfl⟩; rw [HK.out]) | ((with_reducible refine (rfstart_calls _ _).mono ?_); rintro e w' ⟨rfl, hB⟩; rw [HS.out]))
  have HB0 := Lib.hid hB; clear hB
  go_loopw [14, 15] (fun v i wr => ∃ o A : Nat, o ≤ outer ∧ i = .int .i64 o ∧ A = o * inner ∧ errG (rowN f) P = errG (rowN f) (P.drop A) ∧ wr.ownsRow w.heap.size 22 1 v A (f64s (outG (rowN f) (P.take A))) ∧ Below w.heap.size w wr) (fun _ i _ => outer - (intOf i).toNat)
  case atStart => exact ⟨0, 0, by omega, rfl, (Nat.zero_mul _).symm, rfl, World.ownsRow_nil _ _ _ _, HB0.out⟩
  case round =>
   obtain ⟨o, A, ho, rfl, hA, herr, hown, hB⟩ := hrel
   have HO := Lib.hid hown; have HB := Lib.hid hB; have HE := Lib.hid herr; have HA := Lib.hid hA; clear hown hB herr hA
   by_cases hlo : o < outer
   ·have HLO := Lib.hid hlo
    go_wp2_with fail
    go_loopw [14, 16] (fun v i wr => ∃ k q : Nat, k ≤ inner ∧ i = .int .i64 k ∧ q = A + k ∧ errG (rowN f) P = errG (rowN f) (P.drop q) ∧ wr.ownsRow w.heap.size 22 1 v q (f64s (outG (rowN f) (P.take q))) ∧ Below w.heap.size w wr) (fun _ i _ => inner - (intOf i).toNat)
    case atStart => exact ⟨0, A, by omega, rfl, rfl, HE.out, HO.out, HB.out⟩
    case round =>
     obtain ⟨k, q, hk, rfl, hq, herr, hown, hB⟩ := hrel
     have HO := Lib.hid hown; have HB := Lib.hid hB; have HE := Lib.hid herr; have HQ := Lib.hid hq; clear hown hB herr hq
     by_cases hlt : k < inner
     ·have HPQ := Lib.hid (show P[q]? = some (lineG 0 l n inner o k) by rw [HQ.out, HA.out]; exact HPG.out o k HLO.out hlt)
      have HKI := Lib.hid hlt
      have HVW := Lib.hid (HV.out.below HB.out)
      obtain ⟨r, hr⟩ : ∃ r, lineG 0 l n inner o k = r := ⟨_, rfl⟩
      have HRE := Lib.hid hr
      have HRN := Lib.hid (show r.length = n by rw [← hr, lineG_len])
      have HRM := Lib.hid (show ∀ x ∈ r, Num x by rw [← hr]; exact lineG_num HNM.out)
      rw [hr] at HPQ
      obtain ⟨y, hy⟩ : ∃ y, rowN f r = y := ⟨_, rfl⟩
      have HY := Lib.hid hy
      have HES := Lib.hid (show errG (rowN f) (P.drop q) = if y.2 = 0 then errG (rowN f) (P.drop (q + 1)) else y.2 by rw [← hy]; exact errG_step HPQ.out)
      have HTK := Lib.hid (show outG (rowN f) (P.take (q + 1)) = outG (rowN f) (P.take q) ++ [y.1] by rw [← hy]; exact outG_take HPQ.out)
      clear hr hy
      go_wp2_with fail
      refine (rfline_calls _ l outer n inner o k _ HVW.out HLL.out.1 HLL.out.2 HLO.out HKI.out HNN.out HIM.out HOM.out).mono ?_
      rintro e W8 ⟨v8, rfl, hv8, hB8⟩
      rw [HRE.out] at hv8
      have HV8 := Lib.hid (show Slc W8 (fun b => wr.heap.size ≤ b) v8 r.length (f64s r) by rw [HRN.out]; exact hv8)
      have HO8 := Lib.hid (owns_below HO.out hB8)
      have HB8 := Lib.hid (HB.out.trans (hB8.mono HB.out.size))
      clear hB8 hv8
      go_wp2_with fail
      refine (rfrow_calls f v8 r _ HV8.out (by rw [HRN.out]; exact HNN.out) HRM.out).mono ?_
      rintro e W9 ⟨rfl, hB9⟩
      rw [HY.out]
      have HO9 := Lib.hid (owns_below HO8.out hB9)
      have HB9 := Lib.hid (HB8.out.trans (hB9.mono HB8.out.size))
      have HSW := Lib.hid HB9.out.size; clear hB9
      by_cases h0 : y.2 = 0
      ·have HE2 := Lib.hid (show errG (rowN f) P = errG (rowN f) (P.drop (q + 1)) by rw [HE.out, HES.out, if_pos h0])
       have HQM := Lib.hid (show q + 1 ≤ 1048576 by
        obtain ⟨h9, _⟩ := List.getElem?_eq_some_iff.1 HPQ.out
        have := HPL.out; have := HOI.out; omega)
       have HM1 : Hid (q + 1 ≤ maxLen) := Lib.hid (by have := HQM.out; unfold maxLen; omega)
       rw [h0]; clear h0
       go_wp2_with (at_builtin; refine wpList_append_own _ rfl _ _ 38 rfl w.heap.size 22 i0 (.float .f64 0) 1 8 Tryz.underlying38 HI0.out.1 HI0.out.2.1 HI0.out.2.2.1 HI0.out.2.2.2 rfl (by decide) _ _ _ rfl (HO9.out.alloc _) ⟨W9.heap.size, 0, none⟩ 1 1 [.float .f64 y.1] rfl rfl ?c1 ?c2 HM1.out ?c4 ?c5 ?_)
       case c1 =>
        intro j u hj
        match j, hj with
        | 0, hj => simp at hj; subst hj; simp [Addr.add]
       case c2 => intro u hu; simp at hu; subst hu; rfl
       case c4 => have := HQM.out; omega
       case c5 => have := HSW.out; simp <;> omega
       intro v' w3 hown' hgrow _
       have HO3 := Lib.hid hown'
       have HB3 := Lib.hid (grown_below (HB9.out.alloc HSW.out _) (HO9.out.alloc _) (Nat.le_refl _) (by have := HSW.out; simp <;> omega) hgrow)
       clear hown' hgrow
       have him := HIM.out
       go_wp2
       go_roundw
       case rel =>
        refine ⟨k + 1, q + 1, by omega, by go_num, by have := HQ.out; omega, HE2.out, ?_, HB3.out⟩
        have := HO3.out
        rw [HTK.out]
        simpa [f64s] using this
       case measure => simp [intOf]; omega
      ·obtain ⟨er, her⟩ : ∃ er, y.2 = er := ⟨_, rfl⟩
       have HE2 := Lib.hid (show errG (rowN f) P = er by rw [HE.out, HES.out, if_neg h0, her])
       have hne : (er != 0) = true := by rw [← her]; simp [h0]
       have HNE := Lib.hid (show er ≠ 0 by rw [← her]; exact h0)
       have HR0 := Lib.hid (show R = [] by rw [HRR.out]; exact rfL_bad (by rw [HE1.out, HE2.out]; exact HNE.out))
       rw [her]; clear h0 her
       go_wp2
       go_ret2
       refine ⟨.slice none 0 0, ?_, ?_, HB9.out⟩
       ·(rw [HEE.out, HE1.out, HE2.out]) <;> rfl
       ·rw [HR0.out]; exact Slc.nil _ _
     ·have hki : k = inner := by omega
      have HQ2 := Lib.hid (show q = (o + 1) * inner by rw [HQ.out, hki, HA.out, Nat.add_mul, Nat.one_mul])
      clear hki; have hom := HOM.out
      go_wp2
      go_roundw
      case rel => exact ⟨o + 1, q, by omega, by go_num, HQ2.out, HE.out, HO.out, HB.out⟩
      case measure => simp [intOf]; omega
   ·have hoo : o = outer := by omega
    have HAL := Lib.hid (show A = P.length by rw [HPL.out, HA.out, hoo])
    have HE2 := Lib.hid (show errG (rowN f) P = 0 by rw [HE.out, HAL.out, List.drop_length]; rfl)
    have HR0 := Lib.hid (HR1.out HE2.out)
    have HL := Lib.hid (show Slc wr (fun b => w.heap.size ≤ b) _ (outG (rowN f) P).length (f64s (outG (rowN f) P)) by
     have := Slc.owned HO.out
     rw [HAL.out, List.take_length] at this
     rwa [outG_len])
    clear hoo
    go_wp2
    go_ret2
    refine ⟨u14, ?_, ?_, HB.out⟩
    rotate_left
    ·rw [HR0.out]; exact HL.out
    ·(rw [HEE.out, HE1.out, HE2.out]) <;> rfl
 ·clear HST
  --L
  go_enter Tryz.func23, Tryz.ntmps23
  go_wp2_with (first | ((with_reducible refine (rfknown_calls _ _).mono ?_); rintro e w' ⟨rfl, rfl⟩; rw [HK.out]) | ((with_reducible refine (rfstart_calls _ _).mono ?_); rintro e w' ⟨rfl, hB⟩; rw [HS.out]))
  have HB0 := Lib.hid hB; clear hB
  go_loopw [14, 15] (fun v i wr => ∃ o A : Nat, o ≤ outer ∧ i = .int .i64 o ∧ A = o * inner ∧ errG (rowN f) P = errG (rowN f) (P.drop A) ∧ wr.ownsRow w.heap.size 22 1 v A (f64s (outG (rowN f) (P.take A))) ∧ Below w.heap.size w wr) (fun _ i _ => outer - (intOf i).toNat)
  case atStart => exact ⟨0, 0, by omega, rfl, (Nat.zero_mul _).symm, rfl, World.ownsRow_nil _ _ _ _, HB0.out⟩
  case round =>
   obtain ⟨o, A, ho, rfl, hA, herr, hown, hB⟩ := hrel
   have HO := Lib.hid hown; have HB := Lib.hid hB; have HE := Lib.hid herr; have HA := Lib.hid hA; clear hown hB herr hA
   by_cases hlo : o < outer
   ·have HLO := Lib.hid hlo
    go_wp2_with fail
    go_loopw [14, 16] (fun v i wr => ∃ k q : Nat, k ≤ inner ∧ i = .int .i64 k ∧ q = A + k ∧ errG (rowN f) P = errG (rowN f) (P.drop q) ∧ wr.ownsRow w.heap.size 22 1 v q (f64s (outG (rowN f) (P.take q))) ∧ Below w.heap.size w wr) (fun _ i _ => inner - (intOf i).toNat)
    case atStart => exact ⟨0, A, by omega, rfl, rfl, HE.out, HO.out, HB.out⟩
    case round =>
     obtain ⟨k, q, hk, rfl, hq, herr, hown, hB⟩ := hrel
     have HO := Lib.hid hown; have HB := Lib.hid hB; have HE := Lib.hid herr; have HQ := Lib.hid hq; clear hown hB herr hq
     by_cases hlt : k < inner
     ·have HPQ := Lib.hid (show P[q]? = some (lineG 0 l n inner o k) by rw [HQ.out, HA.out]; exact HPG.out o k HLO.out hlt)
      have HKI := Lib.hid hlt
      have HVW := Lib.hid (HV.out.below HB.out)
      obtain ⟨r, hr⟩ : ∃ r, lineG 0 l n inner o k = r := ⟨_, rfl⟩
      have HRE := Lib.hid hr
      have HRN := Lib.hid (show r.length = n by rw [← hr, lineG_len])
      have HRM := Lib.hid (show ∀ x ∈ r, Num x by rw [← hr]; exact lineG_num HNM.out)
      rw [hr] at HPQ
      obtain ⟨y, hy⟩ : ∃ y, rowN f r = y := ⟨_, rfl⟩
      have HY := Lib.hid hy
      have HES := Lib.hid (show errG (rowN f) (P.drop q) = if y.2 = 0 then errG (rowN f) (P.drop (q + 1)) else y.2 by rw [← hy]; exact errG_step HPQ.out)
      have HTK := Lib.hid (show outG (rowN f) (P.take (q + 1)) = outG (rowN f) (P.take q) ++ [y.1] by rw [← hy]; exact outG_take HPQ.out)
      clear hr hy
      go_wp2_with fail
      refine (rfline_calls _ l outer n inner o k _ HVW.out HLL.out.1 HLL.out.2 HLO.out HKI.out HNN.out HIM.out HOM.out).mono ?_
      rintro e W8 ⟨v8, rfl, hv8, hB8⟩
      rw [HRE.out] at hv8
      have HV8 := Lib.hid (show Slc W8 (fun b => wr.heap.size ≤ b) v8 r.length (f64s r) by rw [HRN.out]; exact hv8)
      have HO8 := Lib.hid (owns_below HO.out hB8)
      have HB8 := Lib.hid (HB.out.trans (hB8.mono HB.out.size))
      clear hB8 hv8
      go_wp2_with fail
      refine (rfrow_calls f v8 r _ HV8.out (by rw [HRN.out]; exact HNN.out) HRM.out).mono ?_
      rintro e W9 ⟨rfl, hB9⟩
      rw [HY.out]
      have HO9 := Lib.hid (owns_below HO8.out hB9)
      have HB9 := Lib.hid (HB8.out.trans (hB9.mono HB8.out.size))
      have HSW := Lib.hid HB9.out.size; clear hB9
      by_cases h0 : y.2 = 0
      ·have HE2 := Lib.hid (show errG (rowN f) P = errG (rowN f) (P.drop (q + 1)) by rw [HE.out, HES.out, if_pos h0])
       have HQM := Lib.hid (show q + 1 ≤ 1048576 by
        obtain ⟨h9, _⟩ := List.getElem?_eq_some_iff.1 HPQ.out
        have := HPL.out; have := HOI.out; omega)
       have HM1 : Hid (q + 1 ≤ maxLen) := Lib.hid (by have := HQM.out; unfold maxLen; omega)
       rw [h0]; clear h0
       go_wp2_with (at_builtin; refine wpList_append_own _ rfl _ _ 38 rfl w.heap.size 22 i0 (.float .f64 0) 1 8 Tryz.underlying38 HI0.out.1 HI0.out.2.1 HI0.out.2.2.1 HI0.out.2.2.2 rfl (by decide) _ _ _ rfl (HO9.out.alloc _) ⟨W9.heap.size, 0, none⟩ 1 1 [.float .f64 y.1] rfl rfl ?c1 ?c2 HM1.out ?c4 ?c5 ?_)
       case c1 =>
        intro j u hj
        match j, hj with
        | 0, hj => simp at hj; subst hj; simp [Addr.add]
       case c2 => intro u hu; simp at hu; subst hu; rfl
       case c4 => have := HQM.out; omega
       case c5 => have := HSW.out; simp <;> omega
       intro v' w3 hown' hgrow _
       have HO3 := Lib.hid hown'
       have HB3 := Lib.hid (grown_below (HB9.out.alloc HSW.out _) (HO9.out.alloc _) (Nat.le_refl _) (by have := HSW.out; simp <;> omega) hgrow)
       clear hown' hgrow
       have him := HIM.out
       go_wp2
       go_roundw
       case rel =>
        refine ⟨k + 1, q + 1, by omega, by go_num, by have := HQ.out; omega, HE2.out, ?_, HB3.out⟩
        have := HO3.out
        rw [HTK.out]
        simpa [f64s] using this
       case measure => simp [intOf]; omega
      ·obtain ⟨er, her⟩ : ∃ er, y.2 = er := ⟨_, rfl⟩
       have HE2 := Lib.hid (show errG (rowN f) P = er by rw [HE.out, HES.out, if_neg h0, her])
       have hne : (er != 0) = true := by rw [← her]; simp [h0]
       have HNE := Lib.hid (show er ≠ 0 by rw [← her]; exact h0)
       have HR0 := Lib.hid (show R = [] by rw [HRR.out]; exact rfL_bad (by rw [HE1.out, HE2.out]; exact HNE.out))
       rw [her]; clear h0 her
       go_wp2
       go_ret2
       refine ⟨.slice none 0 0, ?_, ?_, HB9.out⟩
       ·(rw [HEE.out, HE1.out, HE2.out]) <;> rfl
       ·rw [HR0.out]; exact Slc.nil _ _
     ·have hki : k = inner := by omega
      have HQ2 := Lib.hid (show q = (o + 1) * inner by rw [HQ.out, hki, HA.out, Nat.add_mul, Nat.one_mul])
      clear hki; have hom := HOM.out
      go_wp2
      go_roundw
      case rel => exact ⟨o + 1, q, by omega, by go_num, HQ2.out, HE.out, HO.out, HB.out⟩
      case measure => simp [intOf]; omega
   ·have hoo : o = outer := by omega
    have HAL := Lib.hid (show A = P.length by rw [HPL.out, HA.out, hoo])
    have HE2 := Lib.hid (show errG (rowN f) P = 0 by rw [HE.out, HAL.out, List.drop_length]; rfl)
    have HR0 := Lib.hid (HR1.out HE2.out)
    have HL := Lib.hid (show Slc wr (fun b => w.heap.size ≤ b) _ (outG (rowN f) P).length (f64s (outG (rowN f) P)) by
     have := Slc.owned HO.out
     rw [HAL.out, List.take_length] at this
     rwa [outG_len])
    clear hoo
    go_wp2
    go_ret2
    refine ⟨u14, ?_, ?_, HB.out⟩
    rotate_left
    ·rw [HR0.out]; exact HL.out
    ·(rw [HEE.out, HE1.out, HE2.out]) <;> rfl
end Go.Proofs.YtghojndkcndjbaaGreatDoor

/- Layer 13's laws: awake. -/
namespace Go.Proofs.YtghojndkcndjbaaGreatDoor
set_option maxRecDepth 100000
open Go.RowKit Fl
set_option linter.unusedVariables false

def Yes13 (w : World) (e : Ending) (w' : World) : Prop := e = .returned (.bool true) ∧ Below w.heap.size w w'
theorem aw13_fin : ∀ x ∈ ([4607182418800017408, 4611686018427387904, 4613937818241073152, 4616189618054758400] : List Nat), Fnt x := by
 intro x hx
 simp only [List.mem_cons, List.not_mem_nil, or_false] at hx
 rcases hx with rfl | rfl | rfl | rfl <;> exact ⟨by decide, by decide⟩
theorem aw13_ze : ([4607182418800017408, 4611686018427387904, 4613937818241073152, 4616189618054758400] : List Nat).map ze = [4607182418800017408, 4611686018427387904, 4613937818241073152, 4616189618054758400] := by decide +kernel
theorem fone_rs1 (a b : Nat) : fone 1 a b = rs (addw a b) := by rw [fone_a a b (by decide)]; unfold oneA; rw [if_pos rfl]
theorem fone_rs2 (a b : Nat) : fone 2 a b = rs (subw a b) := by rw [fone_a a b (by decide)]; unfold oneA; rw [if_neg (by decide), if_pos rfl]
theorem aw13_a : errG (rowN 1) (rowsL [4607182418800017408, 4611686018427387904, 4613937818241073152, 4616189618054758400] 1 4 1) = 0 ∧ outG (rowN 1) (rowsL [4607182418800017408, 4611686018427387904, 4613937818241073152, 4616189618054758400] 1 4 1) = [4621819117588971520] := by
 have e1 : rs (addw 4613937818241073152 4616189618054758400) = (4619567317775286272, 0) := by decide +kernel
 have e2 : rs (addw 4611686018427387904 4619567317775286272) = (4621256167635550208, 0) := by decide +kernel
 have e3 : rs (addw 4607182418800017408 4621256167635550208) = (4621819117588971520, 0) := by decide +kernel
 have hr : rowN 1 [4607182418800017408, 4611686018427387904, 4613937818241073152, 4616189618054758400] = (4621819117588971520, 0) := by
  rw [rowN_cons 1 _ (by simp), rowN_cons 1 _ (by simp), rowN_cons 1 _ (by simp)]
  have h0 : rowN 1 [4616189618054758400] = (4616189618054758400, 0) := rfl
  rw [h0]
  simp only [fone_rs1, e1, e2, e3, nrm, if_true]
 have hl : rowsL [4607182418800017408, 4611686018427387904, 4613937818241073152, 4616189618054758400] 1 4 1 = [[4607182418800017408, 4611686018427387904, 4613937818241073152, 4616189618054758400]] := by decide +kernel
 rw [hl]
 refine ⟨errG_all fun r h => ?_, ?_⟩
 ·rw [List.mem_singleton.1 h, hr]
 ·show [(rowN 1 [4607182418800017408, 4611686018427387904, 4613937818241073152, 4616189618054758400]).1] = _
  rw [hr]
theorem aw13_b : errG (rowN 2) (rowsL [4607182418800017408, 4611686018427387904, 4613937818241073152, 4616189618054758400] 2 2 1) = 0 ∧ outG (rowN 2) (rowsL [4607182418800017408, 4611686018427387904, 4613937818241073152, 4616189618054758400] 2 2 1) = [13830554455654793216, 13830554455654793216] := by
 have e1 : rs (subw 4607182418800017408 4611686018427387904) = (13830554455654793216, 0) := by decide +kernel
 have e2 : rs (subw 4613937818241073152 4616189618054758400) = (13830554455654793216, 0) := by decide +kernel
 have h1 : rowN 2 [4607182418800017408, 4611686018427387904] = (13830554455654793216, 0) := by
  rw [rowN_cons 2 _ (by simp)]
  have h0 : rowN 2 [4611686018427387904] = (4611686018427387904, 0) := rfl
  rw [h0]
  simp only [fone_rs2, e1, nrm, if_true]
 have h2 : rowN 2 [4613937818241073152, 4616189618054758400] = (13830554455654793216, 0) := by
  rw [rowN_cons 2 _ (by simp)]
  have h0 : rowN 2 [4616189618054758400] = (4616189618054758400, 0) := rfl
  rw [h0]
  simp only [fone_rs2, e2, nrm, if_true]
 have hl : rowsL [4607182418800017408, 4611686018427387904, 4613937818241073152, 4616189618054758400] 2 2 1 = [[4607182418800017408, 4611686018427387904], [4613937818241073152, 4616189618054758400]] := by decide +kernel
 rw [hl]
 refine ⟨errG_all fun r h => ?_, ?_⟩
 ·rcases List.mem_cons.1 h with h | h
  ·rw [h, h1]
  ·rw [List.mem_singleton.1 h, h2]
 ·show [(rowN 2 _).1, (rowN 2 _).1] = _
  rw [h1, h2]
theorem aw13 {V : VV} (h : KepK [4607182418800017408, 4611686018427387904, 4613937818241073152, 4616189618054758400] V) : V.len = 4 ∧ (foE 1 V 1 4 1 = 0 ∧ (foV 1 V 1 4 1).nums = [4621819117588971520] ∧ (foV 1 V 1 4 1).ok) ∧ (foE 2 V 2 2 1 = 0 ∧ (foV 2 V 2 2 1).nums = [13830554455654793216, 13830554455654793216] ∧ (foV 2 V 2 2 1).ok) := by
 obtain ⟨⟨h1, h2, h3, h4, h5⟩, h6⟩ := h
 have ea : foE 1 V 1 4 1 = 0 := by rw [foE_num (by decide) h3 (by decide) (by decide), h4]; exact aw13_a.1
 have eb : foE 2 V 2 2 1 = 0 := by rw [foE_num (by decide) h3 (by decide) (by decide), h4]; exact aw13_b.1
 obtain ⟨a1, a2, _⟩ := fold_meetV h1 h2 h3 (show V.nums.length = 1 * 4 * 1 by rw [h4]; rfl) (by decide) ea
 obtain ⟨b1, b2, _⟩ := fold_meetV h1 h2 h3 (show V.nums.length = 2 * 2 * 1 by rw [h4]; rfl) (by decide) eb
 refine ⟨h5, ⟨ea, ?_, a2⟩, ⟨eb, ?_, b2⟩⟩
 ·rw [a1, rfL_yes (by rw [← fold_meet h3 (by rw [h4]; rfl)]; exact ea), h4]; exact aw13_a.2
 ·rw [b1, rfL_yes (by rw [← fold_meet h3 (by rw [h4]; rfl)]; exact eb), h4]; exact aw13_b.2
theorem fofold_at {ok : Nat → Prop} (f : Int) (u : Value) (V : VV) (outer n inner : Nat) (o nn ii : Int) (w : World) (ho : o = (outer : Int)) (hn : nn = (n : Int)) (hi : ii = (inner : Int)) (hA : IsV w ok u V) (oA : V.ok) (nA : V.nm) (hl : V.len = outer * n * inner) (hno : n ≤ 1048576) (him : inner ≤ 1048576) (hom : outer ≤ 1048576) (hoi : outer * inner ≤ 1048576) (hT : TabAt w) :
  Calls Tryz.prog 22 #[.int .i64 f, .agg #[u], .int .i64 o, .int .i64 nn, .int .i64 ii] w fun e w' => ∃ u', e = .returned (.tuple #[.agg #[u'], .int .i64 (foE f V outer n inner)]) ∧ IsV w' (fun b => ok b ∨ w.heap.size ≤ b) u' (foV f V outer n inner) ∧ Below w.heap.size w w' := by
 subst ho hn hi
 exact fofold_calls f u V outer n inner w hA oA nA hl hno him hom hoi hT
set_option maxHeartbeats 8000000 in
theorem awake13_calls (w : World) (hT : TabAt w) : Calls Tryz.prog 13 #[] w (Yes13 w) := by
 obtain ⟨W1, hW1⟩ : ∃ W1, W1 = w.alloc (.cells #[.float .f64 4607182418800017408, .float .f64 4611686018427387904, .float .f64 4613937818241073152, .float .f64 4616189618054758400] 22) := ⟨_, rfl⟩
 have HB := Lib.hid (show Below w.heap.size w W1 by rw [hW1]; exact below_new _ _)
 have HV := Lib.hid (show Slc W1 (fun _ => True) (.slice (some ⟨w.heap.size, 0, none⟩) 4 4) [4607182418800017408, 4611686018427387904, 4613937818241073152, 4616189618054758400].length (f64s [4607182418800017408, 4611686018427387904, 4613937818241073152, 4616189618054758400]) by
  rw [hW1]; exact (Slc.owned (World.ownsRow_lit (base := 0) (e := 22) (size := 1) w #[.float .f64 4607182418800017408, .float .f64 4611686018427387904, .float .f64 4613937818241073152, .float .f64 4616189618054758400] 4 (Nat.zero_le _) (by unfold maxLen; omega) rfl)).keep (Kept.refl _ _) (fun _ _ _ => trivial))
 have HT := Lib.hid (show TabAt W1 from fun j hj => keep_below HB.out _ _ (hT j hj))
 have hfold := hW1.symm
 clear hW1 hT
 go_enter Tryz.func13, Tryz.ntmps13
 go_wp2_with fail
 clear hfold
 refine (kept13_yes _ [4607182418800017408, 4611686018427387904, 4613937818241073152, 4616189618054758400] 2 _ HV.out (by decide) aw13_fin HT.out).mono ?_
 rintro e W11 ⟨u, V, rfl, hu, hk, hB⟩
 replace HB := cb hB HB; replace HT := HT.go hB; replace HV := HV.go hB; have HU := Lib.hid (IsV.any hu)
 have HK := Lib.hid (show KepK [4607182418800017408, 4611686018427387904, 4613937818241073152, 4616189618054758400] V from hk _ (congrArg some aw13_ze))
 have hsu := hu.store; clear hu hk; clear hB; clear HV
 obtain ⟨W12, hWn, hB, hNB⟩ := ahd1 W11 (u) 35
 replace HB := cb hB HB; replace HT := HT.go hB; replace HU := HU.go hB; have HA := Lib.hid hNB; clear hNB hB; have cHA0 := HA.out.2.1
 go_wp2_with fail
 clear hWn
 have HS := Lib.hid (aw13 HK.out)
 refine (fofold_at 1 _ V 1 4 1 _ _ _ _ rfl rfl rfl HU.out HK.out.1.1 HK.out.1.2.1 (by rw [HS.out.1]) (by decide) (by decide) (by decide) (by decide) HT.out).mono ?_
 rintro e W13 ⟨ua, rfl, hua, hB⟩
 clear cHA0; replace HB := cb hB HB; replace HT := HT.go hB; replace HU := HU.go hB; replace HA := HA.go hB
 rw [HS.out.2.1.1]
 have HUA := Lib.hid (IsV.any hua); have hsua := hua.store; clear hua; clear hB
 obtain ⟨W14, hWn, hB, hNB⟩ := ahd1 W13 (ua) 35
 replace HB := cb hB HB; replace HT := HT.go hB; replace HU := HU.go hB; replace HA := HA.go hB; replace HUA := HUA.go hB; have HAA := Lib.hid hNB; clear hNB hB; have cHA0 := HA.out.2.1; have cHAA0 := HAA.out.2.1
 go_wp2_with fail
 clear hWn
 refine (fofold_at 2 _ V 2 2 1 _ _ _ _ rfl rfl rfl HU.out HK.out.1.1 HK.out.1.2.1 (by rw [HS.out.1]) (by decide) (by decide) (by decide) (by decide) HT.out).mono ?_
 rintro e W15 ⟨ub, rfl, hub, hB⟩
 clear cHA0 cHAA0; replace HB := cb hB HB; replace HT := HT.go hB; replace HU := HU.go hB; replace HA := HA.go hB; replace HUA := HUA.go hB; replace HAA := HAA.go hB
 rw [HS.out.2.2.1]
 have HUB := Lib.hid (IsV.any hub); have hsub := hub.store; clear hub; clear hB
 obtain ⟨W16, hWn, hB, hNB⟩ := ahd1 W15 (ub) 35
 replace HB := cb hB HB; replace HT := HT.go hB; replace HU := HU.go hB; replace HA := HA.go hB; replace HUA := HUA.go hB; replace HAA := HAA.go hB; replace HUB := HUB.go hB; have HBB := Lib.hid hNB; clear hNB hB; have cHA0 := HA.out.2.1; have cHAA0 := HAA.out.2.1; have cHBB0 := HBB.out.2.1
 go_wp2_with fail
 clear hWn
 refine (vnums_calls _ (foV 1 V 1 4 1) _ HUA.out HS.out.2.1.2.2 HT.out).mono ?_
 rintro e W17 ⟨va, rfl, hva, hB⟩
 clear cHA0 cHAA0 cHBB0; replace HB := cb hB HB; replace HT := HT.go hB; replace HU := HU.go hB; replace HA := HA.go hB; replace HUA := HUA.go hB; replace HAA := HAA.go hB; replace HUB := HUB.go hB; replace HBB := HBB.go hB
 rw [HS.out.2.1.2.1] at hva
 have Hva := Lib.hid hva.any; clear hva; clear hB; have cHA0 := HA.out.2.1; have cHAA0 := HAA.out.2.1; have cHBB0 := HBB.out.2.1
 go_wp2_with fail
 obtain ⟨W18, hWn⟩ : ∃ xw9, W17.alloc (.cells #[.float .f64 4621819117588971520] 22) = xw9 := ⟨_, rfl⟩
 have hB : Below W17.heap.size W17 W18 := by rw [← hWn]; exact below_new _ _
 have hNB : Slc W18 (fun _ => True) (.slice (some ⟨W17.heap.size, 0, none⟩) 1 1) 1 (f64s [4621819117588971520]) := by
  rw [← hWn]; exact (Slc.owned (World.ownsRow_lit (base := 0) (e := 22) (size := 1) W17 #[.float .f64 4621819117588971520] 1 (Nat.zero_le _) (by unfold maxLen; omega) rfl)).keep (Kept.refl _ _) (fun _ _ _ => trivial)
 rw [hWn]; clear hWn; clear cHA0 cHAA0 cHBB0; replace HB := cb hB HB; replace HT := HT.go hB; replace HU := HU.go hB; replace HA := HA.go hB; replace HUA := HUA.go hB; replace HAA := HAA.go hB; replace HUB := HUB.go hB; replace HBB := HBB.go hB; replace Hva := Hva.go hB; have HLva := Lib.hid hNB; clear hNB hB
 refine (floats_same _ _ [4621819117588971520] _ Hva.out HLva.out (by decide) (by intro x hx; simp only [List.mem_cons, List.not_mem_nil, or_false] at hx; subst hx; exact ⟨⟨by decide, by decide⟩, by decide +kernel⟩)).mono ?_
 rintro e W19 ⟨rfl, hB⟩
 replace HB := cb hB HB; replace HT := HT.go hB; replace HU := HU.go hB; replace HA := HA.go hB; replace HUA := HUA.go hB; replace HAA := HAA.go hB; replace HUB := HUB.go hB; replace HBB := HBB.go hB; replace Hva := Hva.go hB; replace HLva := HLva.go hB; clear hB; have cHA0 := HA.out.2.1; have cHAA0 := HAA.out.2.1; have cHBB0 := HBB.out.2.1
 go_wp2_with fail
 refine (vnums_calls _ (foV 2 V 2 2 1) _ HUB.out HS.out.2.2.2.2 HT.out).mono ?_
 rintro e W20 ⟨vb, rfl, hvb, hB⟩
 clear cHA0 cHAA0 cHBB0; replace HB := cb hB HB; replace HT := HT.go hB; replace HU := HU.go hB; replace HA := HA.go hB; replace HUA := HUA.go hB; replace HAA := HAA.go hB; replace HUB := HUB.go hB; replace HBB := HBB.go hB; replace Hva := Hva.go hB; replace HLva := HLva.go hB
 rw [HS.out.2.2.2.1] at hvb
 have Hvb := Lib.hid hvb.any; clear hvb; clear hB; have cHA0 := HA.out.2.1; have cHAA0 := HAA.out.2.1; have cHBB0 := HBB.out.2.1
 go_wp2_with fail
 obtain ⟨W21, hWn⟩ : ∃ xw9, W20.alloc (.cells #[.float .f64 13830554455654793216, .float .f64 13830554455654793216] 22) = xw9 := ⟨_, rfl⟩
 have hB : Below W20.heap.size W20 W21 := by rw [← hWn]; exact below_new _ _
 have hNB : Slc W21 (fun _ => True) (.slice (some ⟨W20.heap.size, 0, none⟩) 2 2) 2 (f64s [13830554455654793216, 13830554455654793216]) := by
  rw [← hWn]; exact (Slc.owned (World.ownsRow_lit (base := 0) (e := 22) (size := 1) W20 #[.float .f64 13830554455654793216, .float .f64 13830554455654793216] 2 (Nat.zero_le _) (by unfold maxLen; omega) rfl)).keep (Kept.refl _ _) (fun _ _ _ => trivial)
 rw [hWn]; clear hWn; clear cHA0 cHAA0 cHBB0; replace HB := cb hB HB; replace HT := HT.go hB; replace HU := HU.go hB; replace HA := HA.go hB; replace HUA := HUA.go hB; replace HAA := HAA.go hB; replace HUB := HUB.go hB; replace HBB := HBB.go hB; replace Hva := Hva.go hB; replace HLva := HLva.go hB; replace Hvb := Hvb.go hB; have HLvb := Lib.hid hNB; clear hNB hB
 refine (floats_same _ _ [13830554455654793216, 13830554455654793216] _ Hvb.out HLvb.out (by decide) (by intro x hx; simp only [List.mem_cons, List.not_mem_nil, or_false, or_self] at hx; subst hx; exact ⟨⟨by decide, by decide⟩, by decide +kernel⟩)).mono ?_
 rintro e W22 ⟨rfl, hB⟩
 replace HB := cb hB HB; replace HT := HT.go hB; replace HU := HU.go hB; replace HA := HA.go hB; replace HUA := HUA.go hB; replace HAA := HAA.go hB; replace HUB := HUB.go hB; replace HBB := HBB.go hB; replace Hva := Hva.go hB; replace HLva := HLva.go hB; replace Hvb := Hvb.go hB; replace HLvb := HLvb.go hB; clear hB; have cHA0 := HA.out.2.1; have cHAA0 := HAA.out.2.1; have cHBB0 := HBB.out.2.1
 go_wp2_with fail
 go_ret
 exact ⟨rfl, HB.out⟩
end Go.Proofs.YtghojndkcndjbaaGreatDoor

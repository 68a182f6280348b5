/- The reference of layer 19: Find, Firsts, Without. Written by tools/gen_haa.py. -/
import Derived.Test.YtbdhibcbpgjbmaaGreatDoorHaM
import Derived.Test.YtbdhibcbpgjbmaaGreatDoorFlN
import Derived.Test.YtbdhibcbpgjbmaaGreatDoorVaE
import Derived.Test.YtbdhibcbpgjbmaaGreatDoorRxD
namespace Go.Proofs.YtbdhibcbpgjbmaaGreatDoor
set_option maxRecDepth 100000
open Go.RowKit Fl
set_option linter.unusedVariables false

/-- Items whose numbers are numbers, all the way down. -/
def okI (d : Nat) (x : PI) : Prop := Num x.2.1 ∧ ∀ q ∈ x.2.2.2, nice d q
set_option maxHeartbeats 4000000 in
theorem rfind19_calls (d : Nat) {ok ok2 : Nat → Prop} (lv : Value) (l : List PI) (x : PI) (bo : Option Addr) (bc : Nat) (w : World) (hl : Its w ok lv l) (hm : l.length ≤ 1048576) (hL : ∀ y ∈ l, okI d y) (hX : okI d x) (hx : IsB w ok2 (.slice bo x.2.2.2.length bc) x.2.2.2) :
  Calls Tryz.prog 9 #[lv, .agg #[.int .i64 x.1, .float .f64 x.2.1, .int .i32 x.2.2.1, .slice bo x.2.2.2.length bc]] w fun e w' => e = .returned (.int .i64 (fndI l x : Int)) ∧ Below w.heap.size w w' := by
 obtain ⟨ao, cap, rfl, _, _⟩ := hl.len
 obtain ⟨W1, hW1⟩ : ∃ W1, W1 = w.alloc (.cells #[.int .i64 x.1, .float .f64 x.2.1, .int .i32 x.2.2.1, .slice bo x.2.2.2.length bc] 34) := ⟨_, rfl⟩
 have HB := Lib.hid (show Below w.heap.size w W1 by rw [hW1]; exact below_new _ _)
 have HX4 := Lib.hid (show Blk4 W1 w.heap.size (.int .i64 x.1) (.float .f64 x.2.1) (.int .i32 x.2.2.1) (.slice bo x.2.2.2.length bc) by rw [hW1]; exact Blk4.new w _ _ _ _ _)
 have HL := Lib.hid (show Its W1 ok _ l from hl.grow HB.out)
 have HBX := Lib.hid (show IsB W1 ok2 _ x.2.2.2 from hx.grow HB.out)
 have HOL := Lib.hid hL; have HOX := Lib.hid hX
 obtain ⟨n, hn⟩ : ∃ n, l.length = n := ⟨_, rfl⟩
 have HN := Lib.hid hn
 rw [hn] at hm HL ⊢
 have hfold := hW1.symm
 obtain ⟨g, hg⟩ : ∃ g, w.heap.size = g := ⟨_, rfl⟩
 have HG := Lib.hid hg
 rw [hg] at HB HX4
 clear hl hx hL hX hW1 hn
 go_enter Tryz.func9, Tryz.ntmps9
 go_wp2_with fail
 (try rw [hg])
 clear hfold hg
 go_loopw [5] (fun iv wr => ∃ k : Nat, k ≤ n ∧ iv = .int .i64 k ∧ (∀ (j : Nat) (y : PI), j < k → l[j]? = some y → iq y x = false) ∧ Below g W1 wr ∧ W1.heap.size ≤ wr.heap.size ∧ Below W1.heap.size W1 wr) (fun iv _ => n - (intOf iv).toNat)
 case atStart => exact ⟨0, by omega, rfl, fun j y h => absurd h (by omega), Below.refl _ _, Nat.le_refl _, Below.refl _ _⟩
 case round => 
  obtain ⟨k, hk, rfl, hno, hB1, hS1, hB2⟩ := hrel
  have HNO := Lib.hid hno; have HB1 := Lib.hid hB1; have HB2 := Lib.hid hB2; clear hno hB1 hS1 hB2
  by_cases hlt : k < n
  ·obtain ⟨y, hy⟩ : ∃ y, l[k]? = some y := ⟨_, List.getElem?_eq_getElem (by rw [HN.out]; exact hlt)⟩
   have HY := Lib.hid hy
   have HOY := Lib.hid (HOL.out y (List.mem_of_getElem? hy))
   obtain ⟨lb, loff, lbo, lbc, rfl, _, d0, d1, d2, d3, hby⟩ := (HL.out.grow HB2.out).at HY.out
   have HBY := Lib.hid hby
   have HX5 := Lib.hid (HX4.out.below HB2.out)
   have HBX5 := Lib.hid (HBX.out.grow HB2.out)
   obtain ⟨bb, hbb⟩ : ∃ bb, iq y x = bb := ⟨_, rfl⟩
   have HBB := Lib.hid hbb; clear hy hby hbb
   go_wp2_with fail
   obtain ⟨W11, hWD, hB⟩ := drwn wr
   have HC := Lib.hid (show W11.cell? ⟨lb, loff + k * 4, none⟩ = some (.int .i64 y.1) ∧ W11.cell? ⟨lb, loff + k * 4 + 1, none⟩ = some (.float .f64 y.2.1) ∧ W11.cell? ⟨lb, loff + k * 4 + 2, none⟩ = some (.int .i32 y.2.2.1) ∧ W11.cell? ⟨lb, loff + k * 4 + 3, none⟩ = some (.slice lbo y.2.2.2.length lbc) ∧ W11.cell? ⟨g, 0, none⟩ = some (.int .i64 x.1) ∧ W11.cell? ⟨g, 1, none⟩ = some (.float .f64 x.2.1) ∧ W11.cell? ⟨g, 2, none⟩ = some (.int .i32 x.2.2.1) ∧ W11.cell? ⟨g, 3, none⟩ = some (.slice bo x.2.2.2.length bc) from ⟨keep_below hB _ _ d0, keep_below hB _ _ d1, keep_below hB _ _ d2, keep_below hB _ _ d3, keep_below hB _ _ HX5.out.2.1, keep_below hB _ _ HX5.out.2.2.1, keep_below hB _ _ HX5.out.2.2.2.1, keep_below hB _ _ HX5.out.2.2.2.2.1⟩)
   replace HBY := HBY.go hB; replace HBX5 := HBX5.go hB; have HSZ2 := Lib.hid HB2.out.size; replace HB2 := cb hB HB2
   have HGW := Lib.hid (show g ≤ W1.heap.size by have := HB.out.size; rw [HG.out] at this; exact this)
   replace HB1 := Lib.hid (HB1.out.trans (hB.mono (Nat.le_trans HGW.out HSZ2.out)))
   clear d0 d1 d2 d3 hB
   refine rgn (S := fun w' => w'.cell? ⟨lb, loff + k * 4, none⟩ = some (.int .i64 y.1) ∧ w'.cell? ⟨lb, loff + k * 4 + 1, none⟩ = some (.float .f64 y.2.1) ∧ w'.cell? ⟨lb, loff + k * 4 + 2, none⟩ = some (.int .i32 y.2.2.1) ∧ w'.cell? ⟨lb, loff + k * 4 + 3, none⟩ = some (.slice lbo y.2.2.2.length lbc) ∧ w'.cell? ⟨g, 0, none⟩ = some (.int .i64 x.1) ∧ w'.cell? ⟨g, 1, none⟩ = some (.float .f64 x.2.1) ∧ w'.cell? ⟨g, 2, none⟩ = some (.int .i32 x.2.2.1) ∧ w'.cell? ⟨g, 3, none⟩ = some (.slice bo x.2.2.2.length bc)) hWD HC.out (fun hHeld => ?_)
   clear hWD; apply tk 0; apply tk 1; apply tk 2; apply tk 3; apply tk 4
   refine wpAnyH_ready (rs := [5]) (by kernel_rfl) (by simp) ?_
   refine AllReadyH.cons (o := _) rfl (fun K' hK' => ?_) AllReadyH.nil
   clear hHeld; go_simp
   refine (pitem_calls d (psame_calls d) _ _ y x _ _ _ _ d _ HOY.out.1 HOX.out.1 HOY.out.2 HOX.out.2 HBY.out HBX5.out).mono ?_
   rintro e W12 ⟨rfl, hB⟩
   rw [HBB.out]
   have HC2 := Lib.hid (show W12.cell? ⟨lb, loff + k * 4, none⟩ = some (.int .i64 y.1) ∧ W12.cell? ⟨lb, loff + k * 4 + 1, none⟩ = some (.float .f64 y.2.1) ∧ W12.cell? ⟨lb, loff + k * 4 + 2, none⟩ = some (.int .i32 y.2.2.1) ∧ W12.cell? ⟨lb, loff + k * 4 + 3, none⟩ = some (.slice lbo y.2.2.2.length lbc) ∧ W12.cell? ⟨g, 0, none⟩ = some (.int .i64 x.1) ∧ W12.cell? ⟨g, 1, none⟩ = some (.float .f64 x.2.1) ∧ W12.cell? ⟨g, 2, none⟩ = some (.int .i32 x.2.2.1) ∧ W12.cell? ⟨g, 3, none⟩ = some (.slice bo x.2.2.2.length bc) from ⟨keep_below hB _ _ HC.out.1, keep_below hB _ _ HC.out.2.1, keep_below hB _ _ HC.out.2.2.1, keep_below hB _ _ HC.out.2.2.2.1, keep_below hB _ _ HC.out.2.2.2.2.1, keep_below hB _ _ HC.out.2.2.2.2.2.1, keep_below hB _ _ HC.out.2.2.2.2.2.2.1, keep_below hB _ _ HC.out.2.2.2.2.2.2.2⟩)
   have HSZ3 := Lib.hid HB2.out.size; replace HB2 := cb hB HB2
   replace HB1 := Lib.hid (HB1.out.trans (hB.mono (Nat.le_trans HGW.out HSZ3.out)))
   clear hB
   refine hK'.out _ _ HC2.out (fun hHeld => ?_)
   clear hK' K'
   refine wpAnyH_done (by kernel_rfl) ?_ _
   clear hHeld
   cases bb
   ·go_wp2
    go_roundw
    case rel =>
     refine ⟨k + 1, by omega, by go_num, fun j z hj hz => ?_, HB1.out, HB2.out.size, HB2.out⟩
     rcases Nat.lt_or_ge j k with h | h
     ·exact HNO.out j z h hz
     ·obtain rfl : j = k := by omega
      rw [HY.out] at hz; cases hz; exact HBB.out
    case measure => simp [intOf]; omega
   ·go_wp2
    go_ret
    refine ⟨?_, by rw [HG.out]; exact HB.out.trans HB1.out⟩
    rw [fndI_hit (k := k) (by rw [HN.out]; exact hlt) (by have := List.getElem?_eq_some_iff.1 HY.out; rw [this.2]; exact HBB.out) (fun j hj => HNO.out j _ hj (List.getElem?_eq_getElem _))]
    rfl
  ·go_wp2
   go_ret
   refine ⟨?_, by rw [HG.out]; exact HB.out.trans HB1.out⟩
   rw [fndI_none (fun j hj => HNO.out j _ (by rw [HN.out] at hj; omega) (List.getElem?_eq_getElem _)), HN.out]
   rfl
theorem cell_one_ha (w1 : World) (x : Value) (e : TypeId) : ∀ j u, ([x] : List Value)[j]? = some u → (w1.alloc (.cells #[x] e)).cell? ((⟨w1.heap.size, 0, none⟩ : Addr).add j) = some u := cell_one_new w1 x e
set_option maxHeartbeats 4000000 in
theorem rfirsts19_calls (d : Nat) {ok : Nat → Prop} (lv : Value) (l : List PI) (w : World) (hl : Its w ok lv l) (hm : l.length ≤ 100000) (hL : ∀ y ∈ l, okI d y) :
  Calls Tryz.prog 15 #[lv] w fun e w' => ∃ v, e = .returned v ∧ Slc w' (fun b => w.heap.size ≤ b) v (frsL l).length (ints (zL (frsL l))) ∧ Below w.heap.size w w' := by
 obtain ⟨i0, hi, hz0, hz1, hz2⟩ := info_parts info_int
 have HI0 := Lib.hid (And.intro hi (And.intro hz0 (And.intro hz1 hz2)))
 obtain ⟨ao, cap, rfl, _, _⟩ := hl.len
 have HL := Lib.hid hl; have HOL := Lib.hid hL
 obtain ⟨F, hF⟩ : ∃ F : Nat → List Nat, ∀ k, F k = (List.range k).filter (fun (i : Nat) => decide (fndI l (atI l (blankI 0) (i : Int)) = i)) := ⟨_, fun _ => rfl⟩
 have HF0 := Lib.hid (show F 0 = [] by rw [hF]; rfl)
 have HFS := Lib.hid (show ∀ k y, l[k]? = some y → F (k + 1) = F k ++ (if fndI l y = k then [k] else []) from fun k y hy => by
  obtain ⟨h1, h2⟩ := List.getElem?_eq_some_iff.1 hy
  rw [hF, hF, filter_range_snoc]
  simp only [atI_nat h1, h2, decide_eq_true_eq])
 have HFN := Lib.hid (show F l.length = frsL l by rw [hF]; rfl)
 have HFL := Lib.hid (show ∀ k, (F k).length ≤ k from fun k => by rw [hF]; have := List.length_filter_le (fun (i : Nat) => decide (fndI l (atI l (blankI 0) (i : Int)) = i)) (List.range k); rwa [List.length_range] at this)
 obtain ⟨n, hn⟩ : ∃ n, l.length = n := ⟨_, rfl⟩
 have HN := Lib.hid hn
 rw [hn] at HL hm HFN
 clear hi hz0 hz1 hz2 hl hL hF; rw [hn]; clear hn
 obtain ⟨R, hR⟩ : ∃ R, frsL l = R := ⟨_, rfl⟩
 rw [hR] at HFN ⊢
 clear hR
 go_enter Tryz.func15, Tryz.ntmps15
 go_wp2_with fail
 go_loopw [3, 4] (fun ov iv wr => ∃ k : Nat, k ≤ n ∧ iv = .int .i64 k ∧ wr.ownsRow w.heap.size 3 1 ov (F k).length (ints (zL (F k))) ∧ Below w.heap.size w wr) (fun _ iv _ => n - (intOf iv).toNat)
 case atStart => exact ⟨0, by omega, rfl, by rw [HF0.out]; exact World.ownsRow_nil _ _ _ _, Below.refl _ _⟩
 case round =>
  obtain ⟨k, hk, rfl, hown, hB⟩ := hrel
  obtain ⟨vo, vc, rfl⟩ := owns_form hown
  have HO := Lib.hid hown; have HB := Lib.hid hB; clear hown hB
  by_cases hlt : k < n
  ·obtain ⟨y, hy⟩ : ∃ y, l[k]? = some y := ⟨_, List.getElem?_eq_getElem (by rw [HN.out]; exact hlt)⟩
   have HY := Lib.hid hy
   have HOY := Lib.hid (HOL.out y (List.mem_of_getElem? hy))
   obtain ⟨lb, loff, lbo, lbc, rfl, _, d0, d1, d2, d3, hby⟩ := (HL.out.grow HB.out).at HY.out
   have HBY := Lib.hid hby
   have HLW := Lib.hid (HL.out.grow HB.out)
   obtain ⟨m, hmm⟩ : ∃ m, fndI l y = m := ⟨_, rfl⟩
   have HMM := Lib.hid hmm
   obtain ⟨c, hc⟩ : ∃ c, (F k).length = c := ⟨_, rfl⟩
   have HC := Lib.hid hc
   have HCK := Lib.hid (show c ≤ k by rw [← hc]; exact HFL.out k)
   rw [hc] at HO ⊢
   clear hy hby hmm hc
   go_wp2_with fail
   refine (rfind19_calls d _ l y _ _ _ HLW.out (by rw [HN.out]; omega) HOL.out HOY.out HBY.out).mono ?_
   rintro e W2 ⟨rfl, hB2⟩
   rw [HMM.out]; have HSW := Lib.hid HB.out.size
   have HO2 := Lib.hid (owns_below HO.out hB2)
   have HB2 := Lib.hid (HB.out.trans (hB2.mono HB.out.size))
   clear hB2 d0 d1 d2 d3
   by_cases hmk : m = k
   ·have hme : ((m : Int) == (k : Int)) = true := by rw [hmk]; simp
    have HS := Lib.hid (show F (k + 1) = F k ++ [k] by rw [HFS.out k y HY.out, HMM.out, if_pos hmk])
    clear hmk
    obtain ⟨W4, hW4⟩ : ∃ W4, W4 = W2.alloc (.cells #[.int .i64 (k : Int)] 3) := ⟨_, rfl⟩
    have HB4 := Lib.hid (show Below w.heap.size w W4 by rw [hW4]; exact HB2.out.alloc HB2.out.size _)
    have HO4 := Lib.hid (show W4.ownsRow w.heap.size 3 1 (.slice vo c vc) c (ints (zL (F k))) by rw [hW4]; exact HO2.out.alloc _)
    have HN4 := Lib.hid (show ∀ j u, ([.int .i64 (k : Int)] : List Value)[j]? = some u → W4.cell? ((⟨W2.heap.size, 0, none⟩ : Addr).add j) = some u by rw [hW4]; exact cell_one_new _ _ _)
    have HSZ4 := Lib.hid HB4.out.size
    have HM1 := Lib.hid (show c + 1 ≤ maxLen by have := HCK.out; unfold maxLen; omega)
    have HM2 := Lib.hid (show (c + 1) * 8 ≤ 140737488355328 by have := HCK.out; omega)
    have hfold4 := hW4.symm
    clear hW4
    go_wp2_with (at_builtin; refine wpList_append_own _ rfl _ _ 22 rfl w.heap.size 3 i0 (.int .i64 0) 1 8 Tryz.underlying22 HI0.out.1 HI0.out.2.1 HI0.out.2.2.1 HI0.out.2.2.2 rfl (by decide) _ _ _ rfl HO4.out ⟨W2.heap.size, 0, none⟩ 1 1 [.int .i64 (k : Int)] rfl rfl HN4.out (one_intV _) HM1.out HM2.out HSZ4.out ?_)
    intro v' w1 hown' hgrow _
    have HO1 := Lib.hid hown'
    have HB1 := Lib.hid (grown_below HB4.out HO4.out (Nat.le_refl _) HSZ4.out hgrow)
    clear hown' hgrow hfold4
    go_wp2
    go_roundw
    case rel =>
     refine ⟨k + 1, by omega, by go_num, ?_, HB1.out⟩
     rw [HS.out, List.length_append, HC.out, zL_app, ints_append2]
     exact HO1.out
    case measure => simp [intOf]; omega
   ·have hme : ((m : Int) == (k : Int)) = false := by rw [beq_eq_false_iff_ne]; omega
    have HS := Lib.hid (show F (k + 1) = F k by rw [HFS.out k y HY.out, HMM.out, if_neg hmk, List.append_nil])
    clear hmk
    go_wp2
    go_roundw
    case rel =>
     refine ⟨k + 1, by omega, by go_num, ?_, HB2.out⟩
     rw [HS.out, HC.out]
     exact HO2.out
    case measure => simp [intOf]; omega
  ·have hkn : k = n := by omega
   have HO5 := Lib.hid (show wr.ownsRow w.heap.size 3 1 (.slice vo (F k).length vc) R.length (ints (zL R)) by rw [← HFN.out, ← hkn]; exact HO.out)
   clear hkn HO
   go_wp2
   go_ret
   exact ⟨_, rfl, Slc.owned HO5.out, HB.out⟩
set_option maxHeartbeats 4000000 in
theorem rwithout19_true (d : Nat) {ok ok2 : Nat → Prop} (lv mv : Value) (l ml : List PI) (w : World) (hl : Its w ok lv l) (hm : l.length ≤ 100000) (hL : ∀ y ∈ l, okI d y) (hml : Its w ok2 mv ml) (hm2 : ml.length ≤ 1048576) (hL2 : ∀ y ∈ ml, okI d y) :
  Calls Tryz.prog 17 #[lv, mv, .bool true] w fun e w' => ∃ v, e = .returned v ∧ Its w' (fun b => (ok b ∧ b < w.heap.size) ∨ w.heap.size ≤ b) v (witL l ml true) ∧ Below w.heap.size w w' := by
 obtain ⟨i0, hi, hz0, hz1, hz2⟩ := info_parts info_item
 have HI0 := Lib.hid (And.intro hi (And.intro hz0 (And.intro hz1 hz2)))
 obtain ⟨ao, cap, rfl, _, _⟩ := hl.len
 obtain ⟨bo, bcap, rfl, _, _⟩ := hml.len
 have HL := Lib.hid hl.lt; have HML := Lib.hid hml; have HOL := Lib.hid hL; have HOM := Lib.hid hL2
 obtain ⟨F, hF⟩ : ∃ F : Nat → List PI, ∀ k, F k = (l.take k).filter (fun x => decide (fndI ml x < ml.length) == true) := ⟨_, fun _ => rfl⟩
 have HF0 := Lib.hid (show F 0 = [] by rw [hF]; rfl)
 have HFS := Lib.hid (show ∀ k y, l[k]? = some y → F (k + 1) = F k ++ (if decide (fndI ml y < ml.length) == true then [y] else []) from fun k y hy => by
  rw [hF, hF, ptake hy, List.filter_append]
  congr 1
  by_cases h : (decide (fndI ml y < ml.length) == true) = true
  ·rw [if_pos h]; simp [List.filter, h]
  ·rw [if_neg h]; simp [List.filter, Bool.eq_false_iff.2 h])
 have HFN := Lib.hid (show F l.length = witL l ml true by rw [hF, List.take_length]; rfl)
 have HFL := Lib.hid (show ∀ k, (F k).length ≤ k from fun k => by rw [hF]; exact Nat.le_trans (List.length_filter_le _ _) (by rw [List.length_take]; omega))
 obtain ⟨n, hn⟩ : ∃ n, l.length = n := ⟨_, rfl⟩
 obtain ⟨n2, hn2⟩ : ∃ n2, ml.length = n2 := ⟨_, rfl⟩
 have HN := Lib.hid hn; have HN2 := Lib.hid hn2
 rw [hn] at HL hm HFN
 rw [hn2] at HML hm2 HFS
 clear hi hz0 hz1 hz2 hl hL hF hml hL2
 rw [hn, hn2]
 clear hn hn2
 obtain ⟨R, hR⟩ : ∃ R, witL l ml true = R := ⟨_, rfl⟩
 rw [hR] at HFN ⊢
 clear hR
 have HR0 := Lib.hid (OutRel.start w (fun b => (ok b ∧ b < w.heap.size) ∨ w.heap.size ≤ b))
 go_enter Tryz.func17, Tryz.ntmps17
 go_wp2_with fail
 go_loopw [7, 8] (fun ov iv wr => ∃ (k : Nat) (L : List QI), k ≤ n ∧ iv = .int .i64 k ∧ OutRel w (fun b => (ok b ∧ b < w.heap.size) ∨ w.heap.size ≤ b) (F k).length ov L (F k) wr) (fun _ iv _ => n - (intOf iv).toNat)
 case atStart => exact ⟨0, [], by omega, rfl, by rw [HF0.out]; exact HR0.out⟩
 case round =>
  obtain ⟨k, L, hk, rfl, hR⟩ := hrel
  obtain ⟨vo, vc, rfl⟩ := owns_form hR.1
  have HR := Lib.hid hR; have HB := Lib.hid hR.2.2; have HSW := Lib.hid hR.2.2.size
  have HOCN := Lib.hid (show Value.oneCell' (.slice none 0 0) = true from rfl)
  clear hR HR0
  by_cases hlt : k < n
  ·obtain ⟨y, hy⟩ : ∃ y, l[k]? = some y := ⟨_, List.getElem?_eq_getElem (by rw [HN.out]; exact hlt)⟩
   have HY := Lib.hid hy
   have HOY := Lib.hid (HOL.out y (List.mem_of_getElem? hy))
   obtain ⟨lb, loff, lbo, lbc, rfl, _, d0, d1, d2, d3, hby⟩ := (HL.out.grow HB.out).at HY.out
   have HBY := Lib.hid hby
   have HMW := Lib.hid (HML.out.grow HB.out)
   have HD := Lib.hid (And.intro d0 (And.intro d1 (And.intro d2 d3)))
   obtain ⟨m, hmm⟩ : ∃ m, fndI ml y = m := ⟨_, rfl⟩
   have HMM := Lib.hid hmm
   obtain ⟨c, hc⟩ : ∃ c, (F k).length = c := ⟨_, rfl⟩
   have HC := Lib.hid hc
   have HCK := Lib.hid (show c ≤ k by rw [← hc]; exact HFL.out k)
   rw [hc] at HR ⊢
   clear hy hby hmm hc
   go_wp2_with fail
   refine (rfind19_calls d _ ml y _ _ _ HMW.out (by rw [HN2.out]; omega) HOM.out HOY.out HBY.out).mono ?_
   rintro e W2 ⟨rfl, hB2⟩
   rw [HMM.out]; clear d0 d1 d2 d3
   have d0 := keep_below hB2 _ _ HD.out.1
   have d1 := keep_below hB2 _ _ HD.out.2.1
   have d2 := keep_below hB2 _ _ HD.out.2.2.1
   have d3 := keep_below hB2 _ _ HD.out.2.2.2
   have HB2 := Lib.hid hB2; clear hB2
   by_cases hmk : m < n2
   ·have HS := Lib.hid (show F (k + 1) = F k ++ [y] by rw [HFS.out k y HY.out, HMM.out, if_pos (by simp; omega)])
    have hq : (m : Int) < (n2 : Int) := by omega
    have HBX := Lib.hid (show IsB W2 (fun b => ((ok b ∧ b < w.heap.size) ∨ w.heap.size ≤ b) ∧ (Value.slice vo c vc).ownBlock ≠ some b) (.slice lbo y.2.2.2.length lbc) y.2.2.2 from (IsB.keep (Kept.below HB2.out) (fun _ _ h => h) HBY.out).wide (fun b _ h => ⟨Or.inl h, own_ne HR.out.1 h.2⟩))
    have HOC := Lib.hid (show Value.oneCell' (.slice lbo y.2.2.2.length lbc) = true from rfl)
    have HM1 : Hid (c + 1 ≤ maxLen) := Lib.hid (by have := HCK.out; unfold maxLen; omega)
    have HM2 : Hid ((c + 1) * 48 ≤ 140737488355328) := Lib.hid (by have := HCK.out; omega)
    obtain ⟨W4, hW4⟩ : ∃ W4, W4 = W2.alloc (.cells #[.int .i64 y.1, .float .f64 y.2.1, .int .i32 y.2.2.1, (.slice lbo y.2.2.2.length lbc)] 34) := ⟨_, rfl⟩
    have HB4 := Lib.hid (show Below wr.heap.size wr W4 by rw [hW4]; exact HB2.out.alloc HB2.out.size _)
    have HO4 := Lib.hid (show W4.ownsRow w.heap.size 34 4 (.slice vo c vc) c (flatI L) by rw [hW4]; exact (owns_below2 HR.out.1 HB2.out).alloc _)
    have HN4 := Lib.hid (show ∀ j u, (quadV (y.1, y.2.1, y.2.2.1, (.slice lbo y.2.2.2.length lbc)))[j]? = some u → W4.cell? ((⟨W2.heap.size, 0, none⟩ : Addr).add j) = some u by rw [hW4]; exact cell_four_new _ _ _ _ _ _)
    have HSZ := Lib.hid (show w.heap.size ≤ W4.heap.size from Nat.le_trans HSW.out HB4.out.size)
    have HON := Lib.hid (show ∀ u ∈ quadV (y.1, y.2.1, y.2.2.1, (.slice lbo y.2.2.2.length lbc)), u.oneCell' = true by intro u hu; simp only [quadV, List.mem_cons, List.not_mem_nil, or_false] at hu; rcases hu with rfl | rfl | rfl | rfl <;> first | rfl | exact HOC.out)
    have HBX4 := Lib.hid (show IsB W4 (fun b => ((ok b ∧ b < w.heap.size) ∨ w.heap.size ≤ b) ∧ (Value.slice vo c vc).ownBlock ≠ some b) ((.slice lbo y.2.2.2.length lbc)) y.2.2.2 by rw [hW4]; exact IsB.keep (Kept.below (below_new _ _)) (fun _ _ h => h) HBX.out)
    have hfold4 := hW4.symm
    clear hW4 hmk
    go_wp2_with (at_builtin; refine wpList_append_blk _ rfl _ _ 23 rfl w.heap.size 34 i0 _ 4 48 Tryz.underlying23 HI0.out.1 HI0.out.2.1 HI0.out.2.2.1 HI0.out.2.2.2 rfl (by decide) _ c (flatI L) rfl HO4.out ⟨W2.heap.size, 0, none⟩ 1 1 (quadV (y.1, y.2.1, y.2.2.1, (.slice lbo y.2.2.2.length lbc))) rfl rfl HN4.out HON.out HM1.out HM2.out HSZ.out ?_)
    intro v' w5 hown hgrow hblk
    obtain ⟨ao', cap', rfl⟩ := owns_form hown
    have HS5 := Lib.hid (HR.out.step (x := y) HB4.out HBX4.out hown hgrow hblk)
    clear hown hgrow hblk hfold4 d0 d1 d2 d3
    go_wp2_with fail
    go_roundw
    case rel =>
     refine ⟨k + 1, L ++ [(y.1, y.2.1, y.2.2.1, .slice lbo y.2.2.2.length lbc)], by omega, by go_num, ?_⟩
     rw [HS.out, List.length_append, HC.out]
     exact HS5.out
    case measure => simp [intOf]; omega
   ·have HS := Lib.hid (show F (k + 1) = F k by rw [HFS.out k y HY.out, HMM.out, if_neg (by simp; omega), List.append_nil])
    have hq : (m < n2) = False := eq_false (by omega)
    have HR2 := Lib.hid (show OutRel w (fun b => (ok b ∧ b < w.heap.size) ∨ w.heap.size ≤ b) c (.slice vo c vc) L (F k) W2 from ⟨owns_below2 HR.out.1 HB2.out, HR.out.2.1.keep (Kept.below HB2.out) (fun _ _ h => h), HB.out.trans (HB2.out.mono HSW.out)⟩)
    clear hmk d0 d1 d2 d3
    go_wp2
    go_roundw
    case rel =>
     refine ⟨k + 1, L, by omega, by go_num, ?_⟩
     rw [HS.out, HC.out]
     exact HR2.out
    case measure => simp [intOf]; omega
  ·have hkn : k = n := by omega
   have HFIN := Lib.hid (show Its wr (fun b => ((ok b ∧ b < w.heap.size) ∨ w.heap.size ≤ b) ∨ w.heap.size ≤ b) (.slice vo (F k).length vc) R from (show F k = R by rw [hkn]; exact HFN.out) ▸ HR.out.its)
   clear hkn
   go_wp2_with fail
   go_ret
   exact ⟨_, rfl, HFIN.out.wide (fun b _ h => h.elim id Or.inr), HB.out⟩
set_option maxHeartbeats 4000000 in
theorem rwithout19_false (d : Nat) {ok ok2 : Nat → Prop} (lv mv : Value) (l ml : List PI) (w : World) (hl : Its w ok lv l) (hm : l.length ≤ 100000) (hL : ∀ y ∈ l, okI d y) (hml : Its w ok2 mv ml) (hm2 : ml.length ≤ 1048576) (hL2 : ∀ y ∈ ml, okI d y) :
  Calls Tryz.prog 17 #[lv, mv, .bool false] w fun e w' => ∃ v, e = .returned v ∧ Its w' (fun b => (ok b ∧ b < w.heap.size) ∨ w.heap.size ≤ b) v (witL l ml false) ∧ Below w.heap.size w w' := by
 obtain ⟨i0, hi, hz0, hz1, hz2⟩ := info_parts info_item
 have HI0 := Lib.hid (And.intro hi (And.intro hz0 (And.intro hz1 hz2)))
 obtain ⟨ao, cap, rfl, _, _⟩ := hl.len
 obtain ⟨bo, bcap, rfl, _, _⟩ := hml.len
 have HL := Lib.hid hl.lt; have HML := Lib.hid hml; have HOL := Lib.hid hL; have HOM := Lib.hid hL2
 obtain ⟨F, hF⟩ : ∃ F : Nat → List PI, ∀ k, F k = (l.take k).filter (fun x => decide (fndI ml x < ml.length) == false) := ⟨_, fun _ => rfl⟩
 have HF0 := Lib.hid (show F 0 = [] by rw [hF]; rfl)
 have HFS := Lib.hid (show ∀ k y, l[k]? = some y → F (k + 1) = F k ++ (if decide (fndI ml y < ml.length) == false then [y] else []) from fun k y hy => by
  rw [hF, hF, ptake hy, List.filter_append]
  congr 1
  by_cases h : (decide (fndI ml y < ml.length) == false) = true
  ·rw [if_pos h]; simp [List.filter, h]
  ·rw [if_neg h]; simp [List.filter, Bool.eq_false_iff.2 h])
 have HFN := Lib.hid (show F l.length = witL l ml false by rw [hF, List.take_length]; rfl)
 have HFL := Lib.hid (show ∀ k, (F k).length ≤ k from fun k => by rw [hF]; exact Nat.le_trans (List.length_filter_le _ _) (by rw [List.length_take]; omega))
 obtain ⟨n, hn⟩ : ∃ n, l.length = n := ⟨_, rfl⟩
 obtain ⟨n2, hn2⟩ : ∃ n2, ml.length = n2 := ⟨_, rfl⟩
 have HN := Lib.hid hn; have HN2 := Lib.hid hn2
 rw [hn] at HL hm HFN
 rw [hn2] at HML hm2 HFS
 clear hi hz0 hz1 hz2 hl hL hF hml hL2
 rw [hn, hn2]
 clear hn hn2
 obtain ⟨R, hR⟩ : ∃ R, witL l ml false = R := ⟨_, rfl⟩
 rw [hR] at HFN ⊢
 clear hR
 have HR0 := Lib.hid (OutRel.start w (fun b => (ok b ∧ b < w.heap.size) ∨ w.heap.size ≤ b))
 go_enter Tryz.func17, Tryz.ntmps17
 go_wp2_with fail
 go_loopw [7, 8] (fun ov iv wr => ∃ (k : Nat) (L : List QI), k ≤ n ∧ iv = .int .i64 k ∧ OutRel w (fun b => (ok b ∧ b < w.heap.size) ∨ w.heap.size ≤ b) (F k).length ov L (F k) wr) (fun _ iv _ => n - (intOf iv).toNat)
 case atStart => exact ⟨0, [], by omega, rfl, by rw [HF0.out]; exact HR0.out⟩
 case round =>
  obtain ⟨k, L, hk, rfl, hR⟩ := hrel
  obtain ⟨vo, vc, rfl⟩ := owns_form hR.1
  have HR := Lib.hid hR; have HB := Lib.hid hR.2.2; have HSW := Lib.hid hR.2.2.size
  have HOCN := Lib.hid (show Value.oneCell' (.slice none 0 0) = true from rfl)
  clear hR HR0
  by_cases hlt : k < n
  ·obtain ⟨y, hy⟩ : ∃ y, l[k]? = some y := ⟨_, List.getElem?_eq_getElem (by rw [HN.out]; exact hlt)⟩
   have HY := Lib.hid hy
   have HOY := Lib.hid (HOL.out y (List.mem_of_getElem? hy))
   obtain ⟨lb, loff, lbo, lbc, rfl, _, d0, d1, d2, d3, hby⟩ := (HL.out.grow HB.out).at HY.out
   have HBY := Lib.hid hby
   have HMW := Lib.hid (HML.out.grow HB.out)
   have HD := Lib.hid (And.intro d0 (And.intro d1 (And.intro d2 d3)))
   obtain ⟨m, hmm⟩ : ∃ m, fndI ml y = m := ⟨_, rfl⟩
   have HMM := Lib.hid hmm
   obtain ⟨c, hc⟩ : ∃ c, (F k).length = c := ⟨_, rfl⟩
   have HC := Lib.hid hc
   have HCK := Lib.hid (show c ≤ k by rw [← hc]; exact HFL.out k)
   rw [hc] at HR ⊢
   clear hy hby hmm hc
   go_wp2_with fail
   refine (rfind19_calls d _ ml y _ _ _ HMW.out (by rw [HN2.out]; omega) HOM.out HOY.out HBY.out).mono ?_
   rintro e W2 ⟨rfl, hB2⟩
   rw [HMM.out]; clear d0 d1 d2 d3
   have d0 := keep_below hB2 _ _ HD.out.1
   have d1 := keep_below hB2 _ _ HD.out.2.1
   have d2 := keep_below hB2 _ _ HD.out.2.2.1
   have d3 := keep_below hB2 _ _ HD.out.2.2.2
   have HB2 := Lib.hid hB2; clear hB2
   by_cases hmk : m ≥ n2
   ·have HS := Lib.hid (show F (k + 1) = F k ++ [y] by rw [HFS.out k y HY.out, HMM.out, if_pos (by simp; omega)])
    have hq : (m < n2) = False := eq_false (by omega)
    have HBX := Lib.hid (show IsB W2 (fun b => ((ok b ∧ b < w.heap.size) ∨ w.heap.size ≤ b) ∧ (Value.slice vo c vc).ownBlock ≠ some b) (.slice lbo y.2.2.2.length lbc) y.2.2.2 from (IsB.keep (Kept.below HB2.out) (fun _ _ h => h) HBY.out).wide (fun b _ h => ⟨Or.inl h, own_ne HR.out.1 h.2⟩))
    have HOC := Lib.hid (show Value.oneCell' (.slice lbo y.2.2.2.length lbc) = true from rfl)
    have HM1 : Hid (c + 1 ≤ maxLen) := Lib.hid (by have := HCK.out; unfold maxLen; omega)
    have HM2 : Hid ((c + 1) * 48 ≤ 140737488355328) := Lib.hid (by have := HCK.out; omega)
    obtain ⟨W4, hW4⟩ : ∃ W4, W4 = W2.alloc (.cells #[.int .i64 y.1, .float .f64 y.2.1, .int .i32 y.2.2.1, (.slice lbo y.2.2.2.length lbc)] 34) := ⟨_, rfl⟩
    have HB4 := Lib.hid (show Below wr.heap.size wr W4 by rw [hW4]; exact HB2.out.alloc HB2.out.size _)
    have HO4 := Lib.hid (show W4.ownsRow w.heap.size 34 4 (.slice vo c vc) c (flatI L) by rw [hW4]; exact (owns_below2 HR.out.1 HB2.out).alloc _)
    have HN4 := Lib.hid (show ∀ j u, (quadV (y.1, y.2.1, y.2.2.1, (.slice lbo y.2.2.2.length lbc)))[j]? = some u → W4.cell? ((⟨W2.heap.size, 0, none⟩ : Addr).add j) = some u by rw [hW4]; exact cell_four_new _ _ _ _ _ _)
    have HSZ := Lib.hid (show w.heap.size ≤ W4.heap.size from Nat.le_trans HSW.out HB4.out.size)
    have HON := Lib.hid (show ∀ u ∈ quadV (y.1, y.2.1, y.2.2.1, (.slice lbo y.2.2.2.length lbc)), u.oneCell' = true by intro u hu; simp only [quadV, List.mem_cons, List.not_mem_nil, or_false] at hu; rcases hu with rfl | rfl | rfl | rfl <;> first | rfl | exact HOC.out)
    have HBX4 := Lib.hid (show IsB W4 (fun b => ((ok b ∧ b < w.heap.size) ∨ w.heap.size ≤ b) ∧ (Value.slice vo c vc).ownBlock ≠ some b) ((.slice lbo y.2.2.2.length lbc)) y.2.2.2 by rw [hW4]; exact IsB.keep (Kept.below (below_new _ _)) (fun _ _ h => h) HBX.out)
    have hfold4 := hW4.symm
    clear hW4 hmk
    go_wp2_with (at_builtin; refine wpList_append_blk _ rfl _ _ 23 rfl w.heap.size 34 i0 _ 4 48 Tryz.underlying23 HI0.out.1 HI0.out.2.1 HI0.out.2.2.1 HI0.out.2.2.2 rfl (by decide) _ c (flatI L) rfl HO4.out ⟨W2.heap.size, 0, none⟩ 1 1 (quadV (y.1, y.2.1, y.2.2.1, (.slice lbo y.2.2.2.length lbc))) rfl rfl HN4.out HON.out HM1.out HM2.out HSZ.out ?_)
    intro v' w5 hown hgrow hblk
    obtain ⟨ao', cap', rfl⟩ := owns_form hown
    have HS5 := Lib.hid (HR.out.step (x := y) HB4.out HBX4.out hown hgrow hblk)
    clear hown hgrow hblk hfold4 d0 d1 d2 d3
    go_wp2_with fail
    go_roundw
    case rel =>
     refine ⟨k + 1, L ++ [(y.1, y.2.1, y.2.2.1, .slice lbo y.2.2.2.length lbc)], by omega, by go_num, ?_⟩
     rw [HS.out, List.length_append, HC.out]
     exact HS5.out
    case measure => simp [intOf]; omega
   ·have HS := Lib.hid (show F (k + 1) = F k by rw [HFS.out k y HY.out, HMM.out, if_neg (by simp; omega), List.append_nil])
    have hq : (m : Int) < (n2 : Int) := by omega
    have HR2 := Lib.hid (show OutRel w (fun b => (ok b ∧ b < w.heap.size) ∨ w.heap.size ≤ b) c (.slice vo c vc) L (F k) W2 from ⟨owns_below2 HR.out.1 HB2.out, HR.out.2.1.keep (Kept.below HB2.out) (fun _ _ h => h), HB.out.trans (HB2.out.mono HSW.out)⟩)
    clear hmk d0 d1 d2 d3
    go_wp2
    go_roundw
    case rel =>
     refine ⟨k + 1, L, by omega, by go_num, ?_⟩
     rw [HS.out, HC.out]
     exact HR2.out
    case measure => simp [intOf]; omega
  ·have hkn : k = n := by omega
   have HFIN := Lib.hid (show Its wr (fun b => ((ok b ∧ b < w.heap.size) ∨ w.heap.size ≤ b) ∨ w.heap.size ≤ b) (.slice vo (F k).length vc) R from (show F k = R by rw [hkn]; exact HFN.out) ▸ HR.out.its)
   clear hkn
   go_wp2_with fail
   go_ret
   exact ⟨_, rfl, HFIN.out.wide (fun b _ h => h.elim id Or.inr), HB.out⟩
theorem rwithout19_calls (d : Nat) {ok ok2 : Nat → Prop} (lv mv : Value) (l ml : List PI) (keep : Bool) (w : World) (hl : Its w ok lv l) (hm : l.length ≤ 100000) (hL : ∀ y ∈ l, okI d y) (hml : Its w ok2 mv ml) (hm2 : ml.length ≤ 1048576) (hL2 : ∀ y ∈ ml, okI d y) :
  Calls Tryz.prog 17 #[lv, mv, .bool keep] w fun e w' => ∃ v, e = .returned v ∧ Its w' (fun b => (ok b ∧ b < w.heap.size) ∨ w.heap.size ≤ b) v (witL l ml keep) ∧ Below w.heap.size w w' := by
 cases keep
 ·exact rwithout19_false d lv mv l ml w hl hm hL hml hm2 hL2
 ·exact rwithout19_true d lv mv l ml w hl hm hL hml hm2 hL2
end Go.Proofs.YtbdhibcbpgjbmaaGreatDoor

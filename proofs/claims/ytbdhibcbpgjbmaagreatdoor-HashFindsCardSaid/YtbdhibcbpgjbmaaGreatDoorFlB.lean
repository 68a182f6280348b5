/- Package flat, walked: chosen, of boxes. -/
import Derived.Test.YtbdhibcbpgjbmaaGreatDoorFlA
import Derived.Test.YtbdhibcbpgjbmaaGreatDoorVeO
namespace Go.Proofs.YtbdhibcbpgjbmaaGreatDoor
set_option maxRecDepth 100000
open Go.RowKit
set_option linter.unusedVariables false

theorem IsArr.keep {w w' : World} {ok ok' : Nat → Prop} {sh u : Value} {p : List Int × VV} (hk : Kept ok w w') (hm : ∀ b, b < w.heap.size → ok b → ok' b) (h : IsArr w ok sh u p) : IsArr w' ok' sh u p := ⟨h.1.keep hk hm, h.2.keep hk hm⟩
theorem arrs_of {w : World} {ok : Nat → Prop} {g : Nat} {l : List (List Int × VV)} {A B : Nat → Value} (hl : l.length ≤ 2000000)
  (ho : w.ownsRow g 38 2 (.slice (some ⟨g, 0, Option.none⟩) l.length l.length) l.length (pairL l.length A B)) (hok : ok g) (h : ∀ i p, l[i]? = some p → IsArr w ok (A i) (B i) p) :
  Arrs w ok (.slice (some ⟨g, 0, Option.none⟩) l.length l.length) l := by
 refine ⟨_, _, A, B, rfl, Nat.le_refl _, by unfold maxLen; omega, fun i hi => ⟨g, 0, rfl, hok, ?_, ?_⟩, fun i hi => (h i _ (List.getElem?_eq_getElem hi)).1, fun i hi => (h i _ (List.getElem?_eq_getElem hi)).2⟩
 ·rw [Nat.zero_add, owns_cell2 ho (i * 2) (by rw [pairL_len]; omega), pairL_fst]
 ·rw [Nat.zero_add, owns_cell2 ho (i * 2 + 1) (by rw [pairL_len]; omega), pairL_snd]
theorem atI_oob {α : Type} {l : List α} {d : α} {i : Int} (h : ¬ (0 ≤ i ∧ i < (l.length : Int))) : atI l d i = d := atI_neg h

set_option maxHeartbeats 4000000 in
theorem chA_calls {ok ok2 : Nat → Prop} (u : Value) (V : VV) (v shf uf : Value) (F : List Int × VV) (at_ : List Int) (w : World) (hu : IsV w ok u V) (hok : V.ok) (hcl : V.boxs.length = V.len) (hF : IsArr w ok shf uf F) (hv : Slc w ok2 v at_.length (ints at_)) (hm : at_.length ≤ 2000000) :
  Calls Tryz.prog 127 #[.int .i64 (V.len : Int), .func (.func 57) #[.agg #[u]] #[], v, .agg #[shf, uf]] w fun e w' => ∃ v, e = .returned v ∧ Arrs w' (fun b => ok b ∨ w.heap.size ≤ b) v (at_.map (atI V.boxs F)) ∧ Below w.heap.size w w' := by
 obtain ⟨ao, cap, rfl, _, _, _, hc⟩ := hv.opened
 have HC := Lib.hid hc
 have HU := Lib.hid (hu.lt)
 have HOK := Lib.hid hok; have HCL := Lib.hid hcl
 have HFF := Lib.hid (show IsArr w (fun b => ok b ∧ b < w.heap.size) shf uf F from hF.keep (Kept.refl _ _) (fun b h h2 => ⟨h2, h⟩))
 have hsf := hF.2.store
 obtain ⟨fo, fc, rfl, _⟩ := hF.1.opened
 clear hv hc hu hok hcl hF
 obtain ⟨w1, hw1⟩ : ∃ w1, w1 = w.alloc (.cells #[.slice fo F.1.length fc, uf] 38) := ⟨_, rfl⟩
 have HB1 := Lib.hid (show Below w.heap.size w w1 by rw [hw1]; exact below_new _ _)
 have HAT := Lib.hid (show At2 w1 w.heap.size (.slice fo F.1.length fc) uf by rw [hw1]; exact At2.new _ _ _ _)
 have HSE := Lib.hid (show w1.heap.size = w.heap.size + 1 by rw [hw1]; simp)
 replace HU := Lib.hid (show IsV w1 (fun b => ok b ∧ b < w.heap.size) u V from HU.out.grow HB1.out)
 replace HFF := Lib.hid (show IsArr w1 (fun b => ok b ∧ b < w.heap.size) (.slice fo F.1.length fc) uf F from HFF.out.keep (Kept.below HB1.out) (fun _ _ h => h))
 replace HC := Lib.hid (fun i h => by
  obtain ⟨b, off, e, h1, h2⟩ := HC.out i h
  exact (⟨b, off, e, keep_below HB1.out _ _ h2⟩ : ∃ b off, ao = some ⟨b, off, Option.none⟩ ∧ w1.cell? ⟨b, off + i, Option.none⟩ = some ((ints at_)[i]'h)))
 have hmk := run_mkA at_.length (by omega) w1
 rw [hw1] at hmk
 obtain ⟨L, hL⟩ : ∃ L, L = at_.map (atI V.boxs F) := ⟨_, rfl⟩
 have HLL := Lib.hid (show L.length = at_.length by rw [hL]; simp)
 have HLX := Lib.hid (show ∀ k (h : k < at_.length), ∃ x, x = at_[k] ∧ L[k]? = some (atI V.boxs F x) by intro k h; exact ⟨_, rfl, by rw [hL]; simp [h]⟩)
 rw [← hL]
 clear hL
 obtain ⟨W0, hW0⟩ : ∃ W0, W0 = w1.alloc (.cells (zerosA at_.length) 38) := ⟨_, rfl⟩
 have HO0 := Lib.hid (show W0.ownsRow (w.heap.size + 1) 38 2 (.slice (some ⟨(w.heap.size + 1), 0, Option.none⟩) at_.length at_.length) at_.length (pairL at_.length (fun _ => .slice Option.none 0 0) (upTo (fun _ => .nilIface) 0)) by rw [hW0, ← HSE.out]; exact own_mkA _ (by omega) _ _ (Nat.le_refl _) _)
 have HW := Lib.hid (show Below (w.heap.size + 1) w1 W0 by rw [hW0, ← HSE.out]; exact below_new _ _)
 have HBX := Lib.hid (show ∀ W, Below (w.heap.size + 1) w1 W → Below w1.heap.size w1 W from fun W h => by rw [HSE.out]; exact h)
 rw [hw1] at hW0
 go_enter Tryz.func127, Tryz.ntmps127
 go_wp2
 rw [← hW0]
 clear hw1; clear hW0 hmk
 go_loopw [17] (fun i wr => ∃ (k : Nat) (A B : Nat → Value), k ≤ at_.length ∧ i = .int .i64 k ∧ wr.ownsRow (w.heap.size + 1) 38 2 (.slice (some ⟨(w.heap.size + 1), 0, Option.none⟩) at_.length at_.length) at_.length (pairL at_.length A B) ∧ (∀ i p, i < k → L[i]? = some p → IsArr wr (fun b => (ok b ∧ b < w.heap.size) ∨ (w.heap.size + 1) < b) (A i) (B i) p) ∧ W0.grownBy wr (some (w.heap.size + 1))) (fun i _ => at_.length - (intOf i).toNat)
 case atStart => exact ⟨0, _, _, by omega, rfl, HO0.out, fun i _ h => absurd h (by omega), grown_refl _ _⟩
 case round =>
  obtain ⟨k, A, B, hk, rfl, hown, hA, hgr⟩ := hrel
  have HO := Lib.hid hown; have HG := Lib.hid hgr; have HA := Lib.hid hA
  have HB := Lib.hid (show Below (w.heap.size + 1) w1 wr from HW.out.grown hgr (by have := HW.out.size; have := HSE.out; omega) (fun j hj => by cases hj; omega))
  have hgs := (hown.lt (w.heap.size + 1) rfl).2
  by_cases hlt : k < at_.length
  ·obtain ⟨b, off, rfl, hcl0⟩ := HC.out k (by rw [ints_len]; exact hlt)
   have hcl := keep_below (HBX.out _ HB.out) _ _ hcl0
   have f0 := (HAT.out.below (HBX.out _ HB.out)).2.1
   have f1 := (HAT.out.below (HBX.out _ HB.out)).2.2.1
   rw [ints_get] at hcl
   obtain ⟨x, hx, hlx⟩ := HLX.out k hlt
   rw [← hx] at hcl
   have HLK := Lib.hid hlx
   have e1 := owns_cell2 HO.out (k * 2) (by rw [pairL_len]; omega)
   have e2 := owns_cell2 HO.out (k * 2 + 1) (by rw [pairL_len]; omega)
   have z1 := World.ownsRow.frozenAt HO.out (k * 2)
   have z2 := World.ownsRow.frozenAt HO.out (k * 2 + 1)
   have HS := Lib.hid (show ((wr.setCell ⟨(w.heap.size + 1), k * 2, Option.none⟩ (.slice fo F.1.length fc)).setCell ⟨(w.heap.size + 1), k * 2 + 1, Option.none⟩ uf).ownsRow (w.heap.size + 1) 38 2 (.slice (some ⟨(w.heap.size + 1), 0, Option.none⟩) at_.length at_.length) at_.length (pairL at_.length (upd A k (.slice fo F.1.length fc)) (upd B k uf)) by
    have q1 := (World.ownsRow.stored HO.out (k * 2) (.slice fo F.1.length fc)).1
    have q2 := (World.ownsRow.stored q1 (k * 2 + 1) uf).1
    rw [pairL_set1, pairL_set2] at q2
    exact q2)
   have HGS := Lib.hid (grown_trans (grown_trans HG.out (grown_setCell _ ⟨(w.heap.size + 1), k * 2, Option.none⟩ (.slice fo F.1.length fc))) (grown_setCell _ ⟨(w.heap.size + 1), k * 2 + 1, Option.none⟩ uf))
   have HBS := Lib.hid (show Below (w.heap.size + 1) w1 ((wr.setCell ⟨w.heap.size + 1, k * 2, Option.none⟩ (.slice fo F.1.length fc)).setCell ⟨w.heap.size + 1, k * 2 + 1, Option.none⟩ uf) from (HB.out.setCell (Nat.le_refl _) _).setCell (Nat.le_refl _) _)
   have HAS := Lib.hid (show ∀ i p, i < k → L[i]? = some p → IsArr ((wr.setCell ⟨(w.heap.size + 1), k * 2, Option.none⟩ (.slice fo F.1.length fc)).setCell ⟨(w.heap.size + 1), k * 2 + 1, Option.none⟩ uf) (fun b => (ok b ∧ b < w.heap.size) ∨ (w.heap.size + 1) < b) (A i) (B i) p from fun i p hi hp => (HA.out i p hi hp).keep ((Kept.setCell _ _ _ (by simp)).trans (Kept.setCell _ _ _ (by simp))) (fun _ _ h => h))
   clear hown hgr hcl0 hx hlx hA
   by_cases hin : 0 ≤ x ∧ x < (V.len : Int)
   ·have hi1 := hin.1
    have hi2 := hin.2
    have HIN := Lib.hid hin; clear hin
    go_wp2_with fail
    refine (vbox_calls _ V _ _ (HU.out.grow (HBX.out _ HBS.out)) HOK.out).mono ?_
    rintro e w2 ⟨sh', x', rfl, hAR, hB2⟩
    have hsx := hAR.2.store
    have HAR := Lib.hid hAR
    obtain ⟨so, sc, rfl, _⟩ := hAR.1.opened
    have HO2 := Lib.hid (owns_below2 HS.out hB2)
    have HG2 := Lib.hid (grown_trans HGS.out (grown_any (below_grown hB2) _))
    have HA2 := Lib.hid (show ∀ i p, i < k → L[i]? = some p → IsArr w2 (fun b => (ok b ∧ b < w.heap.size) ∨ (w.heap.size + 1) < b) (A i) (B i) p from fun i p hi hp => (HAS.out i p hi hp).keep (Kept.below hB2) (fun _ _ h => h))
    clear hB2 hAR e1 e2 z1 z2
    have e1 := owns_cell2 HO2.out (k * 2) (by rw [pairL_len]; omega)
    have e2 := owns_cell2 HO2.out (k * 2 + 1) (by rw [pairL_len]; omega)
    have z1 := World.ownsRow.frozenAt HO2.out (k * 2)
    have z2 := World.ownsRow.frozenAt HO2.out (k * 2 + 1)
    go_wp2
    go_roundw
    case rel =>
     refine ⟨k + 1, upd (upd A k (.slice fo F.1.length fc)) k (.slice so (atI V.boxs ([], .none) x).1.length sc), upd (upd B k uf) k x', by omega, by go_num, ?_, ?_, grown_trans (grown_trans HG2.out (grown_setCell _ ⟨(w.heap.size + 1), k * 2, Option.none⟩ _)) (grown_setCell _ ⟨(w.heap.size + 1), k * 2 + 1, Option.none⟩ _)⟩
     ·have q1 := (World.ownsRow.stored HO2.out (k * 2) (.slice so (atI V.boxs ([], .none) x).1.length sc)).1
      have q2 := (World.ownsRow.stored q1 (k * 2 + 1) x').1
      rw [pairL_set1, pairL_set2] at q2
      exact q2
     ·intro i p hi hp
      have kk : ∀ a y, Kept (fun b => (ok b ∧ b < w.heap.size) ∨ (w.heap.size + 1) < b) w2 ((w2.setCell ⟨(w.heap.size + 1), k * 2, Option.none⟩ a).setCell ⟨(w.heap.size + 1), k * 2 + 1, Option.none⟩ y) := fun a y => (Kept.setCell _ _ _ (by simp)).trans (Kept.setCell _ _ _ (by simp))
      by_cases e : i = k
      ·subst e
       simp only [upd, if_true]
       rw [HLK.out] at hp
       obtain rfl := Option.some.inj hp
       rw [atI_in (d := F) (e := ([], VV.none)) (by rw [HCL.out]; exact HIN.out)]
       exact (HAR.out.keep (ok' := fun b => (ok b ∧ b < w.heap.size) ∨ w.heap.size + 1 < b) (Kept.refl _ _) (fun b _ h => by
        rcases h with h | h
        ·exact Or.inl h.1
        ·exact Or.inr (by simp at h; omega))).keep (kk _ _) (fun _ _ h => h)
      ·simp only [upd, if_neg e]
       exact (HA2.out i p (by omega) hp).keep (kk _ _) (fun _ _ h => h)
    case measure => simp [intOf]; omega
   ·have HZ := Lib.hid (atI_neg (d := F) (l := V.boxs) (by rw [HCL.out]; exact hin))
    have hn : ¬ (0 ≤ x) ∨ (0 ≤ x ∧ ¬ (x < (V.len : Int))) := by omega
    clear hin
    rcases hn with hn | ⟨hn, hn2⟩
    all_goals
     go_wp2_with fail
     go_roundw
     case rel =>
      refine ⟨k + 1, _, _, by omega, by go_num, HS.out, ?_, HGS.out⟩
      intro i p hi hp
      by_cases e : i = k
      ·subst e
       simp only [upd, if_true]
       rw [HLK.out, HZ.out] at hp
       obtain rfl := Option.some.inj hp
       exact HFF.out.keep (Kept.below (HBX.out _ HBS.out)) (fun b _ h => .inl h)
      ·simp only [upd, if_neg e]
       exact HAS.out i p (by omega) hp
     case measure => simp [intOf]; omega
  ·have hkl : k = at_.length := by omega
   have HK := Lib.hid hkl; clear hown hA hgr hkl
   go_wp2
   go_ret
   refine ⟨_, rfl, ?_, HB1.out.trans (HB.out.mono (Nat.le_succ _))⟩
   have := HO.out
   rw [← HLL.out] at this ⊢
   refine arrs_of (by rw [HLL.out]; exact hm) this (.inr (Nat.le_succ _)) (fun i p hp => (HA.out i p ?_ hp).keep (Kept.refl _ _) (fun b _ h => by rcases h with h | h; exact .inl h.1; exact .inr (by omega)))
   have := List.getElem?_eq_some_iff.1 hp
   obtain ⟨h, _⟩ := this
   rw [HK.out, ← HLL.out]; exact h
end Go.Proofs.YtbdhibcbpgjbmaaGreatDoor

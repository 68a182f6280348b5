/- Package vec, walked: flags, Floats. -/
import Derived.Test.YtbdhibcbpgjbmaaGreatDoorVeF
namespace Go.Proofs.YtbdhibcbpgjbmaaGreatDoor
open Go.RowKit
set_option linter.unusedVariables false
set_option maxRecDepth 100000

/-- n cells z, but o at the places of S. -/
def marked (z o : Value) (n : Nat) (S : List Nat) : List Value := (List.range n).map fun i => if i ∈ S then o else z
theorem marked_nil (z o : Value) (n : Nat) : marked z o n [] = List.replicate n z := by
 apply List.ext_getElem (by simp [marked]); intro i h1 h2; simp [marked]
theorem marked_len (z o : Value) (n : Nat) (S : List Nat) : (marked z o n S).length = n := by simp [marked]
theorem marked_set (z o : Value) (n : Nat) (S : List Nat) (j : Nat) : (marked z o n S).set j o = marked z o n (S ++ [j]) := by
 apply List.ext_getElem (by simp [marked])
 intro i h1 h2
 rw [List.getElem_set]
 simp only [marked, List.getElem_map, List.getElem_range, List.mem_append, List.mem_singleton]
 by_cases e : j = i
 ·subst e; simp
 ·have e' : ¬ i = j := fun h => e h.symm
  simp [e, e']
theorem marked_take (z o : Value) (n : Nat) (S : List Nat) (k : Nat) (h : k < S.length) : (marked z o n (S.take k)).set (S[k]'h) o = marked z o n (S.take (k + 1)) := by
 rw [marked_set, List.take_succ_eq_append_getElem h]
theorem marked_all (z o : Value) (l : List Bool) : marked z o l.length ((List.range l.length).filter (sq l)) = l.map fun b => if b then o else z := by
 apply List.ext_getElem (by simp [marked])
 intro i h1 h2
 have hi : i < l.length := by simpa [marked] using h1
 simp [marked, hi, sq]
theorem ones_at (l : List Bool) (k : Nat) (h : k < ((List.range l.length).filter (sq l)).length) : ((List.range l.length).filter (sq l))[k] < l.length := by
 have := List.getElem_mem h
 simpa using (List.mem_filter.1 this).1
/-- 1 for each that is true. -/
def flagW (b : Bool) : Nat := if b then 4607182418800017408 else 0
def flagZ (b : Bool) : Int := if b then 1 else 0

set_option maxHeartbeats 1000000 in
theorem FlagsF_calls (v : Value) (l : List Bool) (w : World) (hv : IsBits w v l) (hl : l.length ≤ 1048576) (hT : TabAt w) :
  Calls Tryz.prog 83 #[v] w fun e w' => ∃ v, e = .returned v ∧ Slc w' (fun b => w.heap.size ≤ b) v l.length (f64s (l.map flagW)) ∧ Below w.heap.size w w' := by
 have HV := Lib.hid hv; have HT := Lib.hid hT
 obtain ⟨ao, cap, rfl, _⟩ := hv.opened
 clear hv hT
 obtain ⟨K, hK⟩ : ∃ K, (l.length + 63) / 64 = K := ⟨_, rfl⟩
 rw [hK] at HV ⊢
 clear hK
 have HE : Hid ((f64s (l.map flagW)) = l.map fun b => if b then (.float .f64 4607182418800017408) else (.float .f64 0)) := Lib.hid (by simp only [f64s, List.map_map]; apply List.map_congr_left; intro b _; cases b <;> rfl)
 rw [HE.out]
 obtain ⟨S, hS⟩ : ∃ S, S = (List.range l.length).filter (sq l) := ⟨_, rfl⟩
 have HON := Lib.hid (show onesTo (sq l) l.length = S.map fun j : Nat => (j : Int) by rw [hS]; rfl)
 have HSL := Lib.hid (show ∀ k (h : k < S.length), S[k]'h < l.length by subst hS; exact fun k h => ones_at l k h)
 have HAL := Lib.hid (show marked (.float .f64 0) (.float .f64 4607182418800017408) l.length S = l.map fun b => if b then (.float .f64 4607182418800017408) else (.float .f64 0) by rw [hS]; exact marked_all _ _ _)
 have hSm : S.length ≤ 1048576 := Nat.le_trans (by rw [hS]; simpa using List.length_filter_le (sq l) (List.range l.length)) hl
 clear hS
 have hmk := run_mkF1 l.length (by omega)
 have HM := Lib.hid hmk; clear hmk
 have hst := run_store_float
 go_enter Tryz.func83, Tryz.ntmps83
 go_wp2_with fail
 refine (len_calls _ l _ (HV.out.keep (keep_alloc _ _))).mono ?_
 rintro e w1 ⟨rfl, hB⟩
 have hA1 : Hid (At2 w1 w.heap.size (.int .i64 l.length) (.slice ao K cap)) := Lib.hid ((At2.new _ _ _ _).below hB)
 have hB1 : Hid (Below w.heap.size w w1) := Lib.hid ((below_new w (.cells #[.int .i64 l.length, .slice ao K cap] 81)).trans (hB.mono (by simp)))
 have hs1 : Hid (w.heap.size + 1 ≤ w1.heap.size) := Lib.hid (by have := hB.size; simpa using this)
 clear hB
 have hmk := HM.out w1
 obtain ⟨W0, hW0⟩ : ∃ W0, W0 = w1.alloc (.cells (zerosV (.float .f64 0) l.length) 31) := ⟨_, rfl⟩
 have HO0 : Hid (W0.ownsRow w1.heap.size 31 1 (.slice (some ⟨w1.heap.size, 0, none⟩) l.length l.length) l.length (List.replicate l.length (.float .f64 0))) := Lib.hid (by rw [hW0]; exact own_make1 _ _ _ (by omega) _ _ (Nat.le_refl _))
 have hB0 := Lib.hid (show Below w1.heap.size w1 W0 by rw [hW0]; exact below_new _ _)
 have HW := Lib.hid (hB1.out.trans (hB0.out.mono (by have := hs1.out; omega)))
 have HS0 := Lib.hid (show w1.heap.size < W0.heap.size by rw [hW0]; simp)
 have hA0 := Lib.hid (hA1.out.below hB0.out)
 obtain ⟨_, y0, y1, yf⟩ := hA0.out
 clear yf
 rw [← hW0] at hmk
 clear hW0
 go_wp2_with fail
 refine (ones_slc _ l _ (HV.out.keep (keep_below HW.out)) hl (fun j hj => keep_below HW.out _ _ (HT.out j hj))).mono ?_
 rintro e w2 ⟨v2, rfl, hs2, hB2⟩
 rw [HON.out] at hs2
 obtain ⟨ao2, cap2, rfl, _, _, _, hc2⟩ := hs2.opened
 simp only [List.length_map]
 have HC := Lib.hid hc2
 have HO2 := Lib.hid (owns_below HO0.out hB2)
 have HB2 := Lib.hid (HW.out.trans (hB2.mono HW.out.size))
 have HS2 := Lib.hid (show w1.heap.size < w2.heap.size from (HO2.out.lt w1.heap.size rfl).2)
 have Hs1 := hs1
 clear hc2 hs2 hB2 y0 y1 hmk hs1
 go_wp2
 go_loopw [12] (fun i wr => ∃ k : Nat, k ≤ S.length ∧ i = .int .i64 k ∧ wr.ownsRow w1.heap.size 31 1 (.slice (some ⟨w1.heap.size, 0, none⟩) l.length l.length) l.length (marked (.float .f64 0) (.float .f64 4607182418800017408) l.length (S.take k)) ∧ w2.grownBy wr (some w1.heap.size)) (fun i _ => S.length - (intOf i).toNat)
 case atStart => exact ⟨0, by omega, rfl, by rw [List.take_zero, marked_nil]; exact HO2.out, grown_refl _ _⟩
 case round =>
  obtain ⟨k, hk, rfl, hown, hgr⟩ := hrel
  have HO := Lib.hid hown; have HG := Lib.hid hgr
  have HB := Lib.hid (HB2.out.grown hgr HB2.out.size (fun j hj => by cases hj; have := Hs1.out; omega))
  by_cases hlt : k < S.length
  ·obtain ⟨b, off, rfl, hbb, hcl0⟩ := HC.out k (by rw [ints_len, List.length_map]; exact hlt)
   have hclk : wr.cell? ⟨b, off + k, none⟩ = some ((ints (S.map fun j : Nat => (j : Int)))[k]'(by rw [ints_len, List.length_map]; exact hlt)) := hgr.cell hcl0 (fun e => by have h1 := Option.some.inj e; have h2 := HS0.out; have h3 : W0.heap.size ≤ b := hbb; have h4 : b = w1.heap.size := h1; omega)
   rw [ints_get] at hclk
   simp only [List.getElem_map] at hclk
   have hj := HSL.out k hlt
   have HMT := Lib.hid (marked_take (.float .f64 0) (.float .f64 4607182418800017408) l.length S k hlt)
   obtain ⟨j, hjj⟩ : ∃ j, j = S[k]'hlt := ⟨_, rfl⟩
   rw [← hjj] at hclk hj HMT
   have hcw := owns_cell HO.out j (by rw [marked_len]; exact hj)
   have hfr := World.ownsRow.frozenAt HO.out j
   clear hown hgr hcl0 hjj hbb
   go_wp2
   go_roundw
   case rel =>
    refine ⟨k + 1, by omega, by go_num, ?_, grown_trans HG.out (grown_setCell _ ⟨w1.heap.size, j, none⟩ _)⟩
    have := (World.ownsRow.stored HO.out j (.float .f64 4607182418800017408)).1
    rwa [HMT.out] at this
   case measure => simp [intOf]; omega
  ·have hkl : k = S.length := by omega
   have HK := Lib.hid hkl; clear hown hgr hkl
   go_wp2
   go_ret
   refine ⟨_, rfl, ?_, HB.out⟩
   have := (Slc.owned HO.out).keep (Kept.refl _ _) (ok' := fun b => w.heap.size ≤ b) (fun b _ h => by have := Hs1.out; omega)
   rwa [HK.out, List.take_length, HAL.out] at this

end Go.Proofs.YtbdhibcbpgjbmaaGreatDoor

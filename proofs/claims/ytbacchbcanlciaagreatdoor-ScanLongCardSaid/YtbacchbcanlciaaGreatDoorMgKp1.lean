/- Merged: KpM, KpF, KpS. -/
import Derived.Test.YtbacchbcanlciaaGreatDoorMgAr1
import Derived.Test.YtbacchbcanlciaaGreatDoorMgSq1
import Derived.Test.YtbacchbcanlciaaGreatDoorMgVe1
namespace Go.Proofs.YtbacchbcanlciaaGreatDoor
set_option maxRecDepth 100000
open Go.RowKit Fl
set_option linter.unusedVariables false

def KepK (l : List Nat) (V : VV) : Prop := Kep l V ∧ 1 ≤ V.kind
def KepU (l : Option (List Nat)) (w : World) (e : Ending) (w' : World) : Prop :=
 ∃ u V, e = .returned (.tuple #[.agg #[u], .bool l.isSome]) ∧ IsV w' (fun b => w.heap.size ≤ b) u V ∧ (∀ t, l = some t → KepK t V) ∧ Below w.heap.size w w'
theorem kepk_floats {t : List Nat} (hl : t.length ≤ 1048576) (hN : ∀ x ∈ t, Num x) : KepK t (.floats t) := ⟨kep_floats hl hN, show (1 : Int) ≤ 4 by decide⟩
theorem kepk_into {t : List Nat} {k : Int} (hl : t.length ≤ 1048576) (hN : ∀ x ∈ t, Num x) (h : (VV.floats t).fit k = true) : KepK t ((VV.floats t).into k) := by
 refine ⟨kep_into hl hN h, ?_⟩
 rw [(VV.into_spec (V := VV.floats t) hl hN h).1]
 have h4 : (VV.floats t).kind = 4 := rfl
 unfold VV.fit at h
 simp only [Bool.or_eq_true, Bool.and_eq_true, decide_eq_true_eq] at h
 omega
end Go.Proofs.YtbacchbcanlciaaGreatDoor

namespace Go.Proofs.YtbacchbcanlciaaGreatDoor
set_option maxRecDepth 100000
open Go.RowKit Fl
set_option linter.unusedVariables false

end Go.Proofs.YtbacchbcanlciaaGreatDoor

namespace Go.Proofs.YtbacchbcanlciaaGreatDoor
set_option maxRecDepth 100000
open Go.RowKit Fl
set_option linter.unusedVariables false

set_option maxHeartbeats 8000000 in
theorem kept14_yes {ok : Nat → Prop} (v : Value) (l : List Nat) (kind : Int) (w : World) (hv : Slc w ok v l.length (f64s l)) (hm : l.length ≤ 1048576) (hF : ∀ x ∈ l, Fnt x) (hT : TabAt w) :
  Calls Tryz.prog 7 #[v, .int .i64 kind] w (KepU (some (l.map ze)) w) := by
 obtain ⟨W1, hW1⟩ : ∃ W1, W1 = w.alloc (.cells #[.nilIface] 25) := ⟨_, rfl⟩
 have HB := Lib.hid (show Below w.heap.size w W1 by rw [hW1]; exact below_new _ _)
 have HSZ := Lib.hid (show W1.heap.size = w.heap.size + 1 by rw [hW1]; simp)
 have HR := Lib.hid (show At1 W1 w.heap.size .nilIface by rw [hW1]; exact At1.new w _ _)
 have HV := Lib.hid (hv.below HB.out)
 have HT := Lib.hid (show TabAt W1 from fun j hj => keep_below HB.out _ _ (hT j hj))
 have HF := Lib.hid hF
 have HM := Lib.hid (show l.length ≤ 2000000 by omega)
 have HM2 := Lib.hid hm
 have HW1 := Lib.hid (Below.refl W1.heap.size W1)
 have hfold := hW1.symm
 clear hv hT hF hm hW1
 obtain ⟨t, ht⟩ : ∃ t, l.map ze = t := ⟨_, rfl⟩
 have HTE := Lib.hid ht
 have HTN := Lib.hid (show ∀ x ∈ t, Num x by rw [← ht]; intro x hx; obtain ⟨y, hy, rfl⟩ := List.mem_map.1 hx; exact ze_num (HF.out y hy))
 have HTL := Lib.hid (show t.length ≤ 1048576 by rw [← ht, List.length_map]; exact HM2.out)
 rw [ht]; clear ht; have cHR0 := HR.out.2.1; have zHR0 := HR.out.2.2 0
 go_enter Tryz.func7, Tryz.ntmps7
 go_wp2_with fail
 clear hfold; have hO := HW1.out.size
 refine (vfloats_yes _ l _ HV.out HM.out HF.out).mono ?_
 rintro e W11 ⟨u, rfl, hu, hB⟩
 clear cHR0 zHR0; replace HB := cb hB HB; replace HW1 := cb hB HW1; replace HT := HT.go hB; replace HV := HV.go hB; replace HR := HR.go hB
 rw [HTE.out] at hu
 have HU := Lib.hid (show IsV W11 (fun b => w.heap.size + 1 ≤ b ∧ b < W11.heap.size) u (.floats t) from hu.wide (fun b hb h => ⟨by have h : W1.heap.size ≤ b := h; have := HSZ.out; omega, hb⟩))
 have hsu := hu.store; clear hu hO; clear hB; clear HV
 obtain ⟨vbk, hvb⟩ : ∃ x, W11.heap.size = x := ⟨_, rfl⟩
 have HVB := Lib.hid hvb
 rw [hvb] at HU
 have HGE := Lib.hid (show w.heap.size + 1 ≤ vbk by rw [← hvb]; have := HW1.out.size; have := HSZ.out; omega)
 clear hvb
 obtain ⟨W12, hWn⟩ : ∃ xw9, W11.alloc (.cells #[u] 25) = xw9 := ⟨_, rfl⟩
 have hB : Below W11.heap.size W11 W12 := by rw [← hWn]; exact below_new _ _
 have hNB : At1 W12 vbk u := by rw [← hWn, ← HVB.out]; exact At1.new _ _ _
 replace HB := cb hB HB; replace HW1 := cb hB HW1; replace HT := HT.go hB; replace HR := HR.go hB; replace HU := HU.go hB; have HVA := Lib.hid hNB; clear hNB hB; have hvbe := HVB.out; have cHR0 := HR.out.2.1; have zHR0 := HR.out.2.2 0; have cHVA0 := HVA.out.2.1; have zHVA0 := HVA.out.2.2 0
 go_wp2_with fail
 clear hWn hvbe; have HO := HVA.out.1
 refine (sinto_calls _ (.floats t) kind _ HU.out HTL.out HTN.out HT.out).mono ?_
 rintro e W13 ⟨ux, rfl, hux, hB⟩
 clear cHR0 zHR0 cHVA0 zHVA0; replace HB := cb hB HB; replace HW1 := cb hB HW1; replace HT := HT.go hB; replace HR := HR.go hB; replace HU := HU.go hB; replace HVA := HVA.go hB
 have HX := Lib.hid (show IsV W13 (fun b => b ≠ vbk ∧ w.heap.size + 1 ≤ b) ux (((.floats t : VV)).into kind) from hux.wide (fun b _ h => h.elim (fun h => ⟨Nat.ne_of_lt h.2, h.1⟩) (fun h => ⟨Nat.ne_of_gt (Nat.lt_of_lt_of_le HO h), Nat.le_trans HGE.out (Nat.le_trans (Nat.le_of_lt HO) h)⟩)))
 have hsx := hux.store; clear hux HO; clear hB
 obtain ⟨W14, hWn, hB, hNB⟩ := ahd1 W13 (ux) 25
 replace HB := cb hB HB; replace HW1 := cb hB HW1; replace HT := HT.go hB; replace HR := HR.go hB; replace HU := HU.go hB; replace HVA := HVA.go hB; replace HX := HX.go hB; have HXA := Lib.hid hNB; clear hNB hB
 have hne : vbk ≠ w.heap.size := by have := HGE.out; omega
 have hne2 : w.heap.size ≠ vbk := fun h => hne h.symm
 by_cases hft : ((.floats t) : VV).fit kind = true
 ·rw [hft]; have HFT := Lib.hid hft; clear hft; have cHR0 := HR.out.2.1; have zHR0 := HR.out.2.2 0; have cHVA0 := HVA.out.2.1; have zHVA0 := HVA.out.2.2 0; have cHXA0 := HXA.out.2.1
  go_wp2_with fail
  clear hWn
  refine bodyPost_ret (v := .tuple #[.agg #[ux], .bool true]) (by simp [results, Tryz.results7, go_sem, cHR0]) rfl ⟨ux, _, rfl, ?_, fun t9 h9 => by cases h9; exact kepk_into HTL.out HTN.out HFT.out, (HB.out.setCell (by have := HGE.out; show w.heap.size ≤ vbk; omega) _).setCell (Nat.le_refl _) _⟩
  exact HX.out.keep ((Kept.setCell _ _ _ (fun h => h.1 rfl)).trans (Kept.setCell _ _ _ (fun h => by have h2 := h.2; simp at h2; omega))) (fun b _ h => by have := h.2; omega)
 ·have hft2 : ((.floats t) : VV).fit kind = false := by simpa using hft
  rw [hft2]; clear hft hft2; have cHR0 := HR.out.2.1; have zHR0 := HR.out.2.2 0; have cHVA0 := HVA.out.2.1; have zHVA0 := HVA.out.2.2 0; have cHXA0 := HXA.out.2.1
  go_wp2_with fail
  clear hWn
  refine bodyPost_ret (v := .tuple #[.agg #[u], .bool true]) (by simp [results, Tryz.results7, go_sem, cHR0]) rfl ⟨u, _, rfl, ?_, fun t9 h9 => by cases h9; exact kepk_floats HTL.out HTN.out, HB.out.setCell (Nat.le_refl _) _⟩
  exact HU.out.keep (Kept.setCell _ _ _ (fun h => by have h2 := h.1; simp at h2; omega)) (fun b _ h => by have := h.1; omega)
end Go.Proofs.YtbacchbcanlciaaGreatDoor

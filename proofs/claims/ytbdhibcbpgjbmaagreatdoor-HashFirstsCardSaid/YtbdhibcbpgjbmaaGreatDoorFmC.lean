/- What flat's functions make, as items: plain. -/
import Derived.Test.YtbdhibcbpgjbmaaGreatDoorFmA
import Derived.Test.YtbdhibcbpgjbmaaGreatDoorFmB
namespace Go.Proofs.YtbdhibcbpgjbmaaGreatDoor
set_option maxRecDepth 100000
open Go.RowKit Fl
set_option linter.unusedVariables false

theorem its_num {d : Nat} {V : VV} (h : V.cls = 0) : itsA d V = V.nums.map fun x => (0, x, 0, []) := by
 unfold itsA
 rw [← VV.nums_length h]
 exact map_range_eq fun i x hx => by unfold itA; rw [if_neg (by omega), if_neg (by omega), atI_some hx]
theorem its_chr {d : Nat} {V : VV} (h : V.cls = 1) : itsA d V = V.text.map fun x => (1, 0, x, []) := by
 unfold itsA
 rw [← VV.text_len h]
 exact map_range_eq fun i x hx => by unfold itA; rw [if_pos h, atI_some hx]
theorem its_box {d : Nat} {V : VV} (h : V.cls = 2) : itsA d V = V.boxs.map fun a => (2, 0, 0, [plA d a]) := by
 unfold itsA
 rw [← VV.boxs_len h]
 exact map_range_eq fun i x hx => by unfold itA; rw [if_neg (by omega), if_pos h, atI_some hx]
theorem atI_in2 {l : List PI} {d : PI} {k : Nat} {i : Int} (h : i = (k : Int)) (hk : k < l.length) : atI l d i = l[k] := by subst h; exact atI_nat hk
theorem map_atI {l : List PI} {d : PI} {at_ : List Int} {m : List PI} (hl : at_.length = m.length) (h : ∀ k (h1 : k < at_.length) (h2 : k < m.length), ∃ j, ∃ hj : j < l.length, at_[k] = (j : Int) ∧ m[k] = l[j]) : at_.map (atI l d) = m := by
 apply List.ext_getElem (by simpa using hl)
 intro k h1 h2
 have h1' : k < at_.length := by simpa using h1
 obtain ⟨j, hj, e1, e2⟩ := h k h1' h2
 rw [List.getElem_map, e1, atI_nat hj, e2]
/-- Turned. -/
theorem its_turn {d : Nat} {V : VV} (h : gV (d + 1) V) : itsA (d + 1) (V.sel (turnL V.len)) = (itsA (d + 1) V).reverse := by
 rw [its_sel h (by rw [turnL_len]; exact VV.ok_len h.1)]
 refine map_atI (by simp [turnL_len, itsA_len]) fun k h1 h2 => ?_
 have hk : k < V.len := by simpa [turnL_len] using h1
 refine ⟨V.len - 1 - k, by rw [itsA_len]; omega, ?_, ?_⟩
 ·simp only [turnL, List.getElem_map, List.getElem_range]; omega
 ·rw [List.getElem_reverse]; simp [itsA_len]
theorem its_again {d : Nat} {V : VV} {m : Nat} (h : gV (d + 1) V) (hm : m ≤ 1048576) : itsA (d + 1) (V.sel (againL (max V.len 1) m)) = againI (itsA (d + 1) V) V.cls m := by
 rw [its_sel h (by rw [againL_len]; exact hm)]
 unfold againI againL
 rw [List.map_map]
 apply List.map_congr_left
 intro i hi
 have hi : i < m := by simpa using hi
 show atI _ _ ((i : Int) % ((max V.len 1 : Nat) : Int)) = _
 rw [itsA_len]
 by_cases h0 : V.len = 0
 ·rw [if_pos h0, atI_neg]
  rw [itsA_len]; omega
 ·rw [if_neg h0, show max V.len 1 = V.len by omega, Int.natCast_emod]
theorem gV_cut {d : Nat} {V : VV} {a b : Int} (h : gV (d + 1) V) : gV (d + 1) (V.cut a b) := by
 unfold VV.cut
 by_cases hb : V.isBit = true
 ·rw [if_pos hb]
  have := VV.packed_ok h.1
  exact ⟨by simp [VV.ok]; omega, trivial, rfl, fun a ha => by simp [VV.boxs] at ha⟩
 ·rw [if_neg hb]
  exact gV_sel h (by rw [cutL_len]; have := VV.ok_len h.1; have := cl8_le b V.len; omega)
theorem cls_cut {d : Nat} {V : VV} {a b : Int} (h : gV (d + 1) V) : (V.cut a b).cls = V.cls := by
 unfold VV.cut
 by_cases hb : V.isBit = true
 ·rw [if_pos hb, VV.bit_cls hb]; rfl
 ·rw [if_neg hb]
  exact VV.sel_cls _ _ (VV.nums_num h.1 h.2.1) (by rw [cutL_len]; have := VV.ok_len h.1; have := cl8_le b V.len; omega)
theorem its_cut {d : Nat} {V : VV} {a b : Int} (h : gV (d + 1) V) : itsA (d + 1) (V.cut a b) = ((itsA (d + 1) V).take (cl8 b V.len)).drop (cl8 a V.len) := by
 have ha := cl8_le a V.len
 have hbl := cl8_le b V.len
 by_cases hb : V.isBit = true
 ·have e : V.cut a b = .bits ((V.packed.take (cl8 b V.len)).drop (cl8 a V.len)) := if_pos hb
  rw [e, its_num (VV.bit_cls hb), its_num rfl]
  have en : V.nums = V.packed.map flagW := by cases V <;> simp_all [VV.isBit, VV.nums, VV.packed]
  rw [en]
  simp only [VV.nums, List.map_drop, List.map_take]
 ·have e : V.cut a b = V.sel (cutL (cl8 a V.len) (cl8 b V.len - cl8 a V.len)) := if_neg hb
  rw [e, its_sel h (by rw [cutL_len]; have := VV.ok_len h.1; omega)]
  refine map_atI (by simp [cutL_len, itsA_len]; omega) fun k h1 h2 => ?_
  have hk : k < cl8 b V.len - cl8 a V.len := by simpa [cutL_len] using h1
  refine ⟨cl8 a V.len + k, by rw [itsA_len]; omega, ?_, ?_⟩
  ·simp only [cutL, List.getElem_map, List.getElem_range]; omega
  ·rw [List.getElem_drop, List.getElem_take]
end Go.Proofs.YtbdhibcbpgjbmaaGreatDoor

/- Layer 5: squeezed kinds; the law's awake. -/
import Derived.Test.YtbdhibcbpgjbmaaGreatDoorSqE
namespace Go.Proofs.YtbdhibcbpgjbmaaGreatDoor
open Go.RowKit Fl
set_option linter.unusedVariables false
set_option maxRecDepth 100000

theorem VV.least_eq {V : VV} (hok : V.ok) (hn : V.nm) (h : V.cls = 0) : V.least = leastW V.nums := by
 by_cases h1 : V.kind = 1
 ·have a := VV.leastW_le hok hn h
  have b := VV.least_oth (.inl h1)
  have c := _root_.Go.Proofs.YtbdhibcbpgjbmaaGreatDoor.leastW_le V.nums
  omega
 ·exact VV.least_num h1 h
theorem VV.sq_kind {V : VV} (hok : V.ok) (hn : V.nm) (h : V.cls = 0) : V.sq.kind = (leastW V.nums : Int) := by
 rw [(VV.sq_spec hok hn).1, VV.least_eq hok hn h]
theorem VV.fit_eq {V : VV} (hok : V.ok) (hn : V.nm) (h : V.cls = 0) (h1 : (leastW V.nums : Int) ≤ V.kind) (h4 : V.kind ≤ 4) (k : Int) : V.fit k = (decide ((leastW V.nums : Int) ≤ k) && decide (k ≤ 4)) := by
 have hb := _root_.Go.Proofs.YtbdhibcbpgjbmaaGreatDoor.leastW_le V.nums
 unfold VV.fit
 rw [VV.least_eq hok hn h, Bool.eq_iff_iff]
 simp only [Bool.or_eq_true, Bool.and_eq_true, decide_eq_true_eq]
 constructor
 ·rintro (h | ⟨⟨h, h2⟩, h3⟩)
  ·omega
  ·omega
 ·intro h5
  by_cases hk : V.kind = k
  ·exact .inl hk
  ·exact .inr ⟨⟨h, by omega⟩, h5.1⟩
theorem wh_ofInt {n : Int} {c : Nat} (h : n.natAbs ≤ 9007199254740992) (hc : floatOfInt .f64 n = c) : Wh c n := by
 subst hc; exact ⟨ofInt_fin n (by omega), h, ofInt_val n h⟩
theorem kindW_c {n : Int} {c : Nat} (h : n.natAbs ≤ 9007199254740992) (hc : floatOfInt .f64 n = c) : kindW c = kindZ n := kindW_wh (wh_ofInt h hc)
instance (x : Nat) : Decidable (Fnt x) := inferInstanceAs (Decidable (x < 18446744073709551616 ∧ x % 9223372036854775808 < 9218868437227405312))
theorem half_fin : Fnt 4602678819172646912 := by decide
theorem kindW_half : kindW 4602678819172646912 = 4 := by
 refine kindW_no (fun n hn => ?_)
 have h1 := wh_int _ _ hn
 have h2 : floatToIntVal .f64 4602678819172646912 .i64 = some 0 := by decide +kernel
 rw [h2] at h1
 have h3 : n = 0 := (Option.some.inj h1).symm
 subst h3
 have h4 := hn.2.2
 rw [Int.zero_mul] at h4
 exact absurd (V_eq_zero.1 h4) (by decide +kernel)
theorem awl0 : ([4607182418800017408, 0] : List Nat).map ze = [4607182418800017408, 0] := by decide +kernel
theorem awk0 : (VV.floats (([4607182418800017408, 0] : List Nat).map ze)).sq.kind = 1 := by
 have hf : ∀ x ∈ ([4607182418800017408, 0] : List Nat), Fnt x := by decide +kernel
 have hok : (VV.floats ([4607182418800017408, 0] : List Nat)).ok := by show ([4607182418800017408, 0] : List Nat).length ≤ 1048576; decide
 have hn : (VV.floats ([4607182418800017408, 0] : List Nat)).nm := by
  show ∀ x ∈ ([4607182418800017408, 0] : List Nat), Num x
  rw [← awl0]
  intro x hx
  obtain ⟨y, hy, rfl⟩ := List.mem_map.1 hx
  exact Fl.ze_num (hf y hy)
 rw [awl0, VV.sq_kind hok hn rfl]
 show ((leastW ([4607182418800017408, 0] : List Nat) : Nat) : Int) = 1
 simp only [leastW_cons, leastW_nil]
 rw [kindW_c (n := 1) (by decide) (by decide +kernel), kindW_c (n := 0) (by decide) (by decide +kernel)]; decide
theorem awl1 : ([4611686018427387904, 13837309855095848960] : List Nat).map ze = [4611686018427387904, 13837309855095848960] := by decide +kernel
theorem awk1 : (VV.floats (([4611686018427387904, 13837309855095848960] : List Nat).map ze)).sq.kind = 2 := by
 have hf : ∀ x ∈ ([4611686018427387904, 13837309855095848960] : List Nat), Fnt x := by decide +kernel
 have hok : (VV.floats ([4611686018427387904, 13837309855095848960] : List Nat)).ok := by show ([4611686018427387904, 13837309855095848960] : List Nat).length ≤ 1048576; decide
 have hn : (VV.floats ([4611686018427387904, 13837309855095848960] : List Nat)).nm := by
  show ∀ x ∈ ([4611686018427387904, 13837309855095848960] : List Nat), Num x
  rw [← awl1]
  intro x hx
  obtain ⟨y, hy, rfl⟩ := List.mem_map.1 hx
  exact Fl.ze_num (hf y hy)
 rw [awl1, VV.sq_kind hok hn rfl]
 show ((leastW ([4611686018427387904, 13837309855095848960] : List Nat) : Nat) : Int) = 2
 simp only [leastW_cons, leastW_nil]
 rw [kindW_c (n := 2) (by decide) (by decide +kernel), kindW_c (n := -3) (by decide) (by decide +kernel)]; decide
theorem awl2 : ([4641240890982006784] : List Nat).map ze = [4641240890982006784] := by decide +kernel
theorem awk2 : (VV.floats (([4641240890982006784] : List Nat).map ze)).sq.kind = 3 := by
 have hf : ∀ x ∈ ([4641240890982006784] : List Nat), Fnt x := by decide +kernel
 have hok : (VV.floats ([4641240890982006784] : List Nat)).ok := by show ([4641240890982006784] : List Nat).length ≤ 1048576; decide
 have hn : (VV.floats ([4641240890982006784] : List Nat)).nm := by
  show ∀ x ∈ ([4641240890982006784] : List Nat), Num x
  rw [← awl2]
  intro x hx
  obtain ⟨y, hy, rfl⟩ := List.mem_map.1 hx
  exact Fl.ze_num (hf y hy)
 rw [awl2, VV.sq_kind hok hn rfl]
 show ((leastW ([4641240890982006784] : List Nat) : Nat) : Int) = 3
 simp only [leastW_cons, leastW_nil]
 rw [kindW_c (n := 200) (by decide) (by decide +kernel)]; decide
theorem awl3 : ([4602678819172646912] : List Nat).map ze = [4602678819172646912] := by decide +kernel
theorem awk3 : (VV.floats (([4602678819172646912] : List Nat).map ze)).sq.kind = 4 := by
 have hf : ∀ x ∈ ([4602678819172646912] : List Nat), Fnt x := by decide +kernel
 have hok : (VV.floats ([4602678819172646912] : List Nat)).ok := by show ([4602678819172646912] : List Nat).length ≤ 1048576; decide
 have hn : (VV.floats ([4602678819172646912] : List Nat)).nm := by
  show ∀ x ∈ ([4602678819172646912] : List Nat), Num x
  rw [← awl3]
  intro x hx
  obtain ⟨y, hy, rfl⟩ := List.mem_map.1 hx
  exact Fl.ze_num (hf y hy)
 rw [awl3, VV.sq_kind hok hn rfl]
 show ((leastW ([4602678819172646912] : List Nat) : Nat) : Int) = 4
 simp only [leastW_cons, leastW_nil]
 rw [kindW_half]; decide

end Go.Proofs.YtbdhibcbpgjbmaaGreatDoor

/- Merged: ReM, ReA, ReB, ReC, ReD, ReE, ReF. -/
import Derived.Test.YtghojndkcndjbaaGreatDoorMgAr1
import Derived.Test.YtghojndkcndjbaaGreatDoorMgMo1
import Derived.Test.YtghojndkcndjbaaGreatDoorMgBv1
import Derived.Test.YtghojndkcndjbaaGreatDoorMgVe1
import Derived.Test.YtghojndkcndjbaaGreatDoorMgSq1
/- Layer 11, plain: which relations hold of two numbers, and of all elements of two lists. -/
namespace Go.Proofs.YtghojndkcndjbaaGreatDoor
set_option maxRecDepth 100000
open Go.RowKit Fl
set_option linter.unusedVariables false

/-- Does a relation hold of two words? -/
def relB (f : Int) (a b : Nat) : Bool :=
 if f = 11 then decide (V a < V b) else if f = 12 then decide (V a ≤ V b) else if f = 13 then decide (V a = V b)
 else if f = 14 then decide (V b ≤ V a) else if f = 15 then decide (V b < V a) else if f = 16 then decide (V a ≠ V b) else false
def relE (f : Int) : Int := if 11 ≤ f ∧ f ≤ 16 then 0 else 1
theorem rel_cases (f : Int) : f = 11 ∨ f = 12 ∨ f = 13 ∨ f = 14 ∨ f = 15 ∨ f = 16 ∨ ¬ (11 ≤ f ∧ f ≤ 16) := by omega
theorem relB_none {f : Int} (a b : Nat) (h : ¬ (11 ≤ f ∧ f ≤ 16)) : relB f a b = false := by
 unfold relB
 rw [if_neg (by omega), if_neg (by omega), if_neg (by omega), if_neg (by omega), if_neg (by omega), if_neg (by omega)]
/-- Two finite words: how their orders stand, both ways. -/
theorem ord_both {a b : Nat} (ha : Fnt a) (hb : Fnt b) :
  (V a < V b ∧ FloatKind.f64.format.order a b = some .lt ∧ FloatKind.f64.format.order b a = some .gt) ∨
  (V a = V b ∧ FloatKind.f64.format.order a b = some .eq ∧ FloatKind.f64.format.order b a = some .eq) ∨
  (V b < V a ∧ FloatKind.f64.format.order a b = some .gt ∧ FloatKind.f64.format.order b a = some .lt) := by
 rcases ord_cases ha hb with ⟨h, o⟩ | ⟨h, o⟩ | ⟨h, o⟩
 ·exact .inl ⟨h, o, ord_gt hb ha h⟩
 ·exact .inr (.inl ⟨h, o, ord_eq hb ha h.symm⟩)
 ·exact .inr (.inr ⟨h, o, ord_lt hb ha h⟩)
theorem VV.bit_nums {V : VV} (h : V.isBit = true) : V.nums = V.packed.map flagW ∧ V.packed.length = V.len ∧ V.cls = 0 := by
 cases V <;> first | exact ⟨rfl, rfl, rfl⟩ | simp [VV.isBit] at h
theorem VV.cls3 (V : VV) : V.cls = 0 ∨ V.cls = 1 ∨ V.cls = 2 := by cases V <;> simp [VV.cls]
end Go.Proofs.YtghojndkcndjbaaGreatDoor

/- Layer 11: One of the reference; known, allowed, holds, at, One of the program, walked. -/
namespace Go.Proofs.YtghojndkcndjbaaGreatDoor
set_option maxRecDepth 100000
open Go.RowKit Fl
set_option linter.unusedVariables false

set_option maxHeartbeats 4000000 in
theorem rrone_calls (f : Int) (a b : Nat) (w : World) (ha : Fnt a) (hb : Fnt b) : Calls Tryz.prog 39 #[.int .i64 f, .float .f64 a, .float .f64 b] w fun e w' => e = .returned (.tuple #[.bool (relB f a b), .int .i64 (relE f)]) ∧ w = w' := by
 rcases ord_both ha hb with ⟨hv, o1, o2⟩ | ⟨hv, o1, o2⟩ | ⟨hv, o1, o2⟩
 ·clear ha hb
  rcases rel_cases f with rfl | rfl | rfl | rfl | rfl | rfl | hf
  ·have HE := Lib.hid (show relB 11 a b = true by simp [relB]; omega)
   have HG := Lib.hid (show relE 11 = 0 from rfl)
   rw [HE.out, HG.out]
   clear hv
   go_enter Tryz.func39, Tryz.ntmps39
   go_wp2
   go_ret2
   exact ⟨rfl, rfl⟩
  ·have HE := Lib.hid (show relB 12 a b = true by simp [relB]; omega)
   have HG := Lib.hid (show relE 12 = 0 from rfl)
   rw [HE.out, HG.out]
   clear hv
   go_enter Tryz.func39, Tryz.ntmps39
   go_wp2
   go_ret2
   exact ⟨rfl, rfl⟩
  ·have HE := Lib.hid (show relB 13 a b = false by simp [relB]; omega)
   have HG := Lib.hid (show relE 13 = 0 from rfl)
   rw [HE.out, HG.out]
   clear hv
   go_enter Tryz.func39, Tryz.ntmps39
   go_wp2
   go_ret2
   exact ⟨rfl, rfl⟩
  ·have HE := Lib.hid (show relB 14 a b = false by simp [relB]; omega)
   have HG := Lib.hid (show relE 14 = 0 from rfl)
   rw [HE.out, HG.out]
   clear hv
   go_enter Tryz.func39, Tryz.ntmps39
   go_wp2
   go_ret2
   exact ⟨rfl, rfl⟩
  ·have HE := Lib.hid (show relB 15 a b = false by simp [relB]; omega)
   have HG := Lib.hid (show relE 15 = 0 from rfl)
   rw [HE.out, HG.out]
   clear hv
   go_enter Tryz.func39, Tryz.ntmps39
   go_wp2
   go_ret2
   exact ⟨rfl, rfl⟩
  ·have HE := Lib.hid (show relB 16 a b = true by simp [relB]; omega)
   have HG := Lib.hid (show relE 16 = 0 from rfl)
   rw [HE.out, HG.out]
   clear hv
   go_enter Tryz.func39, Tryz.ntmps39
   go_wp2
   go_ret2
   exact ⟨rfl, rfl⟩
  ·have HE := Lib.hid (relB_none a b hf)
   have HG := Lib.hid (show relE f = 1 from if_neg hf)
   rw [HE.out, HG.out]
   have n11 : (f == 11) = false := by rw [beq_eq_false_iff_ne]; omega
   have n12 : (f == 12) = false := by rw [beq_eq_false_iff_ne]; omega
   have n13 : (f == 13) = false := by rw [beq_eq_false_iff_ne]; omega
   have n14 : (f == 14) = false := by rw [beq_eq_false_iff_ne]; omega
   have n15 : (f == 15) = false := by rw [beq_eq_false_iff_ne]; omega
   have n16 : (f == 16) = false := by rw [beq_eq_false_iff_ne]; omega
   clear hv hf
   go_enter Tryz.func39, Tryz.ntmps39
   go_wp2
   go_ret2
   exact ⟨rfl, rfl⟩
 ·clear ha hb
  rcases rel_cases f with rfl | rfl | rfl | rfl | rfl | rfl | hf
  ·have HE := Lib.hid (show relB 11 a b = false by simp [relB]; omega)
   have HG := Lib.hid (show relE 11 = 0 from rfl)
   rw [HE.out, HG.out]
   clear hv
   go_enter Tryz.func39, Tryz.ntmps39
   go_wp2
   go_ret2
   exact ⟨rfl, rfl⟩
  ·have HE := Lib.hid (show relB 12 a b = true by simp [relB]; omega)
   have HG := Lib.hid (show relE 12 = 0 from rfl)
   rw [HE.out, HG.out]
   clear hv
   go_enter Tryz.func39, Tryz.ntmps39
   go_wp2
   go_ret2
   exact ⟨rfl, rfl⟩
  ·have HE := Lib.hid (show relB 13 a b = true by simp [relB]; omega)
   have HG := Lib.hid (show relE 13 = 0 from rfl)
   rw [HE.out, HG.out]
   clear hv
   go_enter Tryz.func39, Tryz.ntmps39
   go_wp2
   go_ret2
   exact ⟨rfl, rfl⟩
  ·have HE := Lib.hid (show relB 14 a b = true by simp [relB]; omega)
   have HG := Lib.hid (show relE 14 = 0 from rfl)
   rw [HE.out, HG.out]
   clear hv
   go_enter Tryz.func39, Tryz.ntmps39
   go_wp2
   go_ret2
   exact ⟨rfl, rfl⟩
  ·have HE := Lib.hid (show relB 15 a b = false by simp [relB]; omega)
   have HG := Lib.hid (show relE 15 = 0 from rfl)
   rw [HE.out, HG.out]
   clear hv
   go_enter Tryz.func39, Tryz.ntmps39
   go_wp2
   go_ret2
   exact ⟨rfl, rfl⟩
  ·have HE := Lib.hid (show relB 16 a b = false by simp [relB]; omega)
   have HG := Lib.hid (show relE 16 = 0 from rfl)
   rw [HE.out, HG.out]
   clear hv
   go_enter Tryz.func39, Tryz.ntmps39
   go_wp2
   go_ret2
   exact ⟨rfl, rfl⟩
  ·have HE := Lib.hid (relB_none a b hf)
   have HG := Lib.hid (show relE f = 1 from if_neg hf)
   rw [HE.out, HG.out]
   have n11 : (f == 11) = false := by rw [beq_eq_false_iff_ne]; omega
   have n12 : (f == 12) = false := by rw [beq_eq_false_iff_ne]; omega
   have n13 : (f == 13) = false := by rw [beq_eq_false_iff_ne]; omega
   have n14 : (f == 14) = false := by rw [beq_eq_false_iff_ne]; omega
   have n15 : (f == 15) = false := by rw [beq_eq_false_iff_ne]; omega
   have n16 : (f == 16) = false := by rw [beq_eq_false_iff_ne]; omega
   clear hv hf
   go_enter Tryz.func39, Tryz.ntmps39
   go_wp2
   go_ret2
   exact ⟨rfl, rfl⟩
 ·clear ha hb
  rcases rel_cases f with rfl | rfl | rfl | rfl | rfl | rfl | hf
  ·have HE := Lib.hid (show relB 11 a b = false by simp [relB]; omega)
   have HG := Lib.hid (show relE 11 = 0 from rfl)
   rw [HE.out, HG.out]
   clear hv
   go_enter Tryz.func39, Tryz.ntmps39
   go_wp2
   go_ret2
   exact ⟨rfl, rfl⟩
  ·have HE := Lib.hid (show relB 12 a b = false by simp [relB]; omega)
   have HG := Lib.hid (show relE 12 = 0 from rfl)
   rw [HE.out, HG.out]
   clear hv
   go_enter Tryz.func39, Tryz.ntmps39
   go_wp2
   go_ret2
   exact ⟨rfl, rfl⟩
  ·have HE := Lib.hid (show relB 13 a b = false by simp [relB]; omega)
   have HG := Lib.hid (show relE 13 = 0 from rfl)
   rw [HE.out, HG.out]
   clear hv
   go_enter Tryz.func39, Tryz.ntmps39
   go_wp2
   go_ret2
   exact ⟨rfl, rfl⟩
  ·have HE := Lib.hid (show relB 14 a b = true by simp [relB]; omega)
   have HG := Lib.hid (show relE 14 = 0 from rfl)
   rw [HE.out, HG.out]
   clear hv
   go_enter Tryz.func39, Tryz.ntmps39
   go_wp2
   go_ret2
   exact ⟨rfl, rfl⟩
  ·have HE := Lib.hid (show relB 15 a b = true by simp [relB]; omega)
   have HG := Lib.hid (show relE 15 = 0 from rfl)
   rw [HE.out, HG.out]
   clear hv
   go_enter Tryz.func39, Tryz.ntmps39
   go_wp2
   go_ret2
   exact ⟨rfl, rfl⟩
  ·have HE := Lib.hid (show relB 16 a b = true by simp [relB]; omega)
   have HG := Lib.hid (show relE 16 = 0 from rfl)
   rw [HE.out, HG.out]
   clear hv
   go_enter Tryz.func39, Tryz.ntmps39
   go_wp2
   go_ret2
   exact ⟨rfl, rfl⟩
  ·have HE := Lib.hid (relB_none a b hf)
   have HG := Lib.hid (show relE f = 1 from if_neg hf)
   rw [HE.out, HG.out]
   have n11 : (f == 11) = false := by rw [beq_eq_false_iff_ne]; omega
   have n12 : (f == 12) = false := by rw [beq_eq_false_iff_ne]; omega
   have n13 : (f == 13) = false := by rw [beq_eq_false_iff_ne]; omega
   have n14 : (f == 14) = false := by rw [beq_eq_false_iff_ne]; omega
   have n15 : (f == 15) = false := by rw [beq_eq_false_iff_ne]; omega
   have n16 : (f == 16) = false := by rw [beq_eq_false_iff_ne]; omega
   clear hv hf
   go_enter Tryz.func39, Tryz.ntmps39
   go_wp2
   go_ret2
   exact ⟨rfl, rfl⟩
set_option maxHeartbeats 4000000 in
theorem hof_calls (f : Int) (a b : Nat) (w : World) (hf : 11 ≤ f ∧ f ≤ 16) (ha : Fnt a) (hb : Fnt b) : Calls Tryz.prog 73 #[.int .i64 f, .float .f64 a, .float .f64 b] w fun e w' => e = .returned (.bool (relB f a b)) ∧ w = w' := by
 rcases ord_both ha hb with ⟨hv, o1, o2⟩ | ⟨hv, o1, o2⟩ | ⟨hv, o1, o2⟩
 ·clear ha hb
  rcases rel_cases f with rfl | rfl | rfl | rfl | rfl | rfl | hf2
  ·have HE := Lib.hid (show relB 11 a b = true by simp [relB]; omega)
   rw [HE.out]; clear hf; clear hv
   go_enter Tryz.func73, Tryz.ntmps73
   go_wp2
   go_ret
   exact ⟨rfl, rfl⟩
  ·have HE := Lib.hid (show relB 12 a b = true by simp [relB]; omega)
   rw [HE.out]; clear hf; clear hv
   go_enter Tryz.func73, Tryz.ntmps73
   go_wp2
   go_ret
   exact ⟨rfl, rfl⟩
  ·have HE := Lib.hid (show relB 13 a b = false by simp [relB]; omega)
   rw [HE.out]; clear hf; clear hv
   go_enter Tryz.func73, Tryz.ntmps73
   go_wp2
   go_ret
   exact ⟨rfl, rfl⟩
  ·have HE := Lib.hid (show relB 14 a b = false by simp [relB]; omega)
   rw [HE.out]; clear hf; clear hv
   go_enter Tryz.func73, Tryz.ntmps73
   go_wp2
   go_ret
   exact ⟨rfl, rfl⟩
  ·have HE := Lib.hid (show relB 15 a b = false by simp [relB]; omega)
   rw [HE.out]; clear hf; clear hv
   go_enter Tryz.func73, Tryz.ntmps73
   go_wp2
   go_ret
   exact ⟨rfl, rfl⟩
  ·have HE := Lib.hid (show relB 16 a b = true by simp [relB]; omega)
   rw [HE.out]; clear hf; clear hv
   go_enter Tryz.func73, Tryz.ntmps73
   go_wp2
   go_ret
   exact ⟨rfl, rfl⟩
  ·exact absurd hf hf2
 ·clear ha hb
  rcases rel_cases f with rfl | rfl | rfl | rfl | rfl | rfl | hf2
  ·have HE := Lib.hid (show relB 11 a b = false by simp [relB]; omega)
   rw [HE.out]; clear hf; clear hv
   go_enter Tryz.func73, Tryz.ntmps73
   go_wp2
   go_ret
   exact ⟨rfl, rfl⟩
  ·have HE := Lib.hid (show relB 12 a b = true by simp [relB]; omega)
   rw [HE.out]; clear hf; clear hv
   go_enter Tryz.func73, Tryz.ntmps73
   go_wp2
   go_ret
   exact ⟨rfl, rfl⟩
  ·have HE := Lib.hid (show relB 13 a b = true by simp [relB]; omega)
   rw [HE.out]; clear hf; clear hv
   go_enter Tryz.func73, Tryz.ntmps73
   go_wp2
   go_ret
   exact ⟨rfl, rfl⟩
  ·have HE := Lib.hid (show relB 14 a b = true by simp [relB]; omega)
   rw [HE.out]; clear hf; clear hv
   go_enter Tryz.func73, Tryz.ntmps73
   go_wp2
   go_ret
   exact ⟨rfl, rfl⟩
  ·have HE := Lib.hid (show relB 15 a b = false by simp [relB]; omega)
   rw [HE.out]; clear hf; clear hv
   go_enter Tryz.func73, Tryz.ntmps73
   go_wp2
   go_ret
   exact ⟨rfl, rfl⟩
  ·have HE := Lib.hid (show relB 16 a b = false by simp [relB]; omega)
   rw [HE.out]; clear hf; clear hv
   go_enter Tryz.func73, Tryz.ntmps73
   go_wp2
   go_ret
   exact ⟨rfl, rfl⟩
  ·exact absurd hf hf2
 ·clear ha hb
  rcases rel_cases f with rfl | rfl | rfl | rfl | rfl | rfl | hf2
  ·have HE := Lib.hid (show relB 11 a b = false by simp [relB]; omega)
   rw [HE.out]; clear hf; clear hv
   go_enter Tryz.func73, Tryz.ntmps73
   go_wp2
   go_ret
   exact ⟨rfl, rfl⟩
  ·have HE := Lib.hid (show relB 12 a b = false by simp [relB]; omega)
   rw [HE.out]; clear hf; clear hv
   go_enter Tryz.func73, Tryz.ntmps73
   go_wp2
   go_ret
   exact ⟨rfl, rfl⟩
  ·have HE := Lib.hid (show relB 13 a b = false by simp [relB]; omega)
   rw [HE.out]; clear hf; clear hv
   go_enter Tryz.func73, Tryz.ntmps73
   go_wp2
   go_ret
   exact ⟨rfl, rfl⟩
  ·have HE := Lib.hid (show relB 14 a b = true by simp [relB]; omega)
   rw [HE.out]; clear hf; clear hv
   go_enter Tryz.func73, Tryz.ntmps73
   go_wp2
   go_ret
   exact ⟨rfl, rfl⟩
  ·have HE := Lib.hid (show relB 15 a b = true by simp [relB]; omega)
   rw [HE.out]; clear hf; clear hv
   go_enter Tryz.func73, Tryz.ntmps73
   go_wp2
   go_ret
   exact ⟨rfl, rfl⟩
  ·have HE := Lib.hid (show relB 16 a b = true by simp [relB]; omega)
   rw [HE.out]; clear hf; clear hv
   go_enter Tryz.func73, Tryz.ntmps73
   go_wp2
   go_ret
   exact ⟨rfl, rfl⟩
  ·exact absurd hf hf2
theorem reknown_calls (f : Int) (w : World) : Calls Tryz.prog 72 #[.int .i64 f] w fun e w' => e = .returned (.bool (decide (11 ≤ f ∧ f ≤ 16))) ∧ w = w' := by
 by_cases h1 : (11 : Int) ≤ f
 ·by_cases h2 : f ≤ (16 : Int)
  ·have HD := Lib.hid (decide_eq_true (show 11 ≤ f ∧ f ≤ 16 from ⟨h1, h2⟩))
   go_enter Tryz.func72, Tryz.ntmps72
   go_wp2
   go_ret
   exact ⟨ret_b (by first | rfl | (rw [HD.out]; done) | (rw [HD.out]; rfl) | (simp; omega)), rfl⟩
  ·have HD := Lib.hid (decide_eq_false (show ¬ (11 ≤ f ∧ f ≤ 16) from fun h => h2 h.2))
   go_enter Tryz.func72, Tryz.ntmps72
   go_wp2
   go_ret
   exact ⟨ret_b (by first | (simp; omega) | (simp; done) | (rw [HD.out]; rfl)), rfl⟩
 ·have HD := Lib.hid (decide_eq_false (show ¬ (11 ≤ f ∧ f ≤ 16) from fun h => h1 h.1))
  go_enter Tryz.func72, Tryz.ntmps72
  go_wp2
  go_ret
  exact ⟨ret_b (by first | (simp; omega) | (simp; done) | (rw [HD.out]; rfl)), rfl⟩
theorem reone_calls (f : Int) (a b : Nat) (w : World) (ha : Fnt a) (hb : Fnt b) : Calls Tryz.prog 35 #[.int .i64 f, .float .f64 a, .float .f64 b] w fun e w' => e = .returned (.tuple #[.bool (relB f a b), .int .i64 (relE f)]) ∧ w = w' := by
 by_cases hf : 11 ≤ f ∧ f ≤ 16
 ·have HD := Lib.hid (decide_eq_true hf)
  have HF := Lib.hid hf; have HA := Lib.hid ha; have HB := Lib.hid hb
  have HG := Lib.hid (show relE f = 0 from if_pos hf)
  rw [HG.out]; clear hf ha hb
  go_enter Tryz.func35, Tryz.ntmps35
  go_wp2_with (refine (reknown_calls _ _).mono ?_; rintro e w' ⟨rfl, rfl⟩; rw [HD.out])
  refine (hof_calls f a b _ HF.out HA.out HB.out).mono ?_
  rintro e w' ⟨rfl, rfl⟩
  go_wp2
  go_ret2
  exact ⟨rfl, rfl⟩
 ·have HD := Lib.hid (decide_eq_false hf)
  have HE := Lib.hid (relB_none a b hf)
  have HG := Lib.hid (show relE f = 1 from if_neg hf)
  rw [HE.out, HG.out]
  clear hf ha hb
  go_enter Tryz.func35, Tryz.ntmps35
  go_wp2_with (refine (reknown_calls _ _).mono ?_; rintro e w' ⟨rfl, rfl⟩; rw [HD.out])
  go_ret2
  exact ⟨rfl, rfl⟩
end Go.Proofs.YtghojndkcndjbaaGreatDoor

/- Package relate, walked: spread, tableOf. -/
namespace Go.Proofs.YtghojndkcndjbaaGreatDoor
set_option maxRecDepth 100000
open Go.RowKit Fl
set_option linter.unusedVariables false

theorem at2_put {w : World} {b : Nat} {u v : Value} (h : At2 w b u v) (x y : Value) : At2 ((w.setCell ⟨b, 0, none⟩ x).setCell ⟨b, 1, none⟩ y) b x y := by
 have e1 : (w.setCell ⟨b, 0, none⟩ x).cell? ⟨b, 1, none⟩ = some v := (World.cell?_setCell_other _ _ _ _ (by simp)).trans h.2.2.1
 exact ⟨by simpa using h.1, (World.cell?_setCell_other _ _ _ _ (by simp)).trans (World.cell?_setCell_same _ _ _ h.2.1), World.cell?_setCell_same _ _ _ e1, fun o => by simpa using h.2.2.2 o⟩
theorem below_setc {w w2 : World} {b0 : Nat} (h : Below w.heap.size w w2) (hb : w.heap.size ≤ b0) (x y : Value) : Below w.heap.size w ((w2.setCell ⟨b0, 0, none⟩ x).setCell ⟨b0, 1, none⟩ y) := below_set2 x y h hb
end Go.Proofs.YtghojndkcndjbaaGreatDoor

/- Package relate, walked: ofEach of floats, of runes; ofFlags. -/
namespace Go.Proofs.YtghojndkcndjbaaGreatDoor
set_option maxRecDepth 100000
open Go.RowKit Fl
set_option linter.unusedVariables false

end Go.Proofs.YtghojndkcndjbaaGreatDoor

/- Package relate, walked: ofFlags. -/
namespace Go.Proofs.YtghojndkcndjbaaGreatDoor
set_option maxRecDepth 100000
open Go.RowKit Fl
set_option linter.unusedVariables false

end Go.Proofs.YtghojndkcndjbaaGreatDoor

/- Package relate, walked: related. -/
namespace Go.Proofs.YtghojndkcndjbaaGreatDoor
set_option maxRecDepth 100000
open Go.RowKit Fl
set_option linter.unusedVariables false

end Go.Proofs.YtghojndkcndjbaaGreatDoor

/- Package relate, walked: Apply. -/
namespace Go.Proofs.YtghojndkcndjbaaGreatDoor
set_option maxRecDepth 100000
open Go.RowKit Fl
set_option linter.unusedVariables false

end Go.Proofs.YtghojndkcndjbaaGreatDoor

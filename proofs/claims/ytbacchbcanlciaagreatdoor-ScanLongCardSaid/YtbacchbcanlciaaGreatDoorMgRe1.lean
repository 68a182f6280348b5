/- Merged: ReM, ReA, ReB, ReC, ReD, ReE, ReF. -/
import Derived.Test.YtbacchbcanlciaaGreatDoorMgAr1
import Derived.Test.YtbacchbcanlciaaGreatDoorMgMo1
import Derived.Test.YtbacchbcanlciaaGreatDoorMgBv1
import Derived.Test.YtbacchbcanlciaaGreatDoorMgVe1
import Derived.Test.YtbacchbcanlciaaGreatDoorMgSq1
namespace Go.Proofs.YtbacchbcanlciaaGreatDoor
set_option maxRecDepth 100000
open Go.RowKit Fl
set_option linter.unusedVariables false

def relB (f : Int) (a b : Nat) : Bool :=
 if f = 11 then decide (V a < V b) else if f = 12 then decide (V a ≤ V b) else if f = 13 then decide (V a = V b)
 else if f = 14 then decide (V b ≤ V a) else if f = 15 then decide (V b < V a) else if f = 16 then decide (V a ≠ V b) else false
def relI (f a b : Int) : Bool :=
 if f = 11 then decide (a < b) else if f = 12 then decide (a ≤ b) else if f = 13 then decide (a = b)
 else if f = 14 then decide (b ≤ a) else if f = 15 then decide (b < a) else if f = 16 then decide (a ≠ b) else false
def relE (f : Int) : Int := if 11 ≤ f ∧ f ≤ 16 then 0 else 1
def alw (f c : Int) : Bool := decide (c = 0 ∨ (c = 1 ∧ (f = 13 ∨ f = 16)))
theorem rel_cases (f : Int) : f = 11 ∨ f = 12 ∨ f = 13 ∨ f = 14 ∨ f = 15 ∨ f = 16 ∨ ¬ (11 ≤ f ∧ f ≤ 16) := by omega
theorem relB_none {f : Int} (a b : Nat) (h : ¬ (11 ≤ f ∧ f ≤ 16)) : relB f a b = false := by
 unfold relB
 rw [if_neg (by omega), if_neg (by omega), if_neg (by omega), if_neg (by omega), if_neg (by omega), if_neg (by omega)]
theorem relB_I (f : Int) (a b : Nat) : relB f a b = relI f (V a) (V b) := rfl
theorem ord_both {a b : Nat} (ha : Fnt a) (hb : Fnt b) :
  (V a < V b ∧ FloatKind.f64.format.order a b = some .lt ∧ FloatKind.f64.format.order b a = some .gt) ∨
  (V a = V b ∧ FloatKind.f64.format.order a b = some .eq ∧ FloatKind.f64.format.order b a = some .eq) ∨
  (V b < V a ∧ FloatKind.f64.format.order a b = some .gt ∧ FloatKind.f64.format.order b a = some .lt) := by
 rcases ord_cases ha hb with ⟨h, o⟩ | ⟨h, o⟩ | ⟨h, o⟩
 ·exact .inl ⟨h, o, ord_gt hb ha h⟩
 ·exact .inr (.inl ⟨h, o, ord_eq hb ha h.symm⟩)
 ·exact .inr (.inr ⟨h, o, ord_lt hb ha h⟩)
theorem relB_flag (f : Int) (a b : Bool) : relB f (flagW a) (flagW b) = relI f a.toNat b.toNat := by
 have hp : (0 : Int) < (pw 1074 : Int) := by have := pw_pos 1074; omega
 have e : ∀ b : Bool, V (flagW b) = b.toNat * pw 1074 := by intro b; rw [V_flagW]; cases b <;> simp
 rw [relB_I, e, e]
 unfold relI
 have h1 : ∀ x y : Bool, ((x.toNat : Int) * pw 1074 < y.toNat * pw 1074) ↔ ((x.toNat : Int) < y.toNat) := fun x y => Int.mul_lt_mul_right hp
 have h2 : ∀ x y : Bool, ((x.toNat : Int) * pw 1074 ≤ y.toNat * pw 1074) ↔ ((x.toNat : Int) ≤ y.toNat) := fun x y => Int.mul_le_mul_right hp
 have h3 : ((a.toNat : Int) * pw 1074 = b.toNat * pw 1074) ↔ ((a.toNat : Int) = b.toNat) := ⟨fun h => Int.eq_of_mul_eq_mul_right (by omega) h, fun h => by rw [h]⟩
 simp only [h1, h2, h3, Ne]
def tabR (f : Int) : Nat → Nat
 | 0 => 0
 | k + 1 => if relI f ((k / 2 : Nat) : Int) ((k % 2 : Nat) : Int) then tabR f k ||| 2 ^ k else tabR f k
theorem tabR_lt (f : Int) : tabR f 4 < 256 := by
 simp only [tabR]
 split <;> split <;> split <;> split <;> decide
theorem tabR_tab {f : Int} (hf : 11 ≤ f ∧ f ≤ 16) (a b : Bool) : tab (tabR f 4) a b = relI f a.toNat b.toNat := by
 rcases rel_cases f with rfl | rfl | rfl | rfl | rfl | rfl | h
 all_goals first | (cases a <;> cases b <;> decide) | exact absurd hf h

def reE (f : Int) (A B : VV) : Int :=
 if 11 ≤ f ∧ f ≤ 16 then (if goesA A.len B.len then (if alw f A.cls = true ∧ alw f B.cls = true then 0 else 24) else 23) else 1
def relL (f : Int) (A B : VV) (n : Nat) : List Bool :=
 if A.cls ≠ B.cls then List.replicate n (decide (f = 16))
 else if A.cls = 1 then (prs 0 A.text B.text n).map fun p => relI f p.1 p.2
 else (prs 0 A.nums B.nums n).map fun p => relB f p.1 p.2
theorem relL_len (f : Int) (A B : VV) (n : Nat) : (relL f A B n).length = n := by
 unfold relL; split
 ·simp
 ·split <;> simp [prs_len]
def reV (f : Int) (A B : VV) : VV := if reE f A B = 0 then .bits (relL f A B (lenN A.len B.len)) else .none
theorem reV_none {f : Int} {A B : VV} (h : reE f A B ≠ 0) : reV f A B = .none := if_neg h
theorem VV.text_len1 {V : VV} (h : V.cls = 1) : V.text.length = V.len := by cases V <;> first | rfl | simp [VV.cls] at h
theorem VV.bit_nums {V : VV} (h : V.isBit = true) : V.nums = V.packed.map flagW ∧ V.packed.length = V.len ∧ V.cls = 0 := by
 cases V <;> first | exact ⟨rfl, rfl, rfl⟩ | simp [VV.isBit] at h
theorem VV.cls3 (V : VV) : V.cls = 0 ∨ V.cls = 1 ∨ V.cls = 2 := by cases V <;> simp [VV.cls]
theorem relL_bits (f : Int) {A B : VV} (n : Nat) (hA : A.isBit = true) (hB : B.isBit = true) : (prs false A.packed B.packed n).map (fun p => relI f p.1.toNat p.2.toNat) = relL f A B n := by
 obtain ⟨a1, a2, a3⟩ := VV.bit_nums hA
 obtain ⟨b1, b2, b3⟩ := VV.bit_nums hB
 unfold relL
 rw [if_neg (by rw [a3, b3]; decide), if_neg (by rw [a3]; decide), a1, b1, show (0 : Nat) = flagW false from rfl, prs_map, List.map_map]
 exact List.map_congr_left fun p _ => (relB_flag f p.1 p.2).symm
theorem relL_nums (f : Int) {A B : VV} (n : Nat) (hA : A.cls = 0) (hB : B.cls = 0) : (prs 0 A.nums B.nums n).map (fun p => relB f p.1 p.2) = relL f A B n := by
 unfold relL
 rw [if_neg (by rw [hA, hB]; decide), if_neg (by rw [hA]; decide)]
theorem relL_text (f : Int) {A B : VV} (n : Nat) (hA : A.cls = 1) (hB : B.cls = 1) : (prs 0 A.text B.text n).map (fun p => relI f p.1 p.2) = relL f A B n := by
 unfold relL
 rw [if_neg (by rw [hA, hB]; decide), if_pos hA]
theorem relL_apart (f : Int) {A B : VV} (n : Nat) (h : A.cls ≠ B.cls) : List.replicate n (f == 16) = relL f A B n := by
 unfold relL
 rw [if_pos h]
 congr 1
end Go.Proofs.YtbacchbcanlciaaGreatDoor

namespace Go.Proofs.YtbacchbcanlciaaGreatDoor
set_option maxRecDepth 100000
open Go.RowKit Fl
set_option linter.unusedVariables false

set_option maxHeartbeats 4000000 in
theorem rrone_calls (f : Int) (a b : Nat) (w : World) (ha : Fnt a) (hb : Fnt b) : Calls Tryz.prog 106 #[.int .i64 f, .float .f64 a, .float .f64 b] w fun e w' => e = .returned (.tuple #[.bool (relB f a b), .int .i64 (relE f)]) ∧ w = w' := by
 rcases ord_both ha hb with ⟨hv, o1, o2⟩ | ⟨hv, o1, o2⟩ | ⟨hv, o1, o2⟩
 ·clear ha hb
  rcases rel_cases f with rfl | rfl | rfl | rfl | rfl | rfl | hf
  ·have HE := Lib.hid (show relB 11 a b = true by simp [relB]; omega)
   have HG := Lib.hid (show relE 11 = 0 from rfl)
   rw [HE.out, HG.out]
   clear hv
   go_enter Tryz.func106, Tryz.ntmps106
   go_wp2
   go_ret2
   exact ⟨rfl, rfl⟩
  ·have HE := Lib.hid (show relB 12 a b = true by simp [relB]; omega)
   have HG := Lib.hid (show relE 12 = 0 from rfl)
   rw [HE.out, HG.out]
   clear hv
   go_enter Tryz.func106, Tryz.ntmps106
   go_wp2
   go_ret2
   exact ⟨rfl, rfl⟩
  ·have HE := Lib.hid (show relB 13 a b = false by simp [relB]; omega)
   have HG := Lib.hid (show relE 13 = 0 from rfl)
   rw [HE.out, HG.out]
   clear hv
   go_enter Tryz.func106, Tryz.ntmps106
   go_wp2
   go_ret2
   exact ⟨rfl, rfl⟩
  ·have HE := Lib.hid (show relB 14 a b = false by simp [relB]; omega)
   have HG := Lib.hid (show relE 14 = 0 from rfl)
   rw [HE.out, HG.out]
   clear hv
   go_enter Tryz.func106, Tryz.ntmps106
   go_wp2
   go_ret2
   exact ⟨rfl, rfl⟩
  ·have HE := Lib.hid (show relB 15 a b = false by simp [relB]; omega)
   have HG := Lib.hid (show relE 15 = 0 from rfl)
   rw [HE.out, HG.out]
   clear hv
   go_enter Tryz.func106, Tryz.ntmps106
   go_wp2
   go_ret2
   exact ⟨rfl, rfl⟩
  ·have HE := Lib.hid (show relB 16 a b = true by simp [relB]; omega)
   have HG := Lib.hid (show relE 16 = 0 from rfl)
   rw [HE.out, HG.out]
   clear hv
   go_enter Tryz.func106, Tryz.ntmps106
   go_wp2
   go_ret2
   exact ⟨rfl, rfl⟩
  ·have HE := Lib.hid (relB_none a b hf)
   have HG := Lib.hid (show relE f = 1 from if_neg hf)
   rw [HE.out, HG.out]
   have n11 : (f == 11) = false := by rw [beq_eq_false_iff_ne]; omega
   have n12 : (f == 12) = false := by rw [beq_eq_false_iff_ne]; omega
   have n13 : (f == 13) = false := by rw [beq_eq_false_iff_ne]; omega
   have n14 : (f == 14) = false := by rw [beq_eq_false_iff_ne]; omega
   have n15 : (f == 15) = false := by rw [beq_eq_false_iff_ne]; omega
   have n16 : (f == 16) = false := by rw [beq_eq_false_iff_ne]; omega
   clear hv hf
   go_enter Tryz.func106, Tryz.ntmps106
   go_wp2
   go_ret2
   exact ⟨rfl, rfl⟩
 ·clear ha hb
  rcases rel_cases f with rfl | rfl | rfl | rfl | rfl | rfl | hf
  ·have HE := Lib.hid (show relB 11 a b = false by simp [relB]; omega)
   have HG := Lib.hid (show relE 11 = 0 from rfl)
   rw [HE.out, HG.out]
   clear hv
   go_enter Tryz.func106, Tryz.ntmps106
   go_wp2
   go_ret2
   exact ⟨rfl, rfl⟩
  ·have HE := Lib.hid (show relB 12 a b = true by simp [relB]; omega)
   have HG := Lib.hid (show relE 12 = 0 from rfl)
   rw [HE.out, HG.out]
   clear hv
   go_enter Tryz.func106, Tryz.ntmps106
   go_wp2
   go_ret2
   exact ⟨rfl, rfl⟩
  ·have HE := Lib.hid (show relB 13 a b = true by simp [relB]; omega)
   have HG := Lib.hid (show relE 13 = 0 from rfl)
   rw [HE.out, HG.out]
   clear hv
   go_enter Tryz.func106, Tryz.ntmps106
   go_wp2
   go_ret2
   exact ⟨rfl, rfl⟩
  ·have HE := Lib.hid (show relB 14 a b = true by simp [relB]; omega)
   have HG := Lib.hid (show relE 14 = 0 from rfl)
   rw [HE.out, HG.out]
   clear hv
   go_enter Tryz.func106, Tryz.ntmps106
   go_wp2
   go_ret2
   exact ⟨rfl, rfl⟩
  ·have HE := Lib.hid (show relB 15 a b = false by simp [relB]; omega)
   have HG := Lib.hid (show relE 15 = 0 from rfl)
   rw [HE.out, HG.out]
   clear hv
   go_enter Tryz.func106, Tryz.ntmps106
   go_wp2
   go_ret2
   exact ⟨rfl, rfl⟩
  ·have HE := Lib.hid (show relB 16 a b = false by simp [relB]; omega)
   have HG := Lib.hid (show relE 16 = 0 from rfl)
   rw [HE.out, HG.out]
   clear hv
   go_enter Tryz.func106, Tryz.ntmps106
   go_wp2
   go_ret2
   exact ⟨rfl, rfl⟩
  ·have HE := Lib.hid (relB_none a b hf)
   have HG := Lib.hid (show relE f = 1 from if_neg hf)
   rw [HE.out, HG.out]
   have n11 : (f == 11) = false := by rw [beq_eq_false_iff_ne]; omega
   have n12 : (f == 12) = false := by rw [beq_eq_false_iff_ne]; omega
   have n13 : (f == 13) = false := by rw [beq_eq_false_iff_ne]; omega
   have n14 : (f == 14) = false := by rw [beq_eq_false_iff_ne]; omega
   have n15 : (f == 15) = false := by rw [beq_eq_false_iff_ne]; omega
   have n16 : (f == 16) = false := by rw [beq_eq_false_iff_ne]; omega
   clear hv hf
   go_enter Tryz.func106, Tryz.ntmps106
   go_wp2
   go_ret2
   exact ⟨rfl, rfl⟩
 ·clear ha hb
  rcases rel_cases f with rfl | rfl | rfl | rfl | rfl | rfl | hf
  ·have HE := Lib.hid (show relB 11 a b = false by simp [relB]; omega)
   have HG := Lib.hid (show relE 11 = 0 from rfl)
   rw [HE.out, HG.out]
   clear hv
   go_enter Tryz.func106, Tryz.ntmps106
   go_wp2
   go_ret2
   exact ⟨rfl, rfl⟩
  ·have HE := Lib.hid (show relB 12 a b = false by simp [relB]; omega)
   have HG := Lib.hid (show relE 12 = 0 from rfl)
   rw [HE.out, HG.out]
   clear hv
   go_enter Tryz.func106, Tryz.ntmps106
   go_wp2
   go_ret2
   exact ⟨rfl, rfl⟩
  ·have HE := Lib.hid (show relB 13 a b = false by simp [relB]; omega)
   have HG := Lib.hid (show relE 13 = 0 from rfl)
   rw [HE.out, HG.out]
   clear hv
   go_enter Tryz.func106, Tryz.ntmps106
   go_wp2
   go_ret2
   exact ⟨rfl, rfl⟩
  ·have HE := Lib.hid (show relB 14 a b = true by simp [relB]; omega)
   have HG := Lib.hid (show relE 14 = 0 from rfl)
   rw [HE.out, HG.out]
   clear hv
   go_enter Tryz.func106, Tryz.ntmps106
   go_wp2
   go_ret2
   exact ⟨rfl, rfl⟩
  ·have HE := Lib.hid (show relB 15 a b = true by simp [relB]; omega)
   have HG := Lib.hid (show relE 15 = 0 from rfl)
   rw [HE.out, HG.out]
   clear hv
   go_enter Tryz.func106, Tryz.ntmps106
   go_wp2
   go_ret2
   exact ⟨rfl, rfl⟩
  ·have HE := Lib.hid (show relB 16 a b = true by simp [relB]; omega)
   have HG := Lib.hid (show relE 16 = 0 from rfl)
   rw [HE.out, HG.out]
   clear hv
   go_enter Tryz.func106, Tryz.ntmps106
   go_wp2
   go_ret2
   exact ⟨rfl, rfl⟩
  ·have HE := Lib.hid (relB_none a b hf)
   have HG := Lib.hid (show relE f = 1 from if_neg hf)
   rw [HE.out, HG.out]
   have n11 : (f == 11) = false := by rw [beq_eq_false_iff_ne]; omega
   have n12 : (f == 12) = false := by rw [beq_eq_false_iff_ne]; omega
   have n13 : (f == 13) = false := by rw [beq_eq_false_iff_ne]; omega
   have n14 : (f == 14) = false := by rw [beq_eq_false_iff_ne]; omega
   have n15 : (f == 15) = false := by rw [beq_eq_false_iff_ne]; omega
   have n16 : (f == 16) = false := by rw [beq_eq_false_iff_ne]; omega
   clear hv hf
   go_enter Tryz.func106, Tryz.ntmps106
   go_wp2
   go_ret2
   exact ⟨rfl, rfl⟩
set_option maxHeartbeats 4000000 in
theorem hof_calls (f : Int) (a b : Nat) (w : World) (hf : 11 ≤ f ∧ f ≤ 16) (ha : Fnt a) (hb : Fnt b) : Calls Tryz.prog 192 #[.int .i64 f, .float .f64 a, .float .f64 b] w fun e w' => e = .returned (.bool (relB f a b)) ∧ w = w' := by
 rcases ord_both ha hb with ⟨hv, o1, o2⟩ | ⟨hv, o1, o2⟩ | ⟨hv, o1, o2⟩
 ·clear ha hb
  rcases rel_cases f with rfl | rfl | rfl | rfl | rfl | rfl | hf2
  ·have HE := Lib.hid (show relB 11 a b = true by simp [relB]; omega)
   rw [HE.out]; clear hf; clear hv
   go_enter Tryz.func192, Tryz.ntmps192
   go_wp2
   go_ret
   exact ⟨rfl, rfl⟩
  ·have HE := Lib.hid (show relB 12 a b = true by simp [relB]; omega)
   rw [HE.out]; clear hf; clear hv
   go_enter Tryz.func192, Tryz.ntmps192
   go_wp2
   go_ret
   exact ⟨rfl, rfl⟩
  ·have HE := Lib.hid (show relB 13 a b = false by simp [relB]; omega)
   rw [HE.out]; clear hf; clear hv
   go_enter Tryz.func192, Tryz.ntmps192
   go_wp2
   go_ret
   exact ⟨rfl, rfl⟩
  ·have HE := Lib.hid (show relB 14 a b = false by simp [relB]; omega)
   rw [HE.out]; clear hf; clear hv
   go_enter Tryz.func192, Tryz.ntmps192
   go_wp2
   go_ret
   exact ⟨rfl, rfl⟩
  ·have HE := Lib.hid (show relB 15 a b = false by simp [relB]; omega)
   rw [HE.out]; clear hf; clear hv
   go_enter Tryz.func192, Tryz.ntmps192
   go_wp2
   go_ret
   exact ⟨rfl, rfl⟩
  ·have HE := Lib.hid (show relB 16 a b = true by simp [relB]; omega)
   rw [HE.out]; clear hf; clear hv
   go_enter Tryz.func192, Tryz.ntmps192
   go_wp2
   go_ret
   exact ⟨rfl, rfl⟩
  ·exact absurd hf hf2
 ·clear ha hb
  rcases rel_cases f with rfl | rfl | rfl | rfl | rfl | rfl | hf2
  ·have HE := Lib.hid (show relB 11 a b = false by simp [relB]; omega)
   rw [HE.out]; clear hf; clear hv
   go_enter Tryz.func192, Tryz.ntmps192
   go_wp2
   go_ret
   exact ⟨rfl, rfl⟩
  ·have HE := Lib.hid (show relB 12 a b = true by simp [relB]; omega)
   rw [HE.out]; clear hf; clear hv
   go_enter Tryz.func192, Tryz.ntmps192
   go_wp2
   go_ret
   exact ⟨rfl, rfl⟩
  ·have HE := Lib.hid (show relB 13 a b = true by simp [relB]; omega)
   rw [HE.out]; clear hf; clear hv
   go_enter Tryz.func192, Tryz.ntmps192
   go_wp2
   go_ret
   exact ⟨rfl, rfl⟩
  ·have HE := Lib.hid (show relB 14 a b = true by simp [relB]; omega)
   rw [HE.out]; clear hf; clear hv
   go_enter Tryz.func192, Tryz.ntmps192
   go_wp2
   go_ret
   exact ⟨rfl, rfl⟩
  ·have HE := Lib.hid (show relB 15 a b = false by simp [relB]; omega)
   rw [HE.out]; clear hf; clear hv
   go_enter Tryz.func192, Tryz.ntmps192
   go_wp2
   go_ret
   exact ⟨rfl, rfl⟩
  ·have HE := Lib.hid (show relB 16 a b = false by simp [relB]; omega)
   rw [HE.out]; clear hf; clear hv
   go_enter Tryz.func192, Tryz.ntmps192
   go_wp2
   go_ret
   exact ⟨rfl, rfl⟩
  ·exact absurd hf hf2
 ·clear ha hb
  rcases rel_cases f with rfl | rfl | rfl | rfl | rfl | rfl | hf2
  ·have HE := Lib.hid (show relB 11 a b = false by simp [relB]; omega)
   rw [HE.out]; clear hf; clear hv
   go_enter Tryz.func192, Tryz.ntmps192
   go_wp2
   go_ret
   exact ⟨rfl, rfl⟩
  ·have HE := Lib.hid (show relB 12 a b = false by simp [relB]; omega)
   rw [HE.out]; clear hf; clear hv
   go_enter Tryz.func192, Tryz.ntmps192
   go_wp2
   go_ret
   exact ⟨rfl, rfl⟩
  ·have HE := Lib.hid (show relB 13 a b = false by simp [relB]; omega)
   rw [HE.out]; clear hf; clear hv
   go_enter Tryz.func192, Tryz.ntmps192
   go_wp2
   go_ret
   exact ⟨rfl, rfl⟩
  ·have HE := Lib.hid (show relB 14 a b = true by simp [relB]; omega)
   rw [HE.out]; clear hf; clear hv
   go_enter Tryz.func192, Tryz.ntmps192
   go_wp2
   go_ret
   exact ⟨rfl, rfl⟩
  ·have HE := Lib.hid (show relB 15 a b = true by simp [relB]; omega)
   rw [HE.out]; clear hf; clear hv
   go_enter Tryz.func192, Tryz.ntmps192
   go_wp2
   go_ret
   exact ⟨rfl, rfl⟩
  ·have HE := Lib.hid (show relB 16 a b = true by simp [relB]; omega)
   rw [HE.out]; clear hf; clear hv
   go_enter Tryz.func192, Tryz.ntmps192
   go_wp2
   go_ret
   exact ⟨rfl, rfl⟩
  ·exact absurd hf hf2
theorem hor_calls (f a b : Int) (w : World) (hf : 11 ≤ f ∧ f ≤ 16) : Calls Tryz.prog 216 #[.int .i64 f, .int .i32 a, .int .i32 b] w fun e w' => e = .returned (.bool (relI f a b)) ∧ w = w' := by
 rcases rel_cases f with rfl | rfl | rfl | rfl | rfl | rfl | hf2
 ·clear hf
  rcases Int.lt_trichotomy a b with h | h | h
  ·have HE := Lib.hid (show relI 11 a b = true by simp [relI]; omega)
   rw [HE.out]
   go_enter Tryz.func216, Tryz.ntmps216
   go_wp2
   go_ret
   exact ⟨ret_b (by first | (simp; done) | (simp; omega)), rfl⟩
  ·have HE := Lib.hid (show relI 11 a b = false by simp [relI]; omega)
   rw [HE.out]
   go_enter Tryz.func216, Tryz.ntmps216
   go_wp2
   go_ret
   exact ⟨ret_b (by first | (simp; done) | (simp; omega)), rfl⟩
  ·have HE := Lib.hid (show relI 11 a b = false by simp [relI]; omega)
   rw [HE.out]
   go_enter Tryz.func216, Tryz.ntmps216
   go_wp2
   go_ret
   exact ⟨ret_b (by first | (simp; done) | (simp; omega)), rfl⟩
 ·clear hf
  rcases Int.lt_trichotomy a b with h | h | h
  ·have HE := Lib.hid (show relI 12 a b = true by simp [relI]; omega)
   rw [HE.out]
   go_enter Tryz.func216, Tryz.ntmps216
   go_wp2
   go_ret
   exact ⟨ret_b (by first | (simp; done) | (simp; omega)), rfl⟩
  ·have HE := Lib.hid (show relI 12 a b = true by simp [relI]; omega)
   rw [HE.out]
   go_enter Tryz.func216, Tryz.ntmps216
   go_wp2
   go_ret
   exact ⟨ret_b (by first | (simp; done) | (simp; omega)), rfl⟩
  ·have HE := Lib.hid (show relI 12 a b = false by simp [relI]; omega)
   rw [HE.out]
   go_enter Tryz.func216, Tryz.ntmps216
   go_wp2
   go_ret
   exact ⟨ret_b (by first | (simp; done) | (simp; omega)), rfl⟩
 ·clear hf
  rcases Int.lt_trichotomy a b with h | h | h
  ·have HE := Lib.hid (show relI 13 a b = false by simp [relI]; omega)
   rw [HE.out]
   go_enter Tryz.func216, Tryz.ntmps216
   go_wp2
   go_ret
   exact ⟨ret_b (by first | (simp; done) | (simp; omega)), rfl⟩
  ·have HE := Lib.hid (show relI 13 a b = true by simp [relI]; omega)
   rw [HE.out]
   go_enter Tryz.func216, Tryz.ntmps216
   go_wp2
   go_ret
   exact ⟨ret_b (by first | (simp; done) | (simp; omega)), rfl⟩
  ·have HE := Lib.hid (show relI 13 a b = false by simp [relI]; omega)
   rw [HE.out]
   go_enter Tryz.func216, Tryz.ntmps216
   go_wp2
   go_ret
   exact ⟨ret_b (by first | (simp; done) | (simp; omega)), rfl⟩
 ·clear hf
  rcases Int.lt_trichotomy a b with h | h | h
  ·have HE := Lib.hid (show relI 14 a b = false by simp [relI]; omega)
   rw [HE.out]
   go_enter Tryz.func216, Tryz.ntmps216
   go_wp2
   go_ret
   exact ⟨ret_b (by first | (simp; done) | (simp; omega)), rfl⟩
  ·have HE := Lib.hid (show relI 14 a b = true by simp [relI]; omega)
   rw [HE.out]
   go_enter Tryz.func216, Tryz.ntmps216
   go_wp2
   go_ret
   exact ⟨ret_b (by first | (simp; done) | (simp; omega)), rfl⟩
  ·have HE := Lib.hid (show relI 14 a b = true by simp [relI]; omega)
   rw [HE.out]
   go_enter Tryz.func216, Tryz.ntmps216
   go_wp2
   go_ret
   exact ⟨ret_b (by first | (simp; done) | (simp; omega)), rfl⟩
 ·clear hf
  rcases Int.lt_trichotomy a b with h | h | h
  ·have HE := Lib.hid (show relI 15 a b = false by simp [relI]; omega)
   rw [HE.out]
   go_enter Tryz.func216, Tryz.ntmps216
   go_wp2
   go_ret
   exact ⟨ret_b (by first | (simp; done) | (simp; omega)), rfl⟩
  ·have HE := Lib.hid (show relI 15 a b = false by simp [relI]; omega)
   rw [HE.out]
   go_enter Tryz.func216, Tryz.ntmps216
   go_wp2
   go_ret
   exact ⟨ret_b (by first | (simp; done) | (simp; omega)), rfl⟩
  ·have HE := Lib.hid (show relI 15 a b = true by simp [relI]; omega)
   rw [HE.out]
   go_enter Tryz.func216, Tryz.ntmps216
   go_wp2
   go_ret
   exact ⟨ret_b (by first | (simp; done) | (simp; omega)), rfl⟩
 ·clear hf
  rcases Int.lt_trichotomy a b with h | h | h
  ·have HE := Lib.hid (show relI 16 a b = true by simp [relI]; omega)
   rw [HE.out]
   go_enter Tryz.func216, Tryz.ntmps216
   go_wp2
   go_ret
   exact ⟨ret_b (by first | (simp; done) | (simp; omega)), rfl⟩
  ·have HE := Lib.hid (show relI 16 a b = false by simp [relI]; omega)
   rw [HE.out]
   go_enter Tryz.func216, Tryz.ntmps216
   go_wp2
   go_ret
   exact ⟨ret_b (by first | (simp; done) | (simp; omega)), rfl⟩
  ·have HE := Lib.hid (show relI 16 a b = true by simp [relI]; omega)
   rw [HE.out]
   go_enter Tryz.func216, Tryz.ntmps216
   go_wp2
   go_ret
   exact ⟨ret_b (by first | (simp; done) | (simp; omega)), rfl⟩
 ·exact absurd hf hf2
theorem hoi_calls (f a b : Int) (w : World) (hf : 11 ≤ f ∧ f ≤ 16) : Calls Tryz.prog 225 #[.int .i64 f, .int .i64 a, .int .i64 b] w fun e w' => e = .returned (.bool (relI f a b)) ∧ w = w' := by
 rcases rel_cases f with rfl | rfl | rfl | rfl | rfl | rfl | hf2
 ·clear hf
  rcases Int.lt_trichotomy a b with h | h | h
  ·have HE := Lib.hid (show relI 11 a b = true by simp [relI]; omega)
   rw [HE.out]
   go_enter Tryz.func225, Tryz.ntmps225
   go_wp2
   go_ret
   exact ⟨ret_b (by first | (simp; done) | (simp; omega)), rfl⟩
  ·have HE := Lib.hid (show relI 11 a b = false by simp [relI]; omega)
   rw [HE.out]
   go_enter Tryz.func225, Tryz.ntmps225
   go_wp2
   go_ret
   exact ⟨ret_b (by first | (simp; done) | (simp; omega)), rfl⟩
  ·have HE := Lib.hid (show relI 11 a b = false by simp [relI]; omega)
   rw [HE.out]
   go_enter Tryz.func225, Tryz.ntmps225
   go_wp2
   go_ret
   exact ⟨ret_b (by first | (simp; done) | (simp; omega)), rfl⟩
 ·clear hf
  rcases Int.lt_trichotomy a b with h | h | h
  ·have HE := Lib.hid (show relI 12 a b = true by simp [relI]; omega)
   rw [HE.out]
   go_enter Tryz.func225, Tryz.ntmps225
   go_wp2
   go_ret
   exact ⟨ret_b (by first | (simp; done) | (simp; omega)), rfl⟩
  ·have HE := Lib.hid (show relI 12 a b = true by simp [relI]; omega)
   rw [HE.out]
   go_enter Tryz.func225, Tryz.ntmps225
   go_wp2
   go_ret
   exact ⟨ret_b (by first | (simp; done) | (simp; omega)), rfl⟩
  ·have HE := Lib.hid (show relI 12 a b = false by simp [relI]; omega)
   rw [HE.out]
   go_enter Tryz.func225, Tryz.ntmps225
   go_wp2
   go_ret
   exact ⟨ret_b (by first | (simp; done) | (simp; omega)), rfl⟩
 ·clear hf
  rcases Int.lt_trichotomy a b with h | h | h
  ·have HE := Lib.hid (show relI 13 a b = false by simp [relI]; omega)
   rw [HE.out]
   go_enter Tryz.func225, Tryz.ntmps225
   go_wp2
   go_ret
   exact ⟨ret_b (by first | (simp; done) | (simp; omega)), rfl⟩
  ·have HE := Lib.hid (show relI 13 a b = true by simp [relI]; omega)
   rw [HE.out]
   go_enter Tryz.func225, Tryz.ntmps225
   go_wp2
   go_ret
   exact ⟨ret_b (by first | (simp; done) | (simp; omega)), rfl⟩
  ·have HE := Lib.hid (show relI 13 a b = false by simp [relI]; omega)
   rw [HE.out]
   go_enter Tryz.func225, Tryz.ntmps225
   go_wp2
   go_ret
   exact ⟨ret_b (by first | (simp; done) | (simp; omega)), rfl⟩
 ·clear hf
  rcases Int.lt_trichotomy a b with h | h | h
  ·have HE := Lib.hid (show relI 14 a b = false by simp [relI]; omega)
   rw [HE.out]
   go_enter Tryz.func225, Tryz.ntmps225
   go_wp2
   go_ret
   exact ⟨ret_b (by first | (simp; done) | (simp; omega)), rfl⟩
  ·have HE := Lib.hid (show relI 14 a b = true by simp [relI]; omega)
   rw [HE.out]
   go_enter Tryz.func225, Tryz.ntmps225
   go_wp2
   go_ret
   exact ⟨ret_b (by first | (simp; done) | (simp; omega)), rfl⟩
  ·have HE := Lib.hid (show relI 14 a b = true by simp [relI]; omega)
   rw [HE.out]
   go_enter Tryz.func225, Tryz.ntmps225
   go_wp2
   go_ret
   exact ⟨ret_b (by first | (simp; done) | (simp; omega)), rfl⟩
 ·clear hf
  rcases Int.lt_trichotomy a b with h | h | h
  ·have HE := Lib.hid (show relI 15 a b = false by simp [relI]; omega)
   rw [HE.out]
   go_enter Tryz.func225, Tryz.ntmps225
   go_wp2
   go_ret
   exact ⟨ret_b (by first | (simp; done) | (simp; omega)), rfl⟩
  ·have HE := Lib.hid (show relI 15 a b = false by simp [relI]; omega)
   rw [HE.out]
   go_enter Tryz.func225, Tryz.ntmps225
   go_wp2
   go_ret
   exact ⟨ret_b (by first | (simp; done) | (simp; omega)), rfl⟩
  ·have HE := Lib.hid (show relI 15 a b = true by simp [relI]; omega)
   rw [HE.out]
   go_enter Tryz.func225, Tryz.ntmps225
   go_wp2
   go_ret
   exact ⟨ret_b (by first | (simp; done) | (simp; omega)), rfl⟩
 ·clear hf
  rcases Int.lt_trichotomy a b with h | h | h
  ·have HE := Lib.hid (show relI 16 a b = true by simp [relI]; omega)
   rw [HE.out]
   go_enter Tryz.func225, Tryz.ntmps225
   go_wp2
   go_ret
   exact ⟨ret_b (by first | (simp; done) | (simp; omega)), rfl⟩
  ·have HE := Lib.hid (show relI 16 a b = false by simp [relI]; omega)
   rw [HE.out]
   go_enter Tryz.func225, Tryz.ntmps225
   go_wp2
   go_ret
   exact ⟨ret_b (by first | (simp; done) | (simp; omega)), rfl⟩
  ·have HE := Lib.hid (show relI 16 a b = true by simp [relI]; omega)
   rw [HE.out]
   go_enter Tryz.func225, Tryz.ntmps225
   go_wp2
   go_ret
   exact ⟨ret_b (by first | (simp; done) | (simp; omega)), rfl⟩
 ·exact absurd hf hf2
theorem reknown_calls (f : Int) (w : World) : Calls Tryz.prog 157 #[.int .i64 f] w fun e w' => e = .returned (.bool (decide (11 ≤ f ∧ f ≤ 16))) ∧ w = w' := by
 by_cases h1 : (11 : Int) ≤ f
 ·by_cases h2 : f ≤ (16 : Int)
  ·have HD := Lib.hid (decide_eq_true (show 11 ≤ f ∧ f ≤ 16 from ⟨h1, h2⟩))
   go_enter Tryz.func157, Tryz.ntmps157
   go_wp2
   go_ret
   exact ⟨ret_b (by first | rfl | (rw [HD.out]; done) | (rw [HD.out]; rfl) | (simp; omega)), rfl⟩
  ·have HD := Lib.hid (decide_eq_false (show ¬ (11 ≤ f ∧ f ≤ 16) from fun h => h2 h.2))
   go_enter Tryz.func157, Tryz.ntmps157
   go_wp2
   go_ret
   exact ⟨ret_b (by first | (simp; omega) | (simp; done) | (rw [HD.out]; rfl)), rfl⟩
 ·have HD := Lib.hid (decide_eq_false (show ¬ (11 ≤ f ∧ f ≤ 16) from fun h => h1 h.1))
  go_enter Tryz.func157, Tryz.ntmps157
  go_wp2
  go_ret
  exact ⟨ret_b (by first | (simp; omega) | (simp; done) | (rw [HD.out]; rfl)), rfl⟩
theorem reallowed_calls (f c : Int) (w : World) (hc : c = 0 ∨ c = 1 ∨ c = 2) : Calls Tryz.prog 158 #[.int .i64 f, .int .i64 c] w fun e w' => e = .returned (.bool (alw f c)) ∧ w = w' := by
 rcases hc with rfl | rfl | rfl
 ·have HE := Lib.hid (show alw f 0 = true by simp [alw])
  rw [HE.out]
  go_enter Tryz.func158, Tryz.ntmps158
  go_wp2
  go_ret
  exact ⟨rfl, rfl⟩
 ·by_cases h1 : f = 13
  ·subst h1
   have HE := Lib.hid (show alw 13 1 = true by simp [alw])
   rw [HE.out]
   go_enter Tryz.func158, Tryz.ntmps158
   go_wp2
   go_ret
   exact ⟨rfl, rfl⟩
  ·have h1b : (f == 13) = false := by rw [beq_eq_false_iff_ne]; exact h1
   have HE := Lib.hid (show alw f 1 = (f == 16) by by_cases h : f = 16 <;> simp [alw, h, h1])
   rw [HE.out]; clear h1
   go_enter Tryz.func158, Tryz.ntmps158
   go_wp2
   go_ret
   exact ⟨ret_b (by first | rfl | simp), rfl⟩
 ·have HE := Lib.hid (show alw f 2 = false by simp [alw])
  rw [HE.out]
  go_enter Tryz.func158, Tryz.ntmps158
  go_wp2
  go_ret
  exact ⟨rfl, rfl⟩
theorem reatf_calls {ok : Nat → Prop} (v : Value) (l : List Nat) (k : Nat) (w : World) (hv : Slc w ok v l.length (f64s l)) (hm : l.length ≤ 2000000) (h : l.length = 1 ∨ k < l.length) : Calls Tryz.prog 220 #[v, .int .i64 (k : Int)] w fun e w' => e = .returned (.float .f64 (pk 0 l k)) ∧ w = w' := by
 obtain ⟨ao, cap, rfl, _⟩ := hv.opened
 by_cases h1 : l.length = 1
 ·obtain ⟨b, off, cap', x, e1, hx, hcx⟩ := Slc.at_map (Value.float .f64) hv 0 (by omega)
  cases e1
  have HX := Lib.hid (show pk 0 l k = x by unfold pk; rw [if_pos h1, List.getD_eq_getElem?_getD, hx]; rfl)
  rw [h1]
  rw [Nat.add_zero] at hcx
  clear h h1 hx hv hm
  go_enter Tryz.func220, Tryz.ntmps220
  go_wp2
  go_ret
  rw [HX.out]
  exact ⟨rfl, rfl⟩
 ·obtain ⟨b, off, cap', x, e1, hx, hcx⟩ := Slc.at_map (Value.float .f64) hv k (by omega)
  cases e1
  have HX := Lib.hid (show pk 0 l k = x by unfold pk; rw [if_neg h1, List.getD_eq_getElem?_getD, hx]; rfl)
  have hb : ((l.length : Int) == 1) = false := by rw [beq_eq_false_iff_ne]; omega
  have hk : k < l.length := by omega
  clear h h1 hx hv
  go_enter Tryz.func220, Tryz.ntmps220
  go_wp2
  go_ret
  rw [HX.out]
  exact ⟨rfl, rfl⟩
theorem reatr_calls {ok : Nat → Prop} (v : Value) (l : List Int) (k : Nat) (w : World) (hv : Slc w ok v l.length (i32s l)) (hm : l.length ≤ 2000000) (h : l.length = 1 ∨ k < l.length) : Calls Tryz.prog 217 #[v, .int .i64 (k : Int)] w fun e w' => e = .returned (.int .i32 (pk 0 l k)) ∧ w = w' := by
 obtain ⟨ao, cap, rfl, _⟩ := hv.opened
 by_cases h1 : l.length = 1
 ·obtain ⟨b, off, cap', x, e1, hx, hcx⟩ := Slc.at_map (Value.int .i32) hv 0 (by omega)
  cases e1
  have HX := Lib.hid (show pk 0 l k = x by unfold pk; rw [if_pos h1, List.getD_eq_getElem?_getD, hx]; rfl)
  rw [h1]
  rw [Nat.add_zero] at hcx
  clear h h1 hx hv hm
  go_enter Tryz.func217, Tryz.ntmps217
  go_wp2
  go_ret
  rw [HX.out]
  exact ⟨rfl, rfl⟩
 ·obtain ⟨b, off, cap', x, e1, hx, hcx⟩ := Slc.at_map (Value.int .i32) hv k (by omega)
  cases e1
  have HX := Lib.hid (show pk 0 l k = x by unfold pk; rw [if_neg h1, List.getD_eq_getElem?_getD, hx]; rfl)
  have hb : ((l.length : Int) == 1) = false := by rw [beq_eq_false_iff_ne]; omega
  have hk : k < l.length := by omega
  clear h h1 hx hv
  go_enter Tryz.func217, Tryz.ntmps217
  go_wp2
  go_ret
  rw [HX.out]
  exact ⟨rfl, rfl⟩
theorem reone_calls (f : Int) (a b : Nat) (w : World) (ha : Fnt a) (hb : Fnt b) : Calls Tryz.prog 144 #[.int .i64 f, .float .f64 a, .float .f64 b] w fun e w' => e = .returned (.tuple #[.bool (relB f a b), .int .i64 (relE f)]) ∧ w = w' := by
 by_cases hf : 11 ≤ f ∧ f ≤ 16
 ·have HD := Lib.hid (decide_eq_true hf)
  have HF := Lib.hid hf; have HA := Lib.hid ha; have HB := Lib.hid hb
  have HG := Lib.hid (show relE f = 0 from if_pos hf)
  rw [HG.out]; clear hf ha hb
  go_enter Tryz.func144, Tryz.ntmps144
  go_wp2_with (refine (reknown_calls _ _).mono ?_; rintro e w' ⟨rfl, rfl⟩; rw [HD.out])
  refine (hof_calls f a b _ HF.out HA.out HB.out).mono ?_
  rintro e w' ⟨rfl, rfl⟩
  go_wp2
  go_ret2
  exact ⟨rfl, rfl⟩
 ·have HD := Lib.hid (decide_eq_false hf)
  have HE := Lib.hid (relB_none a b hf)
  have HG := Lib.hid (show relE f = 1 from if_neg hf)
  rw [HE.out, HG.out]
  clear hf ha hb
  go_enter Tryz.func144, Tryz.ntmps144
  go_wp2_with (refine (reknown_calls _ _).mono ?_; rintro e w' ⟨rfl, rfl⟩; rw [HD.out])
  go_ret2
  exact ⟨rfl, rfl⟩
end Go.Proofs.YtbacchbcanlciaaGreatDoor

namespace Go.Proofs.YtbacchbcanlciaaGreatDoor
set_option maxRecDepth 100000
open Go.RowKit Fl
set_option linter.unusedVariables false

theorem at2_put {w : World} {b : Nat} {u v : Value} (h : At2 w b u v) (x y : Value) : At2 ((w.setCell ⟨b, 0, none⟩ x).setCell ⟨b, 1, none⟩ y) b x y := by
 have e1 : (w.setCell ⟨b, 0, none⟩ x).cell? ⟨b, 1, none⟩ = some v := (World.cell?_setCell_other _ _ _ _ (by simp)).trans h.2.2.1
 exact ⟨by simpa using h.1, (World.cell?_setCell_other _ _ _ _ (by simp)).trans (World.cell?_setCell_same _ _ _ h.2.1), World.cell?_setCell_same _ _ _ e1, fun o => by simpa using h.2.2.2 o⟩
theorem below_setc {w w2 : World} {b0 : Nat} (h : Below w.heap.size w w2) (hb : w.heap.size ≤ b0) (x y : Value) : Below w.heap.size w ((w2.setCell ⟨b0, 0, none⟩ x).setCell ⟨b0, 1, none⟩ y) := below_set2 x y h hb
theorem tabR_pow (f : Int) : ∀ k, tabR f k < 2 ^ k
 | 0 => by show 0 < 1; omega
 | k + 1 => by
  have h := tabR_pow f k
  have h2 : 2 ^ k < 2 ^ (k + 1) := Nat.pow_lt_pow_right (by decide) (by omega)
  rw [tabR]
  split
  ·exact Nat.or_lt_two_pow (by omega) h2
  ·omega
theorem tabR_or (f : Int) (k : Nat) (hk : k < 4) : bits BinOp.or IntKind.u8 (tabR f k : Int) (2 ^ k % 256 : Int) = ((tabR f k ||| 2 ^ k : Nat) : Int) := by
 have h := tabR_pow f k
 have h2 : (2 : Nat) ^ k ≤ 2 ^ 3 := Nat.pow_le_pow_right (by decide) (by omega)
 have e : (2 ^ k % 256 : Int) = ((2 ^ k : Nat) : Int) := by
  have : ((2 ^ k : Nat) : Int) = (2 : Int) ^ k := by simp
  omega
 rw [e]
 exact u8_or_nat _ _ (by omega) (by omega)
theorem respread_calls (v : Value) (l : List Bool) (n : Nat) (w : World) (hv : IsBits w v l) (hl : l.length ≤ 1048576) (hn : n ≤ 1048576) (h : l.length = 1 ∨ l.length = n) :
  Calls Tryz.prog 219 #[v, .int .i64 (n : Int)] w fun e w' => ∃ v', e = .returned v' ∧ IsBits w' v' ((List.range n).map (pk false l)) ∧ Below w.heap.size w w' := by
 have HV := Lib.hid hv
 obtain ⟨ao, cap, rfl, hcells⟩ := hv.opened
 obtain ⟨L, hL⟩ : ∃ L, (l.length + 63) / 64 = L := ⟨_, rfl⟩
 rw [hL] at HV ⊢
 clear hcells hv hL
 obtain ⟨W1, hW1⟩ : ∃ W1, W1 = (w.alloc (.cells #[.int .i64 l.length, .slice ao L cap] 63)).alloc (.cells #[.int .i64 0, .slice none 0 0] 63) := ⟨_, rfl⟩
 have HA := Lib.hid (show At2 W1 w.heap.size (.int .i64 l.length) (.slice ao L cap) by rw [hW1]; exact (At2.new _ _ _ _).alloc _)
 have HR := Lib.hid (show At2 W1 (w.heap.size + 1) (.int .i64 0) (.slice none 0 0) by
  rw [hW1]; have := At2.new (w.alloc (.cells #[.int .i64 l.length, .slice ao L cap] 63)) (.int .i64 0) (.slice none 0 0) 63; simpa using this)
 have HB := Lib.hid (show Below w.heap.size w W1 by rw [hW1]; exact ((Below.refl _ _).alloc (Nat.le_refl _) _).alloc (by simp) _)
 have HV1 := Lib.hid (HV.out.keep (keep_below HB.out))
 have HL := Lib.hid hl; have HN := Lib.hid hn
 have hfold := hW1.symm
 clear hW1 hl hn; have cHA0 := HA.out.2.1; have cHA1 := HA.out.2.2.1
 go_enter Tryz.func219, Tryz.ntmps219
 go_wp2_with fail
 clear hfold
 refine (len_calls _ l _ HV1.out).mono ?_
 rintro e W2 ⟨rfl, hB⟩
 have HB2 := Lib.hid (HB.out.trans (hB.mono HB.out.size))
 have HV2 := Lib.hid (HV1.out.keep (keep_below hB))
 have HR2 := Lib.hid (HR.out.below hB)
 have HA2 := Lib.hid (HA.out.below hB)
 clear cHA0 cHA1 hB; have cHA0 := HA2.out.2.1; have cHA1 := HA2.out.2.2.1; have cHR0 := HR2.out.2.1; have cHR1 := HR2.out.2.2.1; have zHR0 := HR2.out.2.2.2 0; have zHR1 := HR2.out.2.2.2 1
 by_cases h1 : l.length = 1
 ·have hb : ((l.length : Int) == 1) = true := by rw [h1]; rfl
  have H1 := Lib.hid h1; clear h h1
  go_wp2_with fail
  refine (at_calls _ l 0 _ HV2.out HL.out).mono ?_
  rintro e W3 ⟨rfl, hB⟩
  have HB3 := Lib.hid (HB2.out.trans (hB.mono HB2.out.size))
  have HR3 := Lib.hid (HR2.out.below hB)
  clear cHA0 cHA1 cHR0 cHR1 zHR0 zHR1 hB; have cHR0 := HR3.out.2.1; have cHR1 := HR3.out.2.2.1; have zHR0 := HR3.out.2.2.2 0; have zHR1 := HR3.out.2.2.2 1
  have HM := Lib.hid (show min (max (n : Int) 0) 1048576 = n by have := HN.out; omega)
  go_wp2_with fail
  refine (make_calls _ _ n HM.out _).mono ?_
  rintro e W4 ⟨v4, rfl, hv4, hB⟩
  have HB4 := Lib.hid (HB3.out.trans (hB.mono HB3.out.size))
  have HR4 := Lib.hid (HR3.out.below hB)
  have HV4 := Lib.hid hv4; clear cHR0 cHR1 zHR0 zHR1 hB hv4; have cHR0 := HR4.out.2.1; have cHR1 := HR4.out.2.2.1; have zHR0 := HR4.out.2.2.2 0; have zHR1 := HR4.out.2.2.2 1
  obtain ⟨ao4, cap4, rfl, _⟩ := HV4.out.opened
  go_wp2_with fail
  rw [List.length_replicate] at *
  have hq := at2_put HR4.out (.int .i64 n) (.slice ao4 ((n + 63) / 64) cap4)
  have q0 := hq.2.1
  have q1 := hq.2.2.1
  have HB5 := Lib.hid (below_setc HB4.out (show w.heap.size ≤ w.heap.size + 1 by omega) (.int .i64 n) (.slice ao4 ((n + 63) / 64) cap4))
  refine bodyPost_ret (v := .agg #[.int .i64 n, .slice ao4 ((n + 63) / 64) cap4]) (by simp [results, Tryz.results219, go_sem, q0, q1]) rfl ⟨_, rfl, ?_, HB5.out⟩
  have e : (List.range n).map (pk false l) = List.replicate n (sqI l 0) := by
   apply List.ext_getElem (by simp)
   intro i h1 h2
   have h0 : 0 < l.length := by have := H1.out; omega
   have e2 : sqI l 0 = l[0] := by simp [sqI, sq, List.getElem?_eq_getElem h0]
   simp [pk, H1.out, e2]
  rw [e]
  have := HV4.out.set2 HR4.out (.int .i64 n) (.slice ao4 ((n + 63) / 64) cap4)
  simpa using this
 ·have hb : ((l.length : Int) == 1) = false := by rw [beq_eq_false_iff_ne]; omega
  have H1 := Lib.hid (show l.length = n by omega)
  clear h h1
  go_wp2_with fail
  have hq := at2_put HR2.out (.int .i64 l.length) (.slice ao L cap)
  have q0 := hq.2.1
  have q1 := hq.2.2.1
  have HB3 := Lib.hid (below_setc HB2.out (show w.heap.size ≤ w.heap.size + 1 by omega) (.int .i64 l.length) (.slice ao L cap))
  refine bodyPost_ret (v := .agg #[.int .i64 l.length, .slice ao L cap]) (by simp [results, Tryz.results219, go_sem, q0, q1]) rfl ⟨_, rfl, ?_, HB3.out⟩
  have e : (List.range n).map (pk false l) = l := by
   apply List.ext_getElem (by simp [H1.out])
   intro i h1 h2
   have e1 : (if l.length = 1 then 0 else i) = i := by split <;> omega
   simp [pk, e1, List.getElem?_eq_getElem h2]
  rw [e]
  exact HV2.out.set2 HR2.out _ _
theorem retable_calls (f : Int) (w : World) (hf : 11 ≤ f ∧ f ≤ 16) : Calls Tryz.prog 218 #[.int .i64 f] w fun e w' => e = .returned (.int .u8 (tabR f 4 : Nat)) ∧ w = w' := by
 have HF := Lib.hid hf; clear hf
 go_enter Tryz.func218, Tryz.ntmps218
 go_wp2
 go_loopw [3, 6] (fun t i wr => ∃ k : Nat, k ≤ 2 ∧ i = .int .i64 k ∧ t = .int .u8 (tabR f (2 * k) : Nat) ∧ w = wr) (fun _ i _ => 2 - (intOf i).toNat)
 case atStart => exact ⟨0, by omega, rfl, rfl, rfl⟩
 case round =>
  obtain ⟨k, hk, rfl, rfl, hw⟩ := hrel
  by_cases hlt : k < 2
  ·go_wp2
   rw [show decide ((k : Int) < 2) = true from decide_eq_true (by omega)]
   go_loopw [3, 9] (fun t i wr2 => ∃ m : Nat, m ≤ 2 ∧ i = .int .i64 m ∧ t = .int .u8 (tabR f (2 * k + m) : Nat) ∧ w = wr2) (fun _ i _ => 2 - (intOf i).toNat)
   case atStart => exact ⟨0, by omega, rfl, rfl, hw⟩
   case round =>
    obtain ⟨m, hm, rfl, rfl, hw2⟩ := hrel
    by_cases hlt2 : m < 2
    ·go_wp2_with fail
     refine (hoi_calls f k m _ HF.out).mono ?_
     rintro e w' ⟨rfl, rfl⟩
     have HT := Lib.hid (show tabR f (2 * k + (m + 1)) = if relI f k m then tabR f (2 * k + m) ||| 2 ^ (2 * k + m) else tabR f (2 * k + m) by
      have e1 : (2 * k + m) / 2 = k := by omega
      have e2 : (2 * k + m) % 2 = m := by omega
      show tabR f ((2 * k + m) + 1) = _
      rw [tabR, e1, e2])
     by_cases hr : relI f k m = true
     ·have HT2 := Lib.hid (HT.out.trans (if_pos hr))
      rw [hr]; clear hr
      go_wp2
      rw [tabR_or f _ (by omega)]
      go_roundw
      case rel => exact ⟨m + 1, by omega, by go_num, by rw [HT2.out], hw2⟩
      case measure => simp [intOf]; omega
     ·have HT2 := Lib.hid (HT.out.trans (if_neg hr))
      rw [(by simpa using hr : relI f k m = false)]
      clear hr
      go_wp2
      go_roundw
      case rel => exact ⟨m + 1, by omega, by go_num, by rw [HT2.out], hw2⟩
      case measure => simp [intOf]; omega
    ·have hm2 : m = 2 := by omega
     subst hm2
     go_wp2
     go_roundw
     first | (case rel => exact ⟨k + 1, by omega, by go_num, rfl, hw2⟩) | (case rel => (repeat apply Exists.intro); exact ⟨⟨k + 1, by omega, by go_num, rfl, hw2⟩, rfl⟩)
     case measure => simp [intOf]; omega
  ·have hk2 : k = 2 := by omega
   subst hk2
   go_wp2
   go_ret
   exact ⟨rfl, hw⟩
end Go.Proofs.YtbacchbcanlciaaGreatDoor

namespace Go.Proofs.YtbacchbcanlciaaGreatDoor
set_option maxRecDepth 100000
open Go.RowKit Fl
set_option linter.unusedVariables false

theorem run_store_bool (w : World) (a : Addr) (b : Bool) (m : Mode) : (store a (.bool b) m).run Tryz.prog w = stored Tryz.prog w a (.bool b) m := run_store Tryz.prog w a _ m rfl
set_option maxHeartbeats 4000000 in
theorem eachf_calls {okA okB : Nat → Prop} (f : Int) (va vb : Value) (la lb : List Nat) (n : Nat) (w : World) (hf : 11 ≤ f ∧ f ≤ 16) (hva : Slc w okA va la.length (f64s la)) (hvb : Slc w okB vb lb.length (f64s lb)) (hla : la.length ≤ 1048576) (hlb : lb.length ≤ 1048576) (na : ∀ x ∈ la, Num x) (nb : ∀ x ∈ lb, Num x) (hg : goesA la.length lb.length) (hn : n = lenN la.length lb.length) :
  Calls Tryz.prog 200 #[.int .i64 f, va, vb, .int .i64 (n : Int)] w fun e w' => ∃ v, e = .returned v ∧ IsBits w' v ((prs 0 la lb n).map fun p => relB f p.1 p.2) ∧ Below w.heap.size w w' := by
 obtain ⟨P, hP⟩ : ∃ P, P = prs 0 la lb n := ⟨_, rfl⟩
 obtain ⟨R, hR⟩ : ∃ R : List Bool, R = P.map fun p => relB f p.1 p.2 := ⟨_, rfl⟩
 rw [← hP, ← hR]
 have HRL := Lib.hid (show R.length = n by rw [hR, List.length_map, hP, prs_len])
 have HRG := Lib.hid (show ∀ k, k < n → R[k]? = some (relB f (pk 0 la k) (pk 0 lb k)) by intro k hk; rw [hR, List.getElem?_map, hP, prs_get hk]; rfl)
 have HIN := Lib.hid (show ∀ i, i < n → (la.length = 1 ∨ i < la.length) ∧ (lb.length = 1 ∨ i < lb.length) by
  intro i hi
  rw [hn] at hi
  exact lenN_in hg hi)
 have HNL := Lib.hid (show n ≤ 1048576 by rw [hn]; exact lenN_le hla hlb)
 have HNA := Lib.hid na; have HNB := Lib.hid nb
 have HLA := Lib.hid (show la.length ≤ 2000000 by omega)
 have HLB := Lib.hid (show lb.length ≤ 2000000 by omega)
 have HF := Lib.hid hf; clear hP hR hg hn hla hlb hf na nb
 have hst := run_store_bool
 have hmk := run_mkB n (by have := HNL.out; omega) (w.alloc (.cells #[.int .i64 0, .slice none 0 0] 63))
 simp only [World.size_alloc] at hmk
 obtain ⟨W0, hW0⟩ : ∃ W0, W0 = (w.alloc (.cells #[.int .i64 0, .slice none 0 0] 63)).alloc (.cells (zeroB n) 4) := ⟨_, rfl⟩
 have HO0 := Lib.hid (show W0.ownsRow (w.heap.size + 1) 4 1 (.slice (some ⟨w.heap.size + 1, 0, none⟩) n n) n (bools (List.replicate n false)) by
  have := own_mkB n (by have := HNL.out; omega) (w.alloc (.cells #[.int .i64 0, .slice none 0 0] 63)) (w.heap.size + 1) (by simp)
  rw [hW0]; simpa using this)
 have HR := Lib.hid (show At2 W0 w.heap.size (.int .i64 0) (.slice none 0 0) by rw [hW0]; exact (At2.new _ _ _ _).alloc _)
 have HW := Lib.hid (show Below w.heap.size w W0 by rw [hW0]; exact (below_new _ _).alloc (by simp) _)
 have HVA := Lib.hid hva; have HVB := Lib.hid hvb; clear hva hvb
 go_enter Tryz.func200, Tryz.ntmps200
 go_wp2
 rw [← hW0]
 clear hW0 hmk
 go_loopw [15] (fun i wr => ∃ k : Nat, k ≤ n ∧ i = .int .i64 k ∧ wr.ownsRow (w.heap.size + 1) 4 1 (.slice (some ⟨w.heap.size + 1, 0, none⟩) n n) n (bools (headB R k)) ∧ W0.grownBy wr (some (w.heap.size + 1))) (fun i _ => n - (intOf i).toNat)
 case atStart => exact ⟨0, by omega, rfl, by rw [headB_zero, HRL.out]; exact HO0.out, grown_refl _ _⟩
 case round =>
  obtain ⟨k, hk, rfl, hown, hgr⟩ := hrel
  have HO := Lib.hid hown; have HG := Lib.hid hgr
  have HB := Lib.hid (HW.out.grown hgr HW.out.size (fun j hj => by cases hj; omega))
  have HR := Lib.hid (HR.out.grown hgr (by simp))
  have HVA := Lib.hid (HVA.out.below HB.out)
  have HVB := Lib.hid (HVB.out.below HB.out)
  clear hown hgr; have hnm := HNL.out
  by_cases hlt : k < n
  ·have HI := Lib.hid (HIN.out k hlt)
   obtain ⟨x, hx⟩ : ∃ x, pk 0 la k = x := ⟨_, rfl⟩
   obtain ⟨y, hy⟩ : ∃ y, pk 0 lb k = y := ⟨_, rfl⟩
   have HXX := Lib.hid hx; have HYY := Lib.hid hy
   have NX := Lib.hid (show Fnt x by rw [← hx]; exact (HNA.out _ (pk_mem HI.out.1)).1)
   have NY := Lib.hid (show Fnt y by rw [← hy]; exact (HNB.out _ (pk_mem HI.out.2)).1)
   have HRK := Lib.hid (show sq R k = relB f x y by unfold sq; rw [HRG.out k hlt, hx, hy]; rfl)
   have HKL := Lib.hid (show k < R.length by rw [HRL.out]; exact hlt)
   clear hx hy
   have hcw := owns_cell HO.out k (by simp [bools, headB]; exact HKL.out)
   have hfr := World.ownsRow.frozenAt HO.out k
   go_wp2_with (first | ((with_reducible refine (reatf_calls va la k _ HVA.out HLA.out HI.out.1).mono ?_); rintro e w' ⟨rfl, rfl⟩; rw [HXX.out]) | ((with_reducible refine (reatf_calls vb lb k _ HVB.out HLB.out HI.out.2).mono ?_); rintro e w' ⟨rfl, rfl⟩; rw [HYY.out]) | ((with_reducible refine (hof_calls f x y _ HF.out NX.out NY.out).mono ?_); rintro e w' ⟨rfl, rfl⟩))
   go_roundw
   case rel =>
    refine ⟨k + 1, by omega, by go_num, ?_, grown_trans HG.out (grown_setCell _ ⟨w.heap.size + 1, k, none⟩ _)⟩
    have := (World.ownsRow.stored HO.out k (.bool (relB f x y))).1
    rw [← headB_set, HRK.out]
    simpa [bools, List.map_set] using this
   case measure => simp [intOf]; omega
  ·have hkl : k = n := by omega
   have HL := Lib.hid (show Slc wr (fun b => w.heap.size + 1 ≤ b) (.slice (some ⟨w.heap.size + 1, 0, none⟩) n n) R.length (bools R) by
    have := Slc.owned HO.out
    rw [hkl, ← HRL.out, headB_all, HRL.out] at this
    rw [HRL.out]; exact this)
   have HRM := Lib.hid (show R.length ≤ 1048576 by rw [HRL.out]; exact HNL.out)
   clear hkl
   go_wp2_with fail
   refine (pack_calls _ R _ HL.out.1.sl HRM.out).mono ?_
   rintro e W2 ⟨v2, rfl, hv2, hB2⟩
   have HV2 := Lib.hid hv2
   have HB3 := Lib.hid (HB.out.trans (hB2.mono HB.out.size))
   have HR2 := Lib.hid (HR.out.below hB2)
   obtain ⟨ao2, cap2, rfl, _⟩ := hv2.opened
   clear hv2 hB2; have cHR0 := HR2.out.2.1; have cHR1 := HR2.out.2.2.1; have zHR0 := HR2.out.2.2.2 0; have zHR1 := HR2.out.2.2.2 1
   go_wp2
   have hq := at2_put HR2.out (.int .i64 R.length) (.slice ao2 ((R.length + 63) / 64) cap2)
   have q0 := hq.2.1
   have q1 := hq.2.2.1
   have HB5 := Lib.hid (below_setc HB3.out (Nat.le_refl _) (.int .i64 R.length) (.slice ao2 ((R.length + 63) / 64) cap2))
   refine bodyPost_ret (v := .agg #[.int .i64 R.length, .slice ao2 ((R.length + 63) / 64) cap2]) (by simp [results, Tryz.results200, go_sem, q0, q1]) rfl ⟨_, rfl, HV2.out.set2 HR2.out _ _, HB5.out⟩
set_option maxHeartbeats 4000000 in
theorem eachr_calls {okA okB : Nat → Prop} (f : Int) (va vb : Value) (la lb : List Int) (n : Nat) (w : World) (hf : 11 ≤ f ∧ f ≤ 16) (hva : Slc w okA va la.length (i32s la)) (hvb : Slc w okB vb lb.length (i32s lb)) (hla : la.length ≤ 1048576) (hlb : lb.length ≤ 1048576) (hg : goesA la.length lb.length) (hn : n = lenN la.length lb.length) :
  Calls Tryz.prog 198 #[.int .i64 f, va, vb, .int .i64 (n : Int)] w fun e w' => ∃ v, e = .returned v ∧ IsBits w' v ((prs 0 la lb n).map fun p => relI f p.1 p.2) ∧ Below w.heap.size w w' := by
 obtain ⟨P, hP⟩ : ∃ P, P = prs 0 la lb n := ⟨_, rfl⟩
 obtain ⟨R, hR⟩ : ∃ R : List Bool, R = P.map fun p => relI f p.1 p.2 := ⟨_, rfl⟩
 rw [← hP, ← hR]
 have HRL := Lib.hid (show R.length = n by rw [hR, List.length_map, hP, prs_len])
 have HRG := Lib.hid (show ∀ k, k < n → R[k]? = some (relI f (pk 0 la k) (pk 0 lb k)) by intro k hk; rw [hR, List.getElem?_map, hP, prs_get hk]; rfl)
 have HIN := Lib.hid (show ∀ i, i < n → (la.length = 1 ∨ i < la.length) ∧ (lb.length = 1 ∨ i < lb.length) by
  intro i hi
  rw [hn] at hi
  exact lenN_in hg hi)
 have HNL := Lib.hid (show n ≤ 1048576 by rw [hn]; exact lenN_le hla hlb)
 have HLA := Lib.hid (show la.length ≤ 2000000 by omega)
 have HLB := Lib.hid (show lb.length ≤ 2000000 by omega)
 have HF := Lib.hid hf; clear hP hR hg hn hla hlb hf
 have hst := run_store_bool
 have hmk := run_mkB n (by have := HNL.out; omega) (w.alloc (.cells #[.int .i64 0, .slice none 0 0] 63))
 simp only [World.size_alloc] at hmk
 obtain ⟨W0, hW0⟩ : ∃ W0, W0 = (w.alloc (.cells #[.int .i64 0, .slice none 0 0] 63)).alloc (.cells (zeroB n) 4) := ⟨_, rfl⟩
 have HO0 := Lib.hid (show W0.ownsRow (w.heap.size + 1) 4 1 (.slice (some ⟨w.heap.size + 1, 0, none⟩) n n) n (bools (List.replicate n false)) by
  have := own_mkB n (by have := HNL.out; omega) (w.alloc (.cells #[.int .i64 0, .slice none 0 0] 63)) (w.heap.size + 1) (by simp)
  rw [hW0]; simpa using this)
 have HR := Lib.hid (show At2 W0 w.heap.size (.int .i64 0) (.slice none 0 0) by rw [hW0]; exact (At2.new _ _ _ _).alloc _)
 have HW := Lib.hid (show Below w.heap.size w W0 by rw [hW0]; exact (below_new _ _).alloc (by simp) _)
 have HVA := Lib.hid hva; have HVB := Lib.hid hvb; clear hva hvb
 go_enter Tryz.func198, Tryz.ntmps198
 go_wp2
 rw [← hW0]
 clear hW0 hmk
 go_loopw [15] (fun i wr => ∃ k : Nat, k ≤ n ∧ i = .int .i64 k ∧ wr.ownsRow (w.heap.size + 1) 4 1 (.slice (some ⟨w.heap.size + 1, 0, none⟩) n n) n (bools (headB R k)) ∧ W0.grownBy wr (some (w.heap.size + 1))) (fun i _ => n - (intOf i).toNat)
 case atStart => exact ⟨0, by omega, rfl, by rw [headB_zero, HRL.out]; exact HO0.out, grown_refl _ _⟩
 case round =>
  obtain ⟨k, hk, rfl, hown, hgr⟩ := hrel
  have HO := Lib.hid hown; have HG := Lib.hid hgr
  have HB := Lib.hid (HW.out.grown hgr HW.out.size (fun j hj => by cases hj; omega))
  have HR := Lib.hid (HR.out.grown hgr (by simp))
  have HVA := Lib.hid (HVA.out.below HB.out)
  have HVB := Lib.hid (HVB.out.below HB.out)
  clear hown hgr; have hnm := HNL.out
  by_cases hlt : k < n
  ·have HI := Lib.hid (HIN.out k hlt)
   obtain ⟨x, hx⟩ : ∃ x, pk 0 la k = x := ⟨_, rfl⟩
   obtain ⟨y, hy⟩ : ∃ y, pk 0 lb k = y := ⟨_, rfl⟩
   have HXX := Lib.hid hx; have HYY := Lib.hid hy
   have HRK := Lib.hid (show sq R k = relI f x y by unfold sq; rw [HRG.out k hlt, hx, hy]; rfl)
   have HKL := Lib.hid (show k < R.length by rw [HRL.out]; exact hlt)
   clear hx hy
   have hcw := owns_cell HO.out k (by simp [bools, headB]; exact HKL.out)
   have hfr := World.ownsRow.frozenAt HO.out k
   go_wp2_with (first | ((with_reducible refine (reatr_calls va la k _ HVA.out HLA.out HI.out.1).mono ?_); rintro e w' ⟨rfl, rfl⟩; rw [HXX.out]) | ((with_reducible refine (reatr_calls vb lb k _ HVB.out HLB.out HI.out.2).mono ?_); rintro e w' ⟨rfl, rfl⟩; rw [HYY.out]) | ((with_reducible refine (hor_calls f x y _ HF.out).mono ?_); rintro e w' ⟨rfl, rfl⟩))
   go_roundw
   case rel =>
    refine ⟨k + 1, by omega, by go_num, ?_, grown_trans HG.out (grown_setCell _ ⟨w.heap.size + 1, k, none⟩ _)⟩
    have := (World.ownsRow.stored HO.out k (.bool (relI f x y))).1
    rw [← headB_set, HRK.out]
    simpa [bools, List.map_set] using this
   case measure => simp [intOf]; omega
  ·have hkl : k = n := by omega
   have HL := Lib.hid (show Slc wr (fun b => w.heap.size + 1 ≤ b) (.slice (some ⟨w.heap.size + 1, 0, none⟩) n n) R.length (bools R) by
    have := Slc.owned HO.out
    rw [hkl, ← HRL.out, headB_all, HRL.out] at this
    rw [HRL.out]; exact this)
   have HRM := Lib.hid (show R.length ≤ 1048576 by rw [HRL.out]; exact HNL.out)
   clear hkl
   go_wp2_with fail
   refine (pack_calls _ R _ HL.out.1.sl HRM.out).mono ?_
   rintro e W2 ⟨v2, rfl, hv2, hB2⟩
   have HV2 := Lib.hid hv2
   have HB3 := Lib.hid (HB.out.trans (hB2.mono HB.out.size))
   have HR2 := Lib.hid (HR.out.below hB2)
   obtain ⟨ao2, cap2, rfl, _⟩ := hv2.opened
   clear hv2 hB2; have cHR0 := HR2.out.2.1; have cHR1 := HR2.out.2.2.1; have zHR0 := HR2.out.2.2.2 0; have zHR1 := HR2.out.2.2.2 1
   go_wp2
   have hq := at2_put HR2.out (.int .i64 R.length) (.slice ao2 ((R.length + 63) / 64) cap2)
   have q0 := hq.2.1
   have q1 := hq.2.2.1
   have HB5 := Lib.hid (below_setc HB3.out (Nat.le_refl _) (.int .i64 R.length) (.slice ao2 ((R.length + 63) / 64) cap2))
   refine bodyPost_ret (v := .agg #[.int .i64 R.length, .slice ao2 ((R.length + 63) / 64) cap2]) (by simp [results, Tryz.results198, go_sem, q0, q1]) rfl ⟨_, rfl, HV2.out.set2 HR2.out _ _, HB5.out⟩
end Go.Proofs.YtbacchbcanlciaaGreatDoor

namespace Go.Proofs.YtbacchbcanlciaaGreatDoor
set_option maxRecDepth 100000
open Go.RowKit Fl
set_option linter.unusedVariables false

theorem zip_prs (f : Int) (hf : 11 ≤ f ∧ f ≤ 16) (x y : List Bool) (n : Nat) :
  List.zipWith (tab (tabR f 4)) ((List.range n).map (pk false x)) ((List.range n).map (pk false y)) = (prs false x y n).map fun p => relI f p.1.toNat p.2.toNat := by
 apply List.ext_getElem (by simp [prs])
 intro i h1 h2
 simp [prs, tabR_tab hf]
theorem At2.ne {w : World} {b c : Nat} {u v : Value} (h : At2 w b u v) (hbc : b ≠ c) (x y : Value) : At2 ((w.setCell ⟨c, 0, none⟩ x).setCell ⟨c, 1, none⟩ y) b u v :=
 (h.grown (grown_setCell _ ⟨c, 0, none⟩ _) (by simpa using hbc)).grown (grown_setCell _ ⟨c, 1, none⟩ _) (by simpa using hbc)
set_option maxHeartbeats 8000000 in
theorem offlags_calls (f : Int) (vx vy : Value) (x y : List Bool) (n : Nat) (w : World) (hf : 11 ≤ f ∧ f ≤ 16) (hx : IsBits w vx x) (hy : IsBits w vy y) (hlx : x.length ≤ 1048576) (hly : y.length ≤ 1048576) (hg : goesA x.length y.length) (hn : n = lenN x.length y.length) :
  Calls Tryz.prog 199 #[.int .i64 f, vx, vy, .int .i64 (n : Int)] w fun e w' => ∃ v, e = .returned v ∧ IsBits w' v ((prs false x y n).map fun p => relI f p.1.toNat p.2.toNat) ∧ Below w.heap.size w w' := by
 have HF := Lib.hid hf
 have HNL := Lib.hid (show n ≤ 1048576 by rw [hn]; exact lenN_le hlx hly)
 have HXN := Lib.hid (show (x.length = 1 ∨ x.length = n) ∧ (y.length = 1 ∨ y.length = n) by rw [hn]; unfold lenN; rcases hg with h | h | h <;> split <;> omega)
 have HLX := Lib.hid hlx; have HLY := Lib.hid hly
 obtain ⟨R, hR⟩ : ∃ R, (prs false x y n).map (fun p => relI f p.1.toNat p.2.toNat) = R := ⟨_, rfl⟩
 have HZP := Lib.hid ((zip_prs f hf x y n).trans hR)
 have HRL := Lib.hid (show R.length = n by rw [← hR, List.length_map, prs_len])
 rw [hR]; have HX0 := Lib.hid hx; have HY0 := Lib.hid hy
 obtain ⟨ao, cap, rfl, hcx⟩ := hx.opened
 obtain ⟨ao2, cap2, rfl, hcy⟩ := hy.opened
 obtain ⟨L, hL⟩ : ∃ L, (x.length + 63) / 64 = L := ⟨_, rfl⟩
 obtain ⟨M, hM⟩ : ∃ M, (y.length + 63) / 64 = M := ⟨_, rfl⟩
 rw [hL] at HX0 ⊢
 rw [hM] at HY0 ⊢
 clear hcx hcy hL hM hf hx hy hlx hly hg hn hR
 obtain ⟨W1, hW1⟩ : ∃ W1, W1 = ((w.alloc (.cells #[.int .i64 x.length, .slice ao L cap] 63)).alloc (.cells #[.int .i64 y.length, .slice ao2 M cap2] 63)).alloc (.cells #[.int .i64 0, .slice none 0 0] 63) := ⟨_, rfl⟩
 have HB := Lib.hid (show Below w.heap.size w W1 by rw [hW1]; exact ((below_new _ _).alloc (by simp) _).alloc (by simp; omega) _)
 have HA := Lib.hid (show At2 W1 w.heap.size (.int .i64 x.length) (.slice ao L cap) by rw [hW1]; exact ((At2.new _ _ _ _).alloc _).alloc _)
 have HB2 := Lib.hid (show At2 W1 (w.heap.size + 1) (.int .i64 y.length) (.slice ao2 M cap2) by
  rw [hW1]; have := (At2.new (w.alloc (.cells #[.int .i64 x.length, .slice ao L cap] 63)) (.int .i64 y.length) (.slice ao2 M cap2) 63).alloc (.cells #[.int .i64 0, .slice none 0 0] 63); simpa using this)
 have HR := Lib.hid (show At2 W1 (w.heap.size + 1 + 1) (.int .i64 0) (.slice none 0 0) by
  rw [hW1]; have := At2.new ((w.alloc (.cells #[.int .i64 x.length, .slice ao L cap] 63)).alloc (.cells #[.int .i64 y.length, .slice ao2 M cap2] 63)) (.int .i64 0) (.slice none 0 0) 63; simpa using this)
 have HX := Lib.hid (HX0.out.keep (keep_below HB.out))
 have HY := Lib.hid (HY0.out.keep (keep_below HB.out))
 have hfold := hW1.symm
 clear hW1 HX0 HY0
 go_enter Tryz.func199, Tryz.ntmps199
 go_wp2_with fail
 clear hfold
 obtain ⟨W11, hWD, hB⟩ := drwn W1
 replace HA := HA.go hB; replace HB2 := HB2.go hB; replace HR := HR.go hB; replace HB := cb hB HB; replace HX := HX.go hB; replace HY := HY.go hB; clear hB
 refine rgn (S := fun w' => w'.cell? ⟨w.heap.size, 0, none⟩ = some (.int .i64 x.length) ∧ w'.cell? ⟨w.heap.size, 1, none⟩ = some (.slice ao L cap) ∧ w'.cell? ⟨w.heap.size + 1, 0, none⟩ = some (.int .i64 y.length) ∧ w'.cell? ⟨w.heap.size + 1, 1, none⟩ = some (.slice ao2 M cap2)) hWD ⟨HA.out.2.1, HA.out.2.2.1, HB2.out.2.1, HB2.out.2.2.1⟩ (fun hHeld => ?_)
 clear hWD; apply tk 0; apply tk 2; apply tk 3; apply tk 5; apply tk 6
 refine wpAnyH_ready (rs := [1, 12]) (by kernel_rfl) (by simp) ?_
 refine AllReadyH.cons (o := _) rfl (fun K hK => ?_) ?_
 ·clear hHeld; go_simp
  refine (retable_calls f _ HF.out).mono ?_
  rintro e w' ⟨rfl, rfl⟩
  refine hK.out _ _ ⟨HA.out.2.1, HA.out.2.2.1, HB2.out.2.1, HB2.out.2.2.1⟩ (fun hHeld => ?_)
  clear hK K
  refine wpAnyH_ready (rs := [4, 12]) (by kernel_rfl) (by simp) ?_
  refine AllReadyH.cons (o := _) rfl (fun K hK => ?_) ?_
  ·clear hHeld; go_simp
   refine (respread_calls _ x n _ HX.out HLX.out HNL.out HXN.out.1).mono ?_
   rintro e W12 ⟨va, rfl, hva, hB⟩
   replace HA := HA.go hB; replace HB2 := HB2.go hB; replace HR := HR.go hB; replace HB := cb hB HB; replace HX := HX.go hB; replace HY := HY.go hB; have Hva := Lib.hid hva; clear hva; clear hB
   refine hK.out _ _ ⟨HA.out.2.1, HA.out.2.2.1, HB2.out.2.1, HB2.out.2.2.1⟩ (fun hHeld => ?_)
   clear hK K
   refine wpAnyH_ready (rs := [7, 12]) (by kernel_rfl) (by simp) ?_
   refine AllReadyH.cons (o := _) rfl (fun K hK => ?_) ?_
   ·clear hHeld; go_simp
    refine (respread_calls _ y n _ HY.out HLY.out HNL.out HXN.out.2).mono ?_
    rintro e W13 ⟨vb, rfl, hvb, hB⟩
    replace HA := HA.go hB; replace HB2 := HB2.go hB; replace HR := HR.go hB; replace HB := cb hB HB; replace HX := HX.go hB; replace HY := HY.go hB; replace Hva := Hva.go hB; have Hvb := Lib.hid hvb; clear hvb; clear hB
    refine hK.out _ _ ⟨HA.out.2.1, HA.out.2.2.1, HB2.out.2.1, HB2.out.2.2.1⟩ (fun hHeld => ?_)
    clear hK K
    refine wpAnyH_ready (rs := [8, 12]) (by kernel_rfl) (by simp) ?_
    refine AllReadyH.cons (o := _) rfl (fun K hK => ?_) ?_
    ·clear hHeld; go_simp
     refine (truth_yes (tabR f 4) (tabR_lt f) _ _ _ _ _ Hva.out Hvb.out (by simp) (by simpa using HNL.out)).mono ?_
     rintro e W14 ⟨vz, rfl, hvz, hB⟩
     replace HA := HA.go hB; replace HB2 := HB2.go hB; replace HR := HR.go hB; replace HB := cb hB HB; replace HX := HX.go hB; replace HY := HY.go hB; replace Hva := Hva.go hB; replace Hvb := Hvb.go hB
     rw [HZP.out] at hvz
     have Hvz := Lib.hid hvz
     obtain ⟨az, cz, rfl, hcz⟩ := hvz.opened
     rw [HRL.out] at Hvz ⊢
     clear hvz hcz; clear hB
     refine hK.out _ _ ⟨HA.out.2.1, HA.out.2.2.1, HB2.out.2.1, HB2.out.2.2.1⟩ (fun hHeld => ?_)
     clear hK K; apply tk 9; apply tk 10; apply tk 11
     apply rdy 12; intro K hK; clear hHeld; go_simp
     obtain ⟨W15, hWn, hB, hNB⟩ := ahd2 W14 (.int .i64 0) (.slice none 0 0) 63
     rw [hWn]; clear hWn
     obtain ⟨zb, hnm⟩ : ∃ x, W14.heap.size = x := ⟨_, rfl⟩
     rw [hnm] at hNB ⊢
     have HNE := Lib.hid (show w.heap.size + 1 + 1 < zb by rw [← hnm]; exact HR.out.1)
     replace HA := HA.go hB; replace HB2 := HB2.go hB; replace HR := HR.go hB; replace HB := cb hB HB; replace HX := HX.go hB; replace HY := HY.go hB; replace Hva := Hva.go hB; replace Hvb := Hvb.go hB; replace Hvz := Hvz.go hB; have HZ := Lib.hid hNB; clear hNB hB hnm
     refine hK.out _ _ ⟨HA.out.2.1, HA.out.2.2.1, HB2.out.2.1, HB2.out.2.2.1⟩ (fun hHeld => ?_)
     clear hK K
     apply rdy 13; intro K hK; clear hHeld
     obtain ⟨Wf, hWf⟩ : ∃ x, (W15.setCell ⟨zb, 0, none⟩ (.int .i64 n)).setCell ⟨zb, 1, none⟩ (.slice az ((n + 63) / 64) cz) = x := ⟨_, rfl⟩
     have HZF := Lib.hid (show At2 Wf zb (.int .i64 n) (.slice az ((n + 63) / 64) cz) by rw [← hWf]; exact at2_put HZ.out _ _)
     have HZR := Lib.hid (show IsBits Wf (.agg #[.int .i64 n, .slice az ((n + 63) / 64) cz]) R by rw [← hWf]; exact Hvz.out.set2 HZ.out _ _)
     replace HA := Lib.hid (show At2 Wf w.heap.size _ _ by rw [← hWf]; exact HA.out.ne (by have := HNE.out; omega) _ _)
     replace HB2 := Lib.hid (show At2 Wf (w.heap.size + 1) _ _ by rw [← hWf]; exact HB2.out.ne (by have := HNE.out; omega) _ _)
     have HRF := Lib.hid (show At2 Wf (w.heap.size + 1 + 1) (.int .i64 0) (.slice none 0 0) by rw [← hWf]; exact HR.out.ne (by have := HNE.out; omega) _ _)
     have HBF := Lib.hid (show Below w.heap.size w Wf by rw [← hWf]; exact below_setc HB.out (by have := HNE.out; omega) _ _)
     have cZ0 := HZ.out.2.1; have cZ1 := HZ.out.2.2.1; have zZ0 := HZ.out.2.2.2 0; have zZ1 := HZ.out.2.2.2 1; go_simp
     try rw [hWf]
     clear hWf cZ0 cZ1 zZ0 zZ1
     refine hK.out _ _ ⟨HA.out.2.1, HA.out.2.2.1, HB2.out.2.1, HB2.out.2.2.1⟩ (fun hHeld => ?_)
     clear hK K; apply tk 14
     refine wpAnyH_done (by kernel_rfl) ?_ _
     clear hHeld; have cF0 := HZF.out.2.1; have cF1 := HZF.out.2.2.1; have cR0 := HRF.out.2.1; have cR1 := HRF.out.2.2.1; have zR0 := HRF.out.2.2.2 0; have zR1 := HRF.out.2.2.2 1
     go_wp2
     have hq := at2_put HRF.out (.int .i64 n) (.slice az ((n + 63) / 64) cz)
     have q0 := hq.2.1
     have q1 := hq.2.2.1
     have HB5 := Lib.hid (below_setc HBF.out (show w.heap.size ≤ w.heap.size + 1 + 1 by omega) (.int .i64 n) (.slice az ((n + 63) / 64) cz))
     refine bodyPost_ret (v := .agg #[.int .i64 n, .slice az ((n + 63) / 64) cz]) (by simp [results, Tryz.results199, go_sem, q0, q1]) rfl ⟨_, rfl, HZR.out.set2 HRF.out _ _, HB5.out⟩
    refine AllReadyH.cons (o := _) rfl (fun K hK => ?_) ?_
    ·clear hHeld; go_simp
     obtain ⟨W14, hWn, hB, hNB⟩ := ahd2 W13 (.int .i64 0) (.slice none 0 0) 63
     rw [hWn]; clear hWn
     obtain ⟨zb, hnm⟩ : ∃ x, W13.heap.size = x := ⟨_, rfl⟩
     rw [hnm] at hNB ⊢
     have HNE := Lib.hid (show w.heap.size + 1 + 1 < zb by rw [← hnm]; exact HR.out.1)
     replace HA := HA.go hB; replace HB2 := HB2.go hB; replace HR := HR.go hB; replace HB := cb hB HB; replace HX := HX.go hB; replace HY := HY.go hB; replace Hva := Hva.go hB; replace Hvb := Hvb.go hB; have HZ := Lib.hid hNB; clear hNB hB hnm
     refine hK.out _ _ ⟨HA.out.2.1, HA.out.2.2.1, HB2.out.2.1, HB2.out.2.2.1⟩ (fun hHeld => ?_)
     clear hK K
     apply rdy 8; intro K hK; clear hHeld; go_simp
     refine (truth_yes (tabR f 4) (tabR_lt f) _ _ _ _ _ Hva.out Hvb.out (by simp) (by simpa using HNL.out)).mono ?_
     rintro e W15 ⟨vz, rfl, hvz, hB⟩
     replace HA := HA.go hB; replace HB2 := HB2.go hB; replace HR := HR.go hB; replace HB := cb hB HB; replace HX := HX.go hB; replace HY := HY.go hB; replace Hva := Hva.go hB; replace Hvb := Hvb.go hB; replace HZ := HZ.go hB
     rw [HZP.out] at hvz
     have Hvz := Lib.hid hvz
     obtain ⟨az, cz, rfl, hcz⟩ := hvz.opened
     rw [HRL.out] at Hvz ⊢
     clear hvz hcz; clear hB
     refine hK.out _ _ ⟨HA.out.2.1, HA.out.2.2.1, HB2.out.2.1, HB2.out.2.2.1⟩ (fun hHeld => ?_)
     clear hK K; apply tk 9; apply tk 10; apply tk 11
     apply rdy 13; intro K hK; clear hHeld
     obtain ⟨Wf, hWf⟩ : ∃ x, (W15.setCell ⟨zb, 0, none⟩ (.int .i64 n)).setCell ⟨zb, 1, none⟩ (.slice az ((n + 63) / 64) cz) = x := ⟨_, rfl⟩
     have HZF := Lib.hid (show At2 Wf zb (.int .i64 n) (.slice az ((n + 63) / 64) cz) by rw [← hWf]; exact at2_put HZ.out _ _)
     have HZR := Lib.hid (show IsBits Wf (.agg #[.int .i64 n, .slice az ((n + 63) / 64) cz]) R by rw [← hWf]; exact Hvz.out.set2 HZ.out _ _)
     replace HA := Lib.hid (show At2 Wf w.heap.size _ _ by rw [← hWf]; exact HA.out.ne (by have := HNE.out; omega) _ _)
     replace HB2 := Lib.hid (show At2 Wf (w.heap.size + 1) _ _ by rw [← hWf]; exact HB2.out.ne (by have := HNE.out; omega) _ _)
     have HRF := Lib.hid (show At2 Wf (w.heap.size + 1 + 1) (.int .i64 0) (.slice none 0 0) by rw [← hWf]; exact HR.out.ne (by have := HNE.out; omega) _ _)
     have HBF := Lib.hid (show Below w.heap.size w Wf by rw [← hWf]; exact below_setc HB.out (by have := HNE.out; omega) _ _)
     have cZ0 := HZ.out.2.1; have cZ1 := HZ.out.2.2.1; have zZ0 := HZ.out.2.2.2 0; have zZ1 := HZ.out.2.2.2 1; go_simp
     try rw [hWf]
     clear hWf cZ0 cZ1 zZ0 zZ1
     refine hK.out _ _ ⟨HA.out.2.1, HA.out.2.2.1, HB2.out.2.1, HB2.out.2.2.1⟩ (fun hHeld => ?_)
     clear hK K; apply tk 14
     refine wpAnyH_done (by kernel_rfl) ?_ _
     clear hHeld; have cF0 := HZF.out.2.1; have cF1 := HZF.out.2.2.1; have cR0 := HRF.out.2.1; have cR1 := HRF.out.2.2.1; have zR0 := HRF.out.2.2.2 0; have zR1 := HRF.out.2.2.2 1
     go_wp2
     have hq := at2_put HRF.out (.int .i64 n) (.slice az ((n + 63) / 64) cz)
     have q0 := hq.2.1
     have q1 := hq.2.2.1
     have HB5 := Lib.hid (below_setc HBF.out (show w.heap.size ≤ w.heap.size + 1 + 1 by omega) (.int .i64 n) (.slice az ((n + 63) / 64) cz))
     refine bodyPost_ret (v := .agg #[.int .i64 n, .slice az ((n + 63) / 64) cz]) (by simp [results, Tryz.results199, go_sem, q0, q1]) rfl ⟨_, rfl, HZR.out.set2 HRF.out _ _, HB5.out⟩
    exact AllReadyH.nil
   refine AllReadyH.cons (o := _) rfl (fun K hK => ?_) ?_
   ·clear hHeld; go_simp
    obtain ⟨W13, hWn, hB, hNB⟩ := ahd2 W12 (.int .i64 0) (.slice none 0 0) 63
    rw [hWn]; clear hWn
    obtain ⟨zb, hnm⟩ : ∃ x, W12.heap.size = x := ⟨_, rfl⟩
    rw [hnm] at hNB ⊢
    have HNE := Lib.hid (show w.heap.size + 1 + 1 < zb by rw [← hnm]; exact HR.out.1)
    replace HA := HA.go hB; replace HB2 := HB2.go hB; replace HR := HR.go hB; replace HB := cb hB HB; replace HX := HX.go hB; replace HY := HY.go hB; replace Hva := Hva.go hB; have HZ := Lib.hid hNB; clear hNB hB hnm
    refine hK.out _ _ ⟨HA.out.2.1, HA.out.2.2.1, HB2.out.2.1, HB2.out.2.2.1⟩ (fun hHeld => ?_)
    clear hK K
    apply rdy 7; intro K hK; clear hHeld; go_simp
    refine (respread_calls _ y n _ HY.out HLY.out HNL.out HXN.out.2).mono ?_
    rintro e W14 ⟨vb, rfl, hvb, hB⟩
    replace HA := HA.go hB; replace HB2 := HB2.go hB; replace HR := HR.go hB; replace HB := cb hB HB; replace HX := HX.go hB; replace HY := HY.go hB; replace Hva := Hva.go hB; replace HZ := HZ.go hB; have Hvb := Lib.hid hvb; clear hvb; clear hB
    refine hK.out _ _ ⟨HA.out.2.1, HA.out.2.2.1, HB2.out.2.1, HB2.out.2.2.1⟩ (fun hHeld => ?_)
    clear hK K
    apply rdy 8; intro K hK; clear hHeld; go_simp
    refine (truth_yes (tabR f 4) (tabR_lt f) _ _ _ _ _ Hva.out Hvb.out (by simp) (by simpa using HNL.out)).mono ?_
    rintro e W15 ⟨vz, rfl, hvz, hB⟩
    replace HA := HA.go hB; replace HB2 := HB2.go hB; replace HR := HR.go hB; replace HB := cb hB HB; replace HX := HX.go hB; replace HY := HY.go hB; replace Hva := Hva.go hB; replace HZ := HZ.go hB; replace Hvb := Hvb.go hB
    rw [HZP.out] at hvz
    have Hvz := Lib.hid hvz
    obtain ⟨az, cz, rfl, hcz⟩ := hvz.opened
    rw [HRL.out] at Hvz ⊢
    clear hvz hcz; clear hB
    refine hK.out _ _ ⟨HA.out.2.1, HA.out.2.2.1, HB2.out.2.1, HB2.out.2.2.1⟩ (fun hHeld => ?_)
    clear hK K; apply tk 9; apply tk 10; apply tk 11
    apply rdy 13; intro K hK; clear hHeld
    obtain ⟨Wf, hWf⟩ : ∃ x, (W15.setCell ⟨zb, 0, none⟩ (.int .i64 n)).setCell ⟨zb, 1, none⟩ (.slice az ((n + 63) / 64) cz) = x := ⟨_, rfl⟩
    have HZF := Lib.hid (show At2 Wf zb (.int .i64 n) (.slice az ((n + 63) / 64) cz) by rw [← hWf]; exact at2_put HZ.out _ _)
    have HZR := Lib.hid (show IsBits Wf (.agg #[.int .i64 n, .slice az ((n + 63) / 64) cz]) R by rw [← hWf]; exact Hvz.out.set2 HZ.out _ _)
    replace HA := Lib.hid (show At2 Wf w.heap.size _ _ by rw [← hWf]; exact HA.out.ne (by have := HNE.out; omega) _ _)
    replace HB2 := Lib.hid (show At2 Wf (w.heap.size + 1) _ _ by rw [← hWf]; exact HB2.out.ne (by have := HNE.out; omega) _ _)
    have HRF := Lib.hid (show At2 Wf (w.heap.size + 1 + 1) (.int .i64 0) (.slice none 0 0) by rw [← hWf]; exact HR.out.ne (by have := HNE.out; omega) _ _)
    have HBF := Lib.hid (show Below w.heap.size w Wf by rw [← hWf]; exact below_setc HB.out (by have := HNE.out; omega) _ _)
    have cZ0 := HZ.out.2.1; have cZ1 := HZ.out.2.2.1; have zZ0 := HZ.out.2.2.2 0; have zZ1 := HZ.out.2.2.2 1; go_simp
    try rw [hWf]
    clear hWf cZ0 cZ1 zZ0 zZ1
    refine hK.out _ _ ⟨HA.out.2.1, HA.out.2.2.1, HB2.out.2.1, HB2.out.2.2.1⟩ (fun hHeld => ?_)
    clear hK K; apply tk 14
    refine wpAnyH_done (by kernel_rfl) ?_ _
    clear hHeld; have cF0 := HZF.out.2.1; have cF1 := HZF.out.2.2.1; have cR0 := HRF.out.2.1; have cR1 := HRF.out.2.2.1; have zR0 := HRF.out.2.2.2 0; have zR1 := HRF.out.2.2.2 1
    go_wp2
    have hq := at2_put HRF.out (.int .i64 n) (.slice az ((n + 63) / 64) cz)
    have q0 := hq.2.1
    have q1 := hq.2.2.1
    have HB5 := Lib.hid (below_setc HBF.out (show w.heap.size ≤ w.heap.size + 1 + 1 by omega) (.int .i64 n) (.slice az ((n + 63) / 64) cz))
    refine bodyPost_ret (v := .agg #[.int .i64 n, .slice az ((n + 63) / 64) cz]) (by simp [results, Tryz.results199, go_sem, q0, q1]) rfl ⟨_, rfl, HZR.out.set2 HRF.out _ _, HB5.out⟩
   exact AllReadyH.nil
  refine AllReadyH.cons (o := _) rfl (fun K hK => ?_) ?_
  ·clear hHeld; go_simp
   obtain ⟨W12, hWn, hB, hNB⟩ := ahd2 W11 (.int .i64 0) (.slice none 0 0) 63
   rw [hWn]; clear hWn
   obtain ⟨zb, hnm⟩ : ∃ x, W11.heap.size = x := ⟨_, rfl⟩
   rw [hnm] at hNB ⊢
   have HNE := Lib.hid (show w.heap.size + 1 + 1 < zb by rw [← hnm]; exact HR.out.1)
   replace HA := HA.go hB; replace HB2 := HB2.go hB; replace HR := HR.go hB; replace HB := cb hB HB; replace HX := HX.go hB; replace HY := HY.go hB; have HZ := Lib.hid hNB; clear hNB hB hnm
   refine hK.out _ _ ⟨HA.out.2.1, HA.out.2.2.1, HB2.out.2.1, HB2.out.2.2.1⟩ (fun hHeld => ?_)
   clear hK K
   apply rdy 4; intro K hK; clear hHeld; go_simp
   refine (respread_calls _ x n _ HX.out HLX.out HNL.out HXN.out.1).mono ?_
   rintro e W13 ⟨va, rfl, hva, hB⟩
   replace HA := HA.go hB; replace HB2 := HB2.go hB; replace HR := HR.go hB; replace HB := cb hB HB; replace HX := HX.go hB; replace HY := HY.go hB; replace HZ := HZ.go hB; have Hva := Lib.hid hva; clear hva; clear hB
   refine hK.out _ _ ⟨HA.out.2.1, HA.out.2.2.1, HB2.out.2.1, HB2.out.2.2.1⟩ (fun hHeld => ?_)
   clear hK K
   apply rdy 7; intro K hK; clear hHeld; go_simp
   refine (respread_calls _ y n _ HY.out HLY.out HNL.out HXN.out.2).mono ?_
   rintro e W14 ⟨vb, rfl, hvb, hB⟩
   replace HA := HA.go hB; replace HB2 := HB2.go hB; replace HR := HR.go hB; replace HB := cb hB HB; replace HX := HX.go hB; replace HY := HY.go hB; replace HZ := HZ.go hB; replace Hva := Hva.go hB; have Hvb := Lib.hid hvb; clear hvb; clear hB
   refine hK.out _ _ ⟨HA.out.2.1, HA.out.2.2.1, HB2.out.2.1, HB2.out.2.2.1⟩ (fun hHeld => ?_)
   clear hK K
   apply rdy 8; intro K hK; clear hHeld; go_simp
   refine (truth_yes (tabR f 4) (tabR_lt f) _ _ _ _ _ Hva.out Hvb.out (by simp) (by simpa using HNL.out)).mono ?_
   rintro e W15 ⟨vz, rfl, hvz, hB⟩
   replace HA := HA.go hB; replace HB2 := HB2.go hB; replace HR := HR.go hB; replace HB := cb hB HB; replace HX := HX.go hB; replace HY := HY.go hB; replace HZ := HZ.go hB; replace Hva := Hva.go hB; replace Hvb := Hvb.go hB
   rw [HZP.out] at hvz
   have Hvz := Lib.hid hvz
   obtain ⟨az, cz, rfl, hcz⟩ := hvz.opened
   rw [HRL.out] at Hvz ⊢
   clear hvz hcz; clear hB
   refine hK.out _ _ ⟨HA.out.2.1, HA.out.2.2.1, HB2.out.2.1, HB2.out.2.2.1⟩ (fun hHeld => ?_)
   clear hK K; apply tk 9; apply tk 10; apply tk 11
   apply rdy 13; intro K hK; clear hHeld
   obtain ⟨Wf, hWf⟩ : ∃ x, (W15.setCell ⟨zb, 0, none⟩ (.int .i64 n)).setCell ⟨zb, 1, none⟩ (.slice az ((n + 63) / 64) cz) = x := ⟨_, rfl⟩
   have HZF := Lib.hid (show At2 Wf zb (.int .i64 n) (.slice az ((n + 63) / 64) cz) by rw [← hWf]; exact at2_put HZ.out _ _)
   have HZR := Lib.hid (show IsBits Wf (.agg #[.int .i64 n, .slice az ((n + 63) / 64) cz]) R by rw [← hWf]; exact Hvz.out.set2 HZ.out _ _)
   replace HA := Lib.hid (show At2 Wf w.heap.size _ _ by rw [← hWf]; exact HA.out.ne (by have := HNE.out; omega) _ _)
   replace HB2 := Lib.hid (show At2 Wf (w.heap.size + 1) _ _ by rw [← hWf]; exact HB2.out.ne (by have := HNE.out; omega) _ _)
   have HRF := Lib.hid (show At2 Wf (w.heap.size + 1 + 1) (.int .i64 0) (.slice none 0 0) by rw [← hWf]; exact HR.out.ne (by have := HNE.out; omega) _ _)
   have HBF := Lib.hid (show Below w.heap.size w Wf by rw [← hWf]; exact below_setc HB.out (by have := HNE.out; omega) _ _)
   have cZ0 := HZ.out.2.1; have cZ1 := HZ.out.2.2.1; have zZ0 := HZ.out.2.2.2 0; have zZ1 := HZ.out.2.2.2 1; go_simp
   try rw [hWf]
   clear hWf cZ0 cZ1 zZ0 zZ1
   refine hK.out _ _ ⟨HA.out.2.1, HA.out.2.2.1, HB2.out.2.1, HB2.out.2.2.1⟩ (fun hHeld => ?_)
   clear hK K; apply tk 14
   refine wpAnyH_done (by kernel_rfl) ?_ _
   clear hHeld; have cF0 := HZF.out.2.1; have cF1 := HZF.out.2.2.1; have cR0 := HRF.out.2.1; have cR1 := HRF.out.2.2.1; have zR0 := HRF.out.2.2.2 0; have zR1 := HRF.out.2.2.2 1
   go_wp2
   have hq := at2_put HRF.out (.int .i64 n) (.slice az ((n + 63) / 64) cz)
   have q0 := hq.2.1
   have q1 := hq.2.2.1
   have HB5 := Lib.hid (below_setc HBF.out (show w.heap.size ≤ w.heap.size + 1 + 1 by omega) (.int .i64 n) (.slice az ((n + 63) / 64) cz))
   refine bodyPost_ret (v := .agg #[.int .i64 n, .slice az ((n + 63) / 64) cz]) (by simp [results, Tryz.results199, go_sem, q0, q1]) rfl ⟨_, rfl, HZR.out.set2 HRF.out _ _, HB5.out⟩
  exact AllReadyH.nil
 refine AllReadyH.cons (o := _) rfl (fun K hK => ?_) ?_
 ·clear hHeld; go_simp
  obtain ⟨W12, hWn, hB, hNB⟩ := ahd2 W11 (.int .i64 0) (.slice none 0 0) 63
  rw [hWn]; clear hWn
  obtain ⟨zb, hnm⟩ : ∃ x, W11.heap.size = x := ⟨_, rfl⟩
  rw [hnm] at hNB ⊢
  have HNE := Lib.hid (show w.heap.size + 1 + 1 < zb by rw [← hnm]; exact HR.out.1)
  replace HA := HA.go hB; replace HB2 := HB2.go hB; replace HR := HR.go hB; replace HB := cb hB HB; replace HX := HX.go hB; replace HY := HY.go hB; have HZ := Lib.hid hNB; clear hNB hB hnm
  refine hK.out _ _ ⟨HA.out.2.1, HA.out.2.2.1, HB2.out.2.1, HB2.out.2.2.1⟩ (fun hHeld => ?_)
  clear hK K
  apply rdy 1; intro K hK; clear hHeld; go_simp
  refine (retable_calls f _ HF.out).mono ?_
  rintro e w' ⟨rfl, rfl⟩
  refine hK.out _ _ ⟨HA.out.2.1, HA.out.2.2.1, HB2.out.2.1, HB2.out.2.2.1⟩ (fun hHeld => ?_)
  clear hK K
  apply rdy 4; intro K hK; clear hHeld; go_simp
  refine (respread_calls _ x n _ HX.out HLX.out HNL.out HXN.out.1).mono ?_
  rintro e W13 ⟨va, rfl, hva, hB⟩
  replace HA := HA.go hB; replace HB2 := HB2.go hB; replace HR := HR.go hB; replace HB := cb hB HB; replace HX := HX.go hB; replace HY := HY.go hB; replace HZ := HZ.go hB; have Hva := Lib.hid hva; clear hva; clear hB
  refine hK.out _ _ ⟨HA.out.2.1, HA.out.2.2.1, HB2.out.2.1, HB2.out.2.2.1⟩ (fun hHeld => ?_)
  clear hK K
  apply rdy 7; intro K hK; clear hHeld; go_simp
  refine (respread_calls _ y n _ HY.out HLY.out HNL.out HXN.out.2).mono ?_
  rintro e W14 ⟨vb, rfl, hvb, hB⟩
  replace HA := HA.go hB; replace HB2 := HB2.go hB; replace HR := HR.go hB; replace HB := cb hB HB; replace HX := HX.go hB; replace HY := HY.go hB; replace HZ := HZ.go hB; replace Hva := Hva.go hB; have Hvb := Lib.hid hvb; clear hvb; clear hB
  refine hK.out _ _ ⟨HA.out.2.1, HA.out.2.2.1, HB2.out.2.1, HB2.out.2.2.1⟩ (fun hHeld => ?_)
  clear hK K
  apply rdy 8; intro K hK; clear hHeld; go_simp
  refine (truth_yes (tabR f 4) (tabR_lt f) _ _ _ _ _ Hva.out Hvb.out (by simp) (by simpa using HNL.out)).mono ?_
  rintro e W15 ⟨vz, rfl, hvz, hB⟩
  replace HA := HA.go hB; replace HB2 := HB2.go hB; replace HR := HR.go hB; replace HB := cb hB HB; replace HX := HX.go hB; replace HY := HY.go hB; replace HZ := HZ.go hB; replace Hva := Hva.go hB; replace Hvb := Hvb.go hB
  rw [HZP.out] at hvz
  have Hvz := Lib.hid hvz
  obtain ⟨az, cz, rfl, hcz⟩ := hvz.opened
  rw [HRL.out] at Hvz ⊢
  clear hvz hcz; clear hB
  refine hK.out _ _ ⟨HA.out.2.1, HA.out.2.2.1, HB2.out.2.1, HB2.out.2.2.1⟩ (fun hHeld => ?_)
  clear hK K; apply tk 9; apply tk 10; apply tk 11
  apply rdy 13; intro K hK; clear hHeld
  obtain ⟨Wf, hWf⟩ : ∃ x, (W15.setCell ⟨zb, 0, none⟩ (.int .i64 n)).setCell ⟨zb, 1, none⟩ (.slice az ((n + 63) / 64) cz) = x := ⟨_, rfl⟩
  have HZF := Lib.hid (show At2 Wf zb (.int .i64 n) (.slice az ((n + 63) / 64) cz) by rw [← hWf]; exact at2_put HZ.out _ _)
  have HZR := Lib.hid (show IsBits Wf (.agg #[.int .i64 n, .slice az ((n + 63) / 64) cz]) R by rw [← hWf]; exact Hvz.out.set2 HZ.out _ _)
  replace HA := Lib.hid (show At2 Wf w.heap.size _ _ by rw [← hWf]; exact HA.out.ne (by have := HNE.out; omega) _ _)
  replace HB2 := Lib.hid (show At2 Wf (w.heap.size + 1) _ _ by rw [← hWf]; exact HB2.out.ne (by have := HNE.out; omega) _ _)
  have HRF := Lib.hid (show At2 Wf (w.heap.size + 1 + 1) (.int .i64 0) (.slice none 0 0) by rw [← hWf]; exact HR.out.ne (by have := HNE.out; omega) _ _)
  have HBF := Lib.hid (show Below w.heap.size w Wf by rw [← hWf]; exact below_setc HB.out (by have := HNE.out; omega) _ _)
  have cZ0 := HZ.out.2.1; have cZ1 := HZ.out.2.2.1; have zZ0 := HZ.out.2.2.2 0; have zZ1 := HZ.out.2.2.2 1; go_simp
  try rw [hWf]
  clear hWf cZ0 cZ1 zZ0 zZ1
  refine hK.out _ _ ⟨HA.out.2.1, HA.out.2.2.1, HB2.out.2.1, HB2.out.2.2.1⟩ (fun hHeld => ?_)
  clear hK K; apply tk 14
  refine wpAnyH_done (by kernel_rfl) ?_ _
  clear hHeld; have cF0 := HZF.out.2.1; have cF1 := HZF.out.2.2.1; have cR0 := HRF.out.2.1; have cR1 := HRF.out.2.2.1; have zR0 := HRF.out.2.2.2 0; have zR1 := HRF.out.2.2.2 1
  go_wp2
  have hq := at2_put HRF.out (.int .i64 n) (.slice az ((n + 63) / 64) cz)
  have q0 := hq.2.1
  have q1 := hq.2.2.1
  have HB5 := Lib.hid (below_setc HBF.out (show w.heap.size ≤ w.heap.size + 1 + 1 by omega) (.int .i64 n) (.slice az ((n + 63) / 64) cz))
  refine bodyPost_ret (v := .agg #[.int .i64 n, .slice az ((n + 63) / 64) cz]) (by simp [results, Tryz.results199, go_sem, q0, q1]) rfl ⟨_, rfl, HZR.out.set2 HRF.out _ _, HB5.out⟩
 exact AllReadyH.nil
end Go.Proofs.YtbacchbcanlciaaGreatDoor

namespace Go.Proofs.YtbacchbcanlciaaGreatDoor
set_option maxRecDepth 100000
open Go.RowKit Fl
set_option linter.unusedVariables false

set_option maxHeartbeats 8000000 in
theorem related_calls {okA okB : Nat → Prop} (f : Int) (uA uB : Value) (A B : VV) (n : Nat) (w : World) (hf : 11 ≤ f ∧ f ≤ 16) (hA : IsV w okA uA A) (hB' : IsV w okB uB B) (oA : A.ok) (oB : B.ok) (nA : A.nm) (nB : B.nm) (cA : A.cls ≠ 2) (cB : B.cls ≠ 2) (hT : TabAt w) (hg : goesA A.len B.len) (hn : n = lenN A.len B.len) :
  Calls Tryz.prog 159 #[.int .i64 f, .agg #[uA], .agg #[uB], .int .i64 (n : Int)] w fun e w' => ∃ v, e = .returned v ∧ IsBits w' v (relL f A B n) ∧ Below w.heap.size w w' := by
 have hsa := hA.store
 have hsb := hB'.store
 obtain ⟨R, hR⟩ : ∃ R, R = relL f A B n := ⟨_, rfl⟩
 have HRL := Lib.hid (show R.length = n by rw [hR, relL_len])
 have HRR := Lib.hid hR
 rw [← hR]
 obtain ⟨W1, hW1⟩ : ∃ W1, W1 = ((w.alloc (.cells #[uA] 25)).alloc (.cells #[uB] 25)).alloc (.cells #[.int .i64 0, .slice none 0 0] 63) := ⟨_, rfl⟩
 have HB := Lib.hid (show Below w.heap.size w W1 by rw [hW1]; exact ((below_new _ _).alloc (by simp) _).alloc (by simp; omega) _)
 have HA := Lib.hid (show At1 W1 w.heap.size uA by rw [hW1]; exact ((At1.new w _ _).below (below_new _ _)).below ((below_new _ _).mono (by simp)))
 have HB2 := Lib.hid (show At1 W1 (w.heap.size + 1) uB by rw [hW1]; have := (At1.new (w.alloc (.cells #[uA] 25)) uB 25).below (below_new _ (.cells #[.int .i64 0, .slice none 0 0] 63)); simpa using this)
 have HR := Lib.hid (show At2 W1 (w.heap.size + 1 + 1) (.int .i64 0) (.slice none 0 0) by rw [hW1]; have := At2.new ((w.alloc (.cells #[uA] 25)).alloc (.cells #[uB] 25)) (.int .i64 0) (.slice none 0 0) 63; simpa using this)
 have HU := Lib.hid (show IsV W1 okA uA A from hA.grow HB.out)
 have HU2 := Lib.hid (show IsV W1 okB uB B from hB'.grow HB.out)
 have HT := Lib.hid (show TabAt W1 from fun j hj => keep_below HB.out _ _ (hT j hj))
 have HOA := Lib.hid oA; have HOB := Lib.hid oB; have HNA := Lib.hid nA; have HNB := Lib.hid nB; have HCA := Lib.hid cA; have HCB := Lib.hid cB; have HF := Lib.hid hf; have HG := Lib.hid hg; have HN := Lib.hid hn
 have HNL := Lib.hid (show n ≤ 1048576 by rw [hn]; exact lenN_le (VV.ok_len oA) (VV.ok_len oB))
 have hfold := hW1.symm
 clear hA hB' hT oA oB nA nB cA cB hW1 hR hf hg hn
 go_enter Tryz.func159, Tryz.ntmps159
 go_wp2_with fail
 clear hfold
 by_cases hc : A.cls = B.cls
 rotate_left
 ·have hcc : (A.cls != B.cls) = true := by simpa using hc
  have HCC := Lib.hid hc; clear hc
  obtain ⟨W11, hWD, hB⟩ := drwn W1
  replace HA := HA.go hB; replace HB2 := HB2.go hB; replace HR := HR.go hB; replace HB := cb hB HB; replace HU := HU.go hB; replace HU2 := HU2.go hB; replace HT := HT.go hB; clear hB
  refine rgn (S := fun w' => w'.cell? ⟨w.heap.size, 0, none⟩ = some uA ∧ w'.cell? ⟨w.heap.size + 1, 0, none⟩ = some uB) hWD ⟨HA.out.2.1, HB2.out.2.1⟩ (fun hHeld => ?_)
  clear hWD; apply tk 0; apply tk 2
  apply rdy 1; intro K hK; clear hHeld; go_simp
  refine (class_calls _ A _ HU.out).mono ?_
  rintro e W12 ⟨rfl, hB⟩
  replace HA := HA.go hB; replace HB2 := HB2.go hB; replace HR := HR.go hB; replace HB := cb hB HB; replace HU := HU.go hB; replace HU2 := HU2.go hB; replace HT := HT.go hB; clear hB
  refine hK.out _ _ ⟨HA.out.2.1, HB2.out.2.1⟩ (fun hHeld => ?_)
  clear hK K
  apply rdy 3; intro K hK; clear hHeld; go_simp
  refine (class_calls _ B _ HU2.out).mono ?_
  rintro e W13 ⟨rfl, hB⟩
  replace HA := HA.go hB; replace HB2 := HB2.go hB; replace HR := HR.go hB; replace HB := cb hB HB; replace HU := HU.go hB; replace HU2 := HU2.go hB; replace HT := HT.go hB; clear hB
  refine hK.out _ _ ⟨HA.out.2.1, HB2.out.2.1⟩ (fun hHeld => ?_)
  clear hK K; apply tk 4
  refine wpAnyH_done (by kernel_rfl) ?_ _
  clear hHeld; have cHA0 := HA.out.2.1; have cHB20 := HB2.out.2.1; have cHR0 := HR.out.2.1; have cHR1 := HR.out.2.2.1
  go_wp2_with fail
  have HM := Lib.hid (show min (max (n : Int) 0) 1048576 = n by have := HNL.out; omega)
  refine (make_calls _ _ n HM.out _).mono ?_
  rintro e W14 ⟨vm, rfl, hvm, hB⟩
  clear cHA0 cHB20 cHR0 cHR1; replace HA := HA.go hB; replace HB2 := HB2.go hB; replace HR := HR.go hB; replace HB := cb hB HB; replace HU := HU.go hB; replace HU2 := HU2.go hB; replace HT := HT.go hB
  rw [relL_apart f n HCC.out, ← HRR.out] at hvm
  have Hvm := Lib.hid hvm
  obtain ⟨am, cam, rfl, hcam⟩ := hvm.opened
  rw [HRL.out] at Hvm ⊢
  clear hvm hcam; clear hB; have zR0 := HR.out.2.2.2 0; have zR1 := HR.out.2.2.2 1; have cHA0 := HA.out.2.1; have cHB20 := HB2.out.2.1; have cHR0 := HR.out.2.1; have cHR1 := HR.out.2.2.1
  go_wp2_with fail
  have hq := at2_put HR.out (.int .i64 n) (.slice am ((n + 63) / 64) cam)
  have q0 := hq.2.1
  have q1 := hq.2.2.1
  have HB5 := Lib.hid (below_setc HB.out (show w.heap.size ≤ w.heap.size + 1 + 1 by omega) (.int .i64 n) (.slice am ((n + 63) / 64) cam))
  refine bodyPost_ret (v := .agg #[.int .i64 n, .slice am ((n + 63) / 64) cam]) (by simp [results, Tryz.results159, go_sem, q0, q1]) rfl ⟨_, rfl, Hvm.out.set2 HR.out _ _, HB5.out⟩
 have hcc : (A.cls != B.cls) = false := by simpa using hc
 have HCC := Lib.hid hc; clear hc
 obtain ⟨W11, hWD, hB⟩ := drwn W1
 replace HA := HA.go hB; replace HB2 := HB2.go hB; replace HR := HR.go hB; replace HB := cb hB HB; replace HU := HU.go hB; replace HU2 := HU2.go hB; replace HT := HT.go hB; clear hB
 refine rgn (S := fun w' => w'.cell? ⟨w.heap.size, 0, none⟩ = some uA ∧ w'.cell? ⟨w.heap.size + 1, 0, none⟩ = some uB) hWD ⟨HA.out.2.1, HB2.out.2.1⟩ (fun hHeld => ?_)
 clear hWD; apply tk 0; apply tk 2
 apply rdy 1; intro K hK; clear hHeld; go_simp
 refine (class_calls _ A _ HU.out).mono ?_
 rintro e W12 ⟨rfl, hB⟩
 replace HA := HA.go hB; replace HB2 := HB2.go hB; replace HR := HR.go hB; replace HB := cb hB HB; replace HU := HU.go hB; replace HU2 := HU2.go hB; replace HT := HT.go hB; clear hB
 refine hK.out _ _ ⟨HA.out.2.1, HB2.out.2.1⟩ (fun hHeld => ?_)
 clear hK K
 apply rdy 3; intro K hK; clear hHeld; go_simp
 refine (class_calls _ B _ HU2.out).mono ?_
 rintro e W13 ⟨rfl, hB⟩
 replace HA := HA.go hB; replace HB2 := HB2.go hB; replace HR := HR.go hB; replace HB := cb hB HB; replace HU := HU.go hB; replace HU2 := HU2.go hB; replace HT := HT.go hB; clear hB
 refine hK.out _ _ ⟨HA.out.2.1, HB2.out.2.1⟩ (fun hHeld => ?_)
 clear hK K; apply tk 4
 refine wpAnyH_done (by kernel_rfl) ?_ _
 clear hHeld; have cHA0 := HA.out.2.1; have cHB20 := HB2.out.2.1; have cHR0 := HR.out.2.1; have cHR1 := HR.out.2.2.1
 go_wp2_with fail
 by_cases h1 : A.cls = 1
 ·have hc1 : (A.cls == 1) = true := by simpa using h1
  have HC1 := Lib.hid h1
  have HC2 := Lib.hid (show B.cls = 1 by rw [← HCC.out]; exact h1)
  have HLA := Lib.hid (show A.text.length ≤ 1048576 by rw [VV.text_len1 h1]; exact VV.ok_len HOA.out)
  have HLB := Lib.hid (show B.text.length ≤ 1048576 by rw [VV.text_len1 HC2.out]; exact VV.ok_len HOB.out)
  have HG2 := Lib.hid (show goesA A.text.length B.text.length by rw [VV.text_len1 h1, VV.text_len1 HC2.out]; exact HG.out)
  have HN2 := Lib.hid (show n = lenN A.text.length B.text.length by rw [VV.text_len1 h1, VV.text_len1 HC2.out]; exact HN.out)
  clear h1
  refine (class_calls _ A _ HU.out).mono ?_
  rintro e W14 ⟨rfl, hB⟩
  clear cHA0 cHB20 cHR0 cHR1; replace HA := HA.go hB; replace HB2 := HB2.go hB; replace HR := HR.go hB; replace HB := cb hB HB; replace HU := HU.go hB; replace HU2 := HU2.go hB; replace HT := HT.go hB; clear hB; have cHA0 := HA.out.2.1; have cHB20 := HB2.out.2.1; have cHR0 := HR.out.2.1; have cHR1 := HR.out.2.2.1
  go_wp2_with fail
  clear cHA0 cHB20 cHR0 cHR1
  obtain ⟨W15, hWD, hB⟩ := drwn W14
  replace HA := HA.go hB; replace HB2 := HB2.go hB; replace HR := HR.go hB; replace HB := cb hB HB; replace HU := HU.go hB; replace HU2 := HU2.go hB; replace HT := HT.go hB; clear hB
  refine rgn (S := fun w' => w'.cell? ⟨w.heap.size, 0, none⟩ = some uA ∧ w'.cell? ⟨w.heap.size + 1, 0, none⟩ = some uB) hWD ⟨HA.out.2.1, HB2.out.2.1⟩ (fun hHeld => ?_)
  clear hWD; apply tk 0; apply tk 1; apply tk 3; apply tk 5
  apply rdy 2; intro K hK; clear hHeld; go_simp
  refine (vtext_calls _ A _ HU.out HOA.out).mono ?_
  rintro e W16 ⟨va, rfl, hva, hB⟩
  replace HA := HA.go hB; replace HB2 := HB2.go hB; replace HR := HR.go hB; replace HB := cb hB HB; replace HU := HU.go hB; replace HU2 := HU2.go hB; replace HT := HT.go hB; have Hva := Lib.hid hva; clear hva; clear hB
  refine hK.out _ _ ⟨HA.out.2.1, HB2.out.2.1⟩ (fun hHeld => ?_)
  clear hK K
  apply rdy 4; intro K hK; clear hHeld; go_simp
  refine (vtext_calls _ B _ HU2.out HOB.out).mono ?_
  rintro e W17 ⟨vb, rfl, hvb, hB⟩
  replace HA := HA.go hB; replace HB2 := HB2.go hB; replace HR := HR.go hB; replace HB := cb hB HB; replace HU := HU.go hB; replace HU2 := HU2.go hB; replace HT := HT.go hB; replace Hva := Hva.go hB; have Hvb := Lib.hid hvb; clear hvb; clear hB
  refine hK.out _ _ ⟨HA.out.2.1, HB2.out.2.1⟩ (fun hHeld => ?_)
  clear hK K
  apply rdy 6; intro K hK; clear hHeld; go_simp
  refine (eachr_calls f _ _ A.text B.text n _ HF.out Hva.out Hvb.out HLA.out HLB.out HG2.out HN2.out).mono ?_
  rintro e W18 ⟨vm, rfl, hvm, hB⟩
  replace HA := HA.go hB; replace HB2 := HB2.go hB; replace HR := HR.go hB; replace HB := cb hB HB; replace HU := HU.go hB; replace HU2 := HU2.go hB; replace HT := HT.go hB; replace Hva := Hva.go hB; replace Hvb := Hvb.go hB
  rw [relL_text f n HC1.out HC2.out, ← HRR.out] at hvm
  have Hvm := Lib.hid hvm
  obtain ⟨am, cam, rfl, hcam⟩ := hvm.opened
  rw [HRL.out] at Hvm ⊢
  clear hvm hcam; clear hB
  refine hK.out _ _ ⟨HA.out.2.1, HB2.out.2.1⟩ (fun hHeld => ?_)
  clear hK K
  apply rdy 7; intro K hK; clear hHeld
  obtain ⟨Wf, hWf⟩ : ∃ x, (W18.setCell ⟨w.heap.size + 1 + 1, 0, none⟩ (.int .i64 n)).setCell ⟨w.heap.size + 1 + 1, 1, none⟩ (.slice am ((n + 63) / 64) cam) = x := ⟨_, rfl⟩
  have HRF := Lib.hid (show At2 Wf (w.heap.size + 1 + 1) (.int .i64 n) (.slice am ((n + 63) / 64) cam) by rw [← hWf]; exact at2_put HR.out _ _)
  have HZR := Lib.hid (show IsBits Wf (.agg #[.int .i64 n, .slice am ((n + 63) / 64) cam]) R by rw [← hWf]; exact Hvm.out.set2 HR.out _ _)
  replace HA := Lib.hid (show At1 Wf w.heap.size _ by rw [← hWf]; exact (HA.out.grown (grown_setCell _ ⟨w.heap.size + 1 + 1, 0, none⟩ _) (by simp <;> omega)).grown (grown_setCell _ ⟨w.heap.size + 1 + 1, 1, none⟩ _) (by simp <;> omega))
  replace HB2 := Lib.hid (show At1 Wf (w.heap.size + 1) _ by rw [← hWf]; exact (HB2.out.grown (grown_setCell _ ⟨w.heap.size + 1 + 1, 0, none⟩ _) (by simp <;> omega)).grown (grown_setCell _ ⟨w.heap.size + 1 + 1, 1, none⟩ _) (by simp <;> omega))
  have HBF := Lib.hid (show Below w.heap.size w Wf by rw [← hWf]; exact below_setc HB.out (by omega) _ _)
  have cZ0 := HR.out.2.1; have cZ1 := HR.out.2.2.1; have zZ0 := HR.out.2.2.2 0; have zZ1 := HR.out.2.2.2 1; go_simp
  try rw [hWf]
  clear hWf cZ0 cZ1 zZ0 zZ1
  refine hK.out _ _ ⟨HA.out.2.1, HB2.out.2.1⟩ (fun hHeld => ?_)
  clear hK K
  refine wpAnyH_done (by kernel_rfl) ?_ _
  clear hHeld; have q0 := HRF.out.2.1; have q1 := HRF.out.2.2.1
  go_wp2
  refine bodyPost_ret (v := .agg #[.int .i64 n, .slice am ((n + 63) / 64) cam]) (by simp [results, Tryz.results159, go_sem, q0, q1]) rfl ⟨_, rfl, HZR.out, HBF.out⟩
 ·have hc1 : (A.cls == 1) = false := by simpa using h1
  have HC0 := Lib.hid (show A.cls = 0 by have := VV.cls3 A; have := HCA.out; omega)
  have HC2 := Lib.hid (show B.cls = 0 by rw [← HCC.out]; exact HC0.out)
  clear h1
  refine (class_calls _ A _ HU.out).mono ?_
  rintro e W14 ⟨rfl, hB⟩
  clear cHA0 cHB20 cHR0 cHR1; replace HA := HA.go hB; replace HB2 := HB2.go hB; replace HR := HR.go hB; replace HB := cb hB HB; replace HU := HU.go hB; replace HU2 := HU2.go hB; replace HT := HT.go hB; clear hB; have cHA0 := HA.out.2.1; have cHB20 := HB2.out.2.1; have cHR0 := HR.out.2.1; have cHR1 := HR.out.2.2.1
  go_wp2_with fail
  by_cases ha : A.isBit = true
  ·have HIx := Lib.hid ha; clear ha
   by_cases hb : B.isBit = true
   ·have HIy := Lib.hid hb; clear hb
    refine (vpacked_calls _ A _ HU.out).mono ?_
    rintro e W15 ⟨vx, rfl, hvx, hB⟩
    clear cHA0 cHB20 cHR0 cHR1; replace HA := HA.go hB; replace HB2 := HB2.go hB; replace HR := HR.go hB; replace HB := cb hB HB; replace HU := HU.go hB; replace HU2 := HU2.go hB; replace HT := HT.go hB; rw [HIx.out]; have Hvx := Lib.hid hvx
    obtain ⟨ax, cx, rfl, hcx⟩ := hvx.opened
    clear hvx hcx; clear hB
    obtain ⟨W16, hWn, hB, hNB⟩ := ahd2 W15 (.int .i64 A.packed.length) (.slice ax ((A.packed.length + 63) / 64) cx) 63
    replace HA := HA.go hB; replace HB2 := HB2.go hB; replace HR := HR.go hB; replace HB := cb hB HB; replace HU := HU.go hB; replace HU2 := HU2.go hB; replace HT := HT.go hB; replace Hvx := Hvx.go hB; have Hx := Lib.hid hNB; clear hNB hB; have cHA0 := HA.out.2.1; have cHB20 := HB2.out.2.1; have cHR0 := HR.out.2.1; have cHR1 := HR.out.2.2.1; have cHx0 := Hx.out.2.1; have cHx1 := Hx.out.2.2.1
    go_wp2_with fail
    clear hWn
    refine (vpacked_calls _ B _ HU2.out).mono ?_
    rintro e W17 ⟨vy, rfl, hvy, hB⟩
    clear cHA0 cHB20 cHR0 cHR1 cHx0 cHx1; replace HA := HA.go hB; replace HB2 := HB2.go hB; replace HR := HR.go hB; replace HB := cb hB HB; replace HU := HU.go hB; replace HU2 := HU2.go hB; replace HT := HT.go hB; replace Hvx := Hvx.go hB; replace Hx := Hx.go hB; rw [HIy.out]; have Hvy := Lib.hid hvy
    obtain ⟨ay, cy, rfl, hcy⟩ := hvy.opened
    clear hvy hcy; clear hB
    obtain ⟨W18, hWn, hB, hNB⟩ := ahd2 W17 (.int .i64 B.packed.length) (.slice ay ((B.packed.length + 63) / 64) cy) 63
    replace HA := HA.go hB; replace HB2 := HB2.go hB; replace HR := HR.go hB; replace HB := cb hB HB; replace HU := HU.go hB; replace HU2 := HU2.go hB; replace HT := HT.go hB; replace Hvx := Hvx.go hB; replace Hx := Hx.go hB; replace Hvy := Hvy.go hB; have Hy := Lib.hid hNB; clear hNB hB; have cHA0 := HA.out.2.1; have cHB20 := HB2.out.2.1; have cHR0 := HR.out.2.1; have cHR1 := HR.out.2.2.1; have cHx0 := Hx.out.2.1
    have cHx1 := Hx.out.2.2.1; have cHy0 := Hy.out.2.1; have cHy1 := Hy.out.2.2.1
    go_wp2_with fail
    clear hWn
    have PA := Lib.hid (VV.bit_nums HIx.out)
    have PB := Lib.hid (VV.bit_nums HIy.out)
    refine (offlags_calls f _ _ A.packed B.packed n _ HF.out Hvx.out Hvy.out (by rw [PA.out.2.1]; exact VV.ok_len HOA.out) (by rw [PB.out.2.1]; exact VV.ok_len HOB.out) (by rw [PA.out.2.1, PB.out.2.1]; exact HG.out) (by rw [PA.out.2.1, PB.out.2.1]; exact HN.out)).mono ?_
    rintro e W19 ⟨vm, rfl, hvm, hB⟩
    clear cHA0 cHB20 cHR0 cHR1 cHx0 cHx1 cHy0 cHy1; replace HA := HA.go hB; replace HB2 := HB2.go hB; replace HR := HR.go hB; replace HB := cb hB HB; replace HU := HU.go hB; replace HU2 := HU2.go hB; replace HT := HT.go hB; replace Hvx := Hvx.go hB; replace Hx := Hx.go hB; replace Hvy := Hvy.go hB; replace Hy := Hy.go hB
    rw [relL_bits f n HIx.out HIy.out, ← HRR.out] at hvm
    have Hvm := Lib.hid hvm
    obtain ⟨am, cam, rfl, hcam⟩ := hvm.opened
    rw [HRL.out] at Hvm ⊢
    clear hvm hcam; clear hB; have zR0 := HR.out.2.2.2 0; have zR1 := HR.out.2.2.2 1; have cHA0 := HA.out.2.1; have cHB20 := HB2.out.2.1; have cHR0 := HR.out.2.1; have cHR1 := HR.out.2.2.1; have cHx0 := Hx.out.2.1; have cHx1 := Hx.out.2.2.1; have cHy0 := Hy.out.2.1; have cHy1 := Hy.out.2.2.1
    go_wp2_with fail
    have hq := at2_put HR.out (.int .i64 n) (.slice am ((n + 63) / 64) cam)
    have q0 := hq.2.1
    have q1 := hq.2.2.1
    have HB5 := Lib.hid (below_setc HB.out (show w.heap.size ≤ w.heap.size + 1 + 1 by omega) (.int .i64 n) (.slice am ((n + 63) / 64) cam))
    refine bodyPost_ret (v := .agg #[.int .i64 n, .slice am ((n + 63) / 64) cam]) (by simp [results, Tryz.results159, go_sem, q0, q1]) rfl ⟨_, rfl, Hvm.out.set2 HR.out _ _, HB5.out⟩
   ·have HIy := Lib.hid (show B.isBit = false by simpa using hb)
    clear hb
    refine (vpacked_calls _ A _ HU.out).mono ?_
    rintro e W15 ⟨vx, rfl, hvx, hB⟩
    clear cHA0 cHB20 cHR0 cHR1; replace HA := HA.go hB; replace HB2 := HB2.go hB; replace HR := HR.go hB; replace HB := cb hB HB; replace HU := HU.go hB; replace HU2 := HU2.go hB; replace HT := HT.go hB; rw [HIx.out]; have Hvx := Lib.hid hvx
    obtain ⟨ax, cx, rfl, hcx⟩ := hvx.opened
    clear hvx hcx; clear hB
    obtain ⟨W16, hWn, hB, hNB⟩ := ahd2 W15 (.int .i64 A.packed.length) (.slice ax ((A.packed.length + 63) / 64) cx) 63
    replace HA := HA.go hB; replace HB2 := HB2.go hB; replace HR := HR.go hB; replace HB := cb hB HB; replace HU := HU.go hB; replace HU2 := HU2.go hB; replace HT := HT.go hB; replace Hvx := Hvx.go hB; have Hx := Lib.hid hNB; clear hNB hB; have cHA0 := HA.out.2.1; have cHB20 := HB2.out.2.1; have cHR0 := HR.out.2.1; have cHR1 := HR.out.2.2.1; have cHx0 := Hx.out.2.1; have cHx1 := Hx.out.2.2.1
    go_wp2_with fail
    clear hWn
    refine (vpacked_calls _ B _ HU2.out).mono ?_
    rintro e W17 ⟨vy, rfl, hvy, hB⟩
    clear cHA0 cHB20 cHR0 cHR1 cHx0 cHx1; replace HA := HA.go hB; replace HB2 := HB2.go hB; replace HR := HR.go hB; replace HB := cb hB HB; replace HU := HU.go hB; replace HU2 := HU2.go hB; replace HT := HT.go hB; replace Hvx := Hvx.go hB; replace Hx := Hx.go hB; rw [HIy.out]; have Hvy := Lib.hid hvy
    obtain ⟨ay, cy, rfl, hcy⟩ := hvy.opened
    clear hvy hcy; clear hB
    obtain ⟨W18, hWn, hB, hNB⟩ := ahd2 W17 (.int .i64 B.packed.length) (.slice ay ((B.packed.length + 63) / 64) cy) 63
    replace HA := HA.go hB; replace HB2 := HB2.go hB; replace HR := HR.go hB; replace HB := cb hB HB; replace HU := HU.go hB; replace HU2 := HU2.go hB; replace HT := HT.go hB; replace Hvx := Hvx.go hB; replace Hx := Hx.go hB; replace Hvy := Hvy.go hB; have Hy := Lib.hid hNB; clear hNB hB; have cHA0 := HA.out.2.1; have cHB20 := HB2.out.2.1; have cHR0 := HR.out.2.1; have cHR1 := HR.out.2.2.1; have cHx0 := Hx.out.2.1
    have cHx1 := Hx.out.2.2.1; have cHy0 := Hy.out.2.1; have cHy1 := Hy.out.2.2.1
    go_wp2_with fail
    clear hWn
    have HLA := Lib.hid (show A.nums.length ≤ 1048576 by rw [VV.nums_len0 HC0.out]; exact VV.ok_len HOA.out)
    have HLB := Lib.hid (show B.nums.length ≤ 1048576 by rw [VV.nums_len0 HC2.out]; exact VV.ok_len HOB.out)
    have HG2 := Lib.hid (show goesA A.nums.length B.nums.length by rw [VV.nums_len0 HC0.out, VV.nums_len0 HC2.out]; exact HG.out)
    have HN2 := Lib.hid (show n = lenN A.nums.length B.nums.length by rw [VV.nums_len0 HC0.out, VV.nums_len0 HC2.out]; exact HN.out)
    have HVA := Lib.hid (VV.nums_num HOA.out HNA.out)
    have HVB := Lib.hid (VV.nums_num HOB.out HNB.out)
    clear cHA0 cHB20 cHR0 cHR1 cHx0 cHx1 cHy0 cHy1
    obtain ⟨W19, hWD, hB⟩ := drwn W18
    replace HA := HA.go hB; replace HB2 := HB2.go hB; replace HR := HR.go hB; replace HB := cb hB HB; replace HU := HU.go hB; replace HU2 := HU2.go hB; replace HT := HT.go hB; clear hB
    refine rgn (S := fun w' => w'.cell? ⟨w.heap.size, 0, none⟩ = some uA ∧ w'.cell? ⟨w.heap.size + 1, 0, none⟩ = some uB) hWD ⟨HA.out.2.1, HB2.out.2.1⟩ (fun hHeld => ?_)
    clear hWD; apply tk 0; apply tk 1; apply tk 3; apply tk 5
    apply rdy 2; intro K hK; clear hHeld; go_simp
    refine (vnums_calls _ A _ HU.out HOA.out HT.out).mono ?_
    rintro e W20 ⟨va, rfl, hva, hB⟩
    replace HA := HA.go hB; replace HB2 := HB2.go hB; replace HR := HR.go hB; replace HB := cb hB HB; replace HU := HU.go hB; replace HU2 := HU2.go hB; replace HT := HT.go hB; have Hva := Lib.hid hva; clear hva; clear hB
    refine hK.out _ _ ⟨HA.out.2.1, HB2.out.2.1⟩ (fun hHeld => ?_)
    clear hK K
    apply rdy 4; intro K hK; clear hHeld; go_simp
    refine (vnums_calls _ B _ HU2.out HOB.out HT.out).mono ?_
    rintro e W21 ⟨vb, rfl, hvb, hB⟩
    replace HA := HA.go hB; replace HB2 := HB2.go hB; replace HR := HR.go hB; replace HB := cb hB HB; replace HU := HU.go hB; replace HU2 := HU2.go hB; replace HT := HT.go hB; replace Hva := Hva.go hB; have Hvb := Lib.hid hvb; clear hvb; clear hB
    refine hK.out _ _ ⟨HA.out.2.1, HB2.out.2.1⟩ (fun hHeld => ?_)
    clear hK K
    apply rdy 6; intro K hK; clear hHeld; go_simp
    refine (eachf_calls f _ _ A.nums B.nums n _ HF.out Hva.out Hvb.out HLA.out HLB.out HVA.out HVB.out HG2.out HN2.out).mono ?_
    rintro e W22 ⟨vm, rfl, hvm, hB⟩
    replace HA := HA.go hB; replace HB2 := HB2.go hB; replace HR := HR.go hB; replace HB := cb hB HB; replace HU := HU.go hB; replace HU2 := HU2.go hB; replace HT := HT.go hB; replace Hva := Hva.go hB; replace Hvb := Hvb.go hB
    rw [relL_nums f n HC0.out HC2.out, ← HRR.out] at hvm
    have Hvm := Lib.hid hvm
    obtain ⟨am, cam, rfl, hcam⟩ := hvm.opened
    rw [HRL.out] at Hvm ⊢
    clear hvm hcam; clear hB
    refine hK.out _ _ ⟨HA.out.2.1, HB2.out.2.1⟩ (fun hHeld => ?_)
    clear hK K
    apply rdy 7; intro K hK; clear hHeld
    obtain ⟨Wf, hWf⟩ : ∃ x, (W22.setCell ⟨w.heap.size + 1 + 1, 0, none⟩ (.int .i64 n)).setCell ⟨w.heap.size + 1 + 1, 1, none⟩ (.slice am ((n + 63) / 64) cam) = x := ⟨_, rfl⟩
    have HRF := Lib.hid (show At2 Wf (w.heap.size + 1 + 1) (.int .i64 n) (.slice am ((n + 63) / 64) cam) by rw [← hWf]; exact at2_put HR.out _ _)
    have HZR := Lib.hid (show IsBits Wf (.agg #[.int .i64 n, .slice am ((n + 63) / 64) cam]) R by rw [← hWf]; exact Hvm.out.set2 HR.out _ _)
    replace HA := Lib.hid (show At1 Wf w.heap.size _ by rw [← hWf]; exact (HA.out.grown (grown_setCell _ ⟨w.heap.size + 1 + 1, 0, none⟩ _) (by simp <;> omega)).grown (grown_setCell _ ⟨w.heap.size + 1 + 1, 1, none⟩ _) (by simp <;> omega))
    replace HB2 := Lib.hid (show At1 Wf (w.heap.size + 1) _ by rw [← hWf]; exact (HB2.out.grown (grown_setCell _ ⟨w.heap.size + 1 + 1, 0, none⟩ _) (by simp <;> omega)).grown (grown_setCell _ ⟨w.heap.size + 1 + 1, 1, none⟩ _) (by simp <;> omega))
    have HBF := Lib.hid (show Below w.heap.size w Wf by rw [← hWf]; exact below_setc HB.out (by omega) _ _)
    have cZ0 := HR.out.2.1; have cZ1 := HR.out.2.2.1; have zZ0 := HR.out.2.2.2 0; have zZ1 := HR.out.2.2.2 1; go_simp
    try rw [hWf]
    clear hWf cZ0 cZ1 zZ0 zZ1
    refine hK.out _ _ ⟨HA.out.2.1, HB2.out.2.1⟩ (fun hHeld => ?_)
    clear hK K
    refine wpAnyH_done (by kernel_rfl) ?_ _
    clear hHeld; have q0 := HRF.out.2.1; have q1 := HRF.out.2.2.1
    go_wp2
    refine bodyPost_ret (v := .agg #[.int .i64 n, .slice am ((n + 63) / 64) cam]) (by simp [results, Tryz.results159, go_sem, q0, q1]) rfl ⟨_, rfl, HZR.out, HBF.out⟩
  ·have HIx := Lib.hid (show A.isBit = false by simpa using ha)
   clear ha
   refine (vpacked_calls _ A _ HU.out).mono ?_
   rintro e W15 ⟨vx, rfl, hvx, hB⟩
   clear cHA0 cHB20 cHR0 cHR1; replace HA := HA.go hB; replace HB2 := HB2.go hB; replace HR := HR.go hB; replace HB := cb hB HB; replace HU := HU.go hB; replace HU2 := HU2.go hB; replace HT := HT.go hB; rw [HIx.out]; have Hvx := Lib.hid hvx
   obtain ⟨ax, cx, rfl, hcx⟩ := hvx.opened
   clear hvx hcx; clear hB
   obtain ⟨W16, hWn, hB, hNB⟩ := ahd2 W15 (.int .i64 A.packed.length) (.slice ax ((A.packed.length + 63) / 64) cx) 63
   replace HA := HA.go hB; replace HB2 := HB2.go hB; replace HR := HR.go hB; replace HB := cb hB HB; replace HU := HU.go hB; replace HU2 := HU2.go hB; replace HT := HT.go hB; replace Hvx := Hvx.go hB; have Hx := Lib.hid hNB; clear hNB hB; have cHA0 := HA.out.2.1; have cHB20 := HB2.out.2.1; have cHR0 := HR.out.2.1; have cHR1 := HR.out.2.2.1; have cHx0 := Hx.out.2.1; have cHx1 := Hx.out.2.2.1
   go_wp2_with fail
   clear hWn
   refine (vpacked_calls _ B _ HU2.out).mono ?_
   rintro e W17 ⟨vy, rfl, hvy, hB⟩
   clear cHA0 cHB20 cHR0 cHR1 cHx0 cHx1; replace HA := HA.go hB; replace HB2 := HB2.go hB; replace HR := HR.go hB; replace HB := cb hB HB; replace HU := HU.go hB; replace HU2 := HU2.go hB; replace HT := HT.go hB; replace Hvx := Hvx.go hB; replace Hx := Hx.go hB; have Hvy := Lib.hid hvy
   obtain ⟨ay, cy, rfl, hcy⟩ := hvy.opened
   clear hvy hcy; clear hB
   obtain ⟨W18, hWn, hB, hNB⟩ := ahd2 W17 (.int .i64 B.packed.length) (.slice ay ((B.packed.length + 63) / 64) cy) 63
   replace HA := HA.go hB; replace HB2 := HB2.go hB; replace HR := HR.go hB; replace HB := cb hB HB; replace HU := HU.go hB; replace HU2 := HU2.go hB; replace HT := HT.go hB; replace Hvx := Hvx.go hB; replace Hx := Hx.go hB; replace Hvy := Hvy.go hB; have Hy := Lib.hid hNB; clear hNB hB; have cHA0 := HA.out.2.1; have cHB20 := HB2.out.2.1; have cHR0 := HR.out.2.1; have cHR1 := HR.out.2.2.1; have cHx0 := Hx.out.2.1
   have cHx1 := Hx.out.2.2.1; have cHy0 := Hy.out.2.1; have cHy1 := Hy.out.2.2.1
   go_wp2_with fail
   clear hWn
   have HLA := Lib.hid (show A.nums.length ≤ 1048576 by rw [VV.nums_len0 HC0.out]; exact VV.ok_len HOA.out)
   have HLB := Lib.hid (show B.nums.length ≤ 1048576 by rw [VV.nums_len0 HC2.out]; exact VV.ok_len HOB.out)
   have HG2 := Lib.hid (show goesA A.nums.length B.nums.length by rw [VV.nums_len0 HC0.out, VV.nums_len0 HC2.out]; exact HG.out)
   have HN2 := Lib.hid (show n = lenN A.nums.length B.nums.length by rw [VV.nums_len0 HC0.out, VV.nums_len0 HC2.out]; exact HN.out)
   have HVA := Lib.hid (VV.nums_num HOA.out HNA.out)
   have HVB := Lib.hid (VV.nums_num HOB.out HNB.out)
   clear cHA0 cHB20 cHR0 cHR1 cHx0 cHx1 cHy0 cHy1
   obtain ⟨W19, hWD, hB⟩ := drwn W18
   replace HA := HA.go hB; replace HB2 := HB2.go hB; replace HR := HR.go hB; replace HB := cb hB HB; replace HU := HU.go hB; replace HU2 := HU2.go hB; replace HT := HT.go hB; clear hB
   refine rgn (S := fun w' => w'.cell? ⟨w.heap.size, 0, none⟩ = some uA ∧ w'.cell? ⟨w.heap.size + 1, 0, none⟩ = some uB) hWD ⟨HA.out.2.1, HB2.out.2.1⟩ (fun hHeld => ?_)
   clear hWD; apply tk 0; apply tk 1; apply tk 3; apply tk 5
   apply rdy 2; intro K hK; clear hHeld; go_simp
   refine (vnums_calls _ A _ HU.out HOA.out HT.out).mono ?_
   rintro e W20 ⟨va, rfl, hva, hB⟩
   replace HA := HA.go hB; replace HB2 := HB2.go hB; replace HR := HR.go hB; replace HB := cb hB HB; replace HU := HU.go hB; replace HU2 := HU2.go hB; replace HT := HT.go hB; have Hva := Lib.hid hva; clear hva; clear hB
   refine hK.out _ _ ⟨HA.out.2.1, HB2.out.2.1⟩ (fun hHeld => ?_)
   clear hK K
   apply rdy 4; intro K hK; clear hHeld; go_simp
   refine (vnums_calls _ B _ HU2.out HOB.out HT.out).mono ?_
   rintro e W21 ⟨vb, rfl, hvb, hB⟩
   replace HA := HA.go hB; replace HB2 := HB2.go hB; replace HR := HR.go hB; replace HB := cb hB HB; replace HU := HU.go hB; replace HU2 := HU2.go hB; replace HT := HT.go hB; replace Hva := Hva.go hB; have Hvb := Lib.hid hvb; clear hvb; clear hB
   refine hK.out _ _ ⟨HA.out.2.1, HB2.out.2.1⟩ (fun hHeld => ?_)
   clear hK K
   apply rdy 6; intro K hK; clear hHeld; go_simp
   refine (eachf_calls f _ _ A.nums B.nums n _ HF.out Hva.out Hvb.out HLA.out HLB.out HVA.out HVB.out HG2.out HN2.out).mono ?_
   rintro e W22 ⟨vm, rfl, hvm, hB⟩
   replace HA := HA.go hB; replace HB2 := HB2.go hB; replace HR := HR.go hB; replace HB := cb hB HB; replace HU := HU.go hB; replace HU2 := HU2.go hB; replace HT := HT.go hB; replace Hva := Hva.go hB; replace Hvb := Hvb.go hB
   rw [relL_nums f n HC0.out HC2.out, ← HRR.out] at hvm
   have Hvm := Lib.hid hvm
   obtain ⟨am, cam, rfl, hcam⟩ := hvm.opened
   rw [HRL.out] at Hvm ⊢
   clear hvm hcam; clear hB
   refine hK.out _ _ ⟨HA.out.2.1, HB2.out.2.1⟩ (fun hHeld => ?_)
   clear hK K
   apply rdy 7; intro K hK; clear hHeld
   obtain ⟨Wf, hWf⟩ : ∃ x, (W22.setCell ⟨w.heap.size + 1 + 1, 0, none⟩ (.int .i64 n)).setCell ⟨w.heap.size + 1 + 1, 1, none⟩ (.slice am ((n + 63) / 64) cam) = x := ⟨_, rfl⟩
   have HRF := Lib.hid (show At2 Wf (w.heap.size + 1 + 1) (.int .i64 n) (.slice am ((n + 63) / 64) cam) by rw [← hWf]; exact at2_put HR.out _ _)
   have HZR := Lib.hid (show IsBits Wf (.agg #[.int .i64 n, .slice am ((n + 63) / 64) cam]) R by rw [← hWf]; exact Hvm.out.set2 HR.out _ _)
   replace HA := Lib.hid (show At1 Wf w.heap.size _ by rw [← hWf]; exact (HA.out.grown (grown_setCell _ ⟨w.heap.size + 1 + 1, 0, none⟩ _) (by simp <;> omega)).grown (grown_setCell _ ⟨w.heap.size + 1 + 1, 1, none⟩ _) (by simp <;> omega))
   replace HB2 := Lib.hid (show At1 Wf (w.heap.size + 1) _ by rw [← hWf]; exact (HB2.out.grown (grown_setCell _ ⟨w.heap.size + 1 + 1, 0, none⟩ _) (by simp <;> omega)).grown (grown_setCell _ ⟨w.heap.size + 1 + 1, 1, none⟩ _) (by simp <;> omega))
   have HBF := Lib.hid (show Below w.heap.size w Wf by rw [← hWf]; exact below_setc HB.out (by omega) _ _)
   have cZ0 := HR.out.2.1; have cZ1 := HR.out.2.2.1; have zZ0 := HR.out.2.2.2 0; have zZ1 := HR.out.2.2.2 1; go_simp
   try rw [hWf]
   clear hWf cZ0 cZ1 zZ0 zZ1
   refine hK.out _ _ ⟨HA.out.2.1, HB2.out.2.1⟩ (fun hHeld => ?_)
   clear hK K
   refine wpAnyH_done (by kernel_rfl) ?_ _
   clear hHeld; have q0 := HRF.out.2.1; have q1 := HRF.out.2.2.1
   go_wp2
   refine bodyPost_ret (v := .agg #[.int .i64 n, .slice am ((n + 63) / 64) cam]) (by simp [results, Tryz.results159, go_sem, q0, q1]) rfl ⟨_, rfl, HZR.out, HBF.out⟩
end Go.Proofs.YtbacchbcanlciaaGreatDoor

namespace Go.Proofs.YtbacchbcanlciaaGreatDoor
set_option maxRecDepth 100000
open Go.RowKit Fl
set_option linter.unusedVariables false

theorem reE_1 {f : Int} {A B : VV} (h : ¬ (11 ≤ f ∧ f ≤ 16)) : reE f A B = 1 := if_neg h
theorem reE_23 {f : Int} {A B : VV} (h : 11 ≤ f ∧ f ≤ 16) (hg : ¬ goesA A.len B.len) : reE f A B = 23 := by unfold reE; rw [if_pos h, if_neg hg]
theorem reE_24 {f : Int} {A B : VV} (h : 11 ≤ f ∧ f ≤ 16) (hg : goesA A.len B.len) (hc : ¬ (alw f A.cls = true ∧ alw f B.cls = true)) : reE f A B = 24 := by unfold reE; rw [if_pos h, if_pos hg, if_neg hc]
theorem reE_0 {f : Int} {A B : VV} (h : 11 ≤ f ∧ f ≤ 16) (hg : goesA A.len B.len) (hc : alw f A.cls = true ∧ alw f B.cls = true) : reE f A B = 0 := by unfold reE; rw [if_pos h, if_pos hg, if_pos hc]
theorem alw_two {f : Int} {V : VV} (h : alw f V.cls = true) : V.cls ≠ 2 := by
 intro e
 rw [e] at h
 simp [alw] at h
theorem IsV.bits_set {w : World} {ok : Nat → Prop} {u : Value} {l : List Bool} (h : IsV w ok u (.bits l)) {p : Addr} {y : Value} (hp : w.cell? p = some y) (hy : IsIface y) (x : Value) : IsV (w.setCell p x) (fun _ => True) u (.bits l) := by
 cases h with
 | bits h hm =>
  refine IsV.wide (.bits (h.setn hp (fun z hz => ?_) x) hm) (fun _ _ _ => trivial)
  obtain ⟨n, _, rfl⟩ := List.mem_map.1 hz
  exact hy.ne_int _ _
set_option maxHeartbeats 8000000 in
theorem reapply_calls {okA okB : Nat → Prop} (f : Int) (uA uB : Value) (A B : VV) (w : World) (hA : IsV w okA uA A) (hB' : IsV w okB uB B) (oA : A.ok) (oB : B.ok) (nA : A.nm) (nB : B.nm) (hT : TabAt w) :
  Calls Tryz.prog 126 #[.int .i64 f, .agg #[uA], .agg #[uB]] w fun e w' => ∃ u, e = .returned (.tuple #[.agg #[u], .int .i64 (reE f A B)]) ∧ IsV w' (fun _ => True) u (reV f A B) ∧ Below w.heap.size w w' := by
 have hsa := hA.store
 have hsb := hB'.store
 obtain ⟨W1, hW1⟩ : ∃ W1, W1 = ((w.alloc (.cells #[uA] 25)).alloc (.cells #[uB] 25)).alloc (.cells #[.nilIface] 25) := ⟨_, rfl⟩
 have HB := Lib.hid (show Below w.heap.size w W1 by rw [hW1]; exact ((below_new _ _).alloc (by simp) _).alloc (by simp; omega) _)
 have HA := Lib.hid (show At1 W1 w.heap.size uA by rw [hW1]; exact ((At1.new w _ _).below (below_new _ _)).below ((below_new _ _).mono (by simp)))
 have HB2 := Lib.hid (show At1 W1 (w.heap.size + 1) uB by rw [hW1]; have := (At1.new (w.alloc (.cells #[uA] 25)) uB 25).below (below_new _ (.cells #[.nilIface] 25)); simpa using this)
 have HR := Lib.hid (show At1 W1 (w.heap.size + 1 + 1) .nilIface by rw [hW1]; have := At1.new ((w.alloc (.cells #[uA] 25)).alloc (.cells #[uB] 25)) .nilIface 25; simpa using this)
 have HU := Lib.hid (show IsV W1 okA uA A from hA.grow HB.out)
 have HU2 := Lib.hid (show IsV W1 okB uB B from hB'.grow HB.out)
 have HT := Lib.hid (show TabAt W1 from fun j hj => keep_below HB.out _ _ (hT j hj))
 have HOA := Lib.hid oA; have HOB := Lib.hid oB; have HNA := Lib.hid nA; have HNB := Lib.hid nB
 obtain ⟨R, hRR⟩ : ∃ R, R = reV f A B := ⟨_, rfl⟩
 obtain ⟨E, hEE⟩ : ∃ E, E = reE f A B := ⟨_, rfl⟩
 rw [← hRR, ← hEE]
 have HRR := Lib.hid hRR; have HEE := Lib.hid hEE
 have hfold := hW1.symm
 clear hA hB' hT oA oB nA nB hW1 hRR hEE
 have cHA0 := HA.out.2.1; have cHB20 := HB2.out.2.1; have cHR0 := HR.out.2.1; have zHR0 := HR.out.2.2 0
 by_cases hf : 11 ≤ f ∧ f ≤ 16
 rotate_left
 ·have HD := Lib.hid (decide_eq_false hf)
  have HE0 := Lib.hid (reE_1 (A := A) (B := B) hf)
  have HR0 := Lib.hid (show R = .none by rw [HRR.out]; exact reV_none (by rw [HE0.out]; decide))
  clear hf
  go_enter Tryz.func126, Tryz.ntmps126
  go_wp2_with (refine (reknown_calls _ _).mono ?_; rintro e w' ⟨rfl, rfl⟩; rw [HD.out])
  refine bodyPost_ret (v := .tuple #[.agg #[.nilIface], .int .i64 1]) (by simp [results, Tryz.results126, go_sem, cHR0]) rfl ⟨.nilIface, by rw [HEE.out, HE0.out], ?_, HB.out.setCell (by show w.heap.size ≤ w.heap.size + 1 + 1; omega) _⟩
  rw [HR0.out]; exact .none
 have HD := Lib.hid (decide_eq_true hf)
 have HF := Lib.hid hf; clear hf
 go_enter Tryz.func126, Tryz.ntmps126
 go_wp2_with (refine (reknown_calls _ _).mono ?_; rintro e w' ⟨rfl, rfl⟩; rw [HD.out])
 clear hfold
 by_cases hg : goesA A.len B.len
 rotate_left
 ·have HG := Lib.hid hg; clear hg; clear cHA0 cHB20 cHR0 zHR0
  obtain ⟨W11, hWD, hB⟩ := drwn W1
  replace HA := HA.go hB; replace HB2 := HB2.go hB; replace HR := HR.go hB; replace HB := cb hB HB; replace HU := HU.go hB; replace HU2 := HU2.go hB; replace HT := HT.go hB; clear hB
  refine rgn (S := fun w' => w'.cell? ⟨w.heap.size, 0, none⟩ = some uA ∧ w'.cell? ⟨w.heap.size + 1, 0, none⟩ = some uB) hWD ⟨HA.out.2.1, HB2.out.2.1⟩ (fun hHeld => ?_)
  clear hWD; apply tk 0; apply tk 2
  apply rdy 1; intro K hK; clear hHeld; go_simp
  refine (vlen_calls _ A _ HU.out).mono ?_
  rintro e W12 ⟨rfl, hB⟩
  replace HA := HA.go hB; replace HB2 := HB2.go hB; replace HR := HR.go hB; replace HB := cb hB HB; replace HU := HU.go hB; replace HU2 := HU2.go hB; replace HT := HT.go hB; clear hB
  refine hK.out _ _ ⟨HA.out.2.1, HB2.out.2.1⟩ (fun hHeld => ?_)
  clear hK K
  apply rdy 3; intro K hK; clear hHeld; go_simp
  refine (vlen_calls _ B _ HU2.out).mono ?_
  rintro e W13 ⟨rfl, hB⟩
  replace HA := HA.go hB; replace HB2 := HB2.go hB; replace HR := HR.go hB; replace HB := cb hB HB; replace HU := HU.go hB; replace HU2 := HU2.go hB; replace HT := HT.go hB; clear hB
  refine hK.out _ _ ⟨HA.out.2.1, HB2.out.2.1⟩ (fun hHeld => ?_)
  clear hK K
  apply rdy 4; intro K hK; clear hHeld; go_simp
  refine (alen_no A.len B.len _ HG.out).mono ?_
  rintro e w' ⟨rfl, rfl⟩
  refine hK.out _ _ ⟨HA.out.2.1, HB2.out.2.1⟩ (fun hHeld => ?_)
  clear hK K; apply tk 5; apply tk 6; apply tk 7; apply tk 8; apply tk 9
  refine wpAnyH_done (by kernel_rfl) ?_ _
  clear hHeld; have cHA0 := HA.out.2.1; have cHB20 := HB2.out.2.1; have cHR0 := HR.out.2.1; have zHR0 := HR.out.2.2 0
  have HE0 := Lib.hid (reE_23 HF.out HG.out)
  have HR0 := Lib.hid (show R = .none by rw [HRR.out]; exact reV_none (by rw [HE0.out]; decide))
  go_wp2_with fail
  refine bodyPost_ret (v := .tuple #[.agg #[.nilIface], .int .i64 23]) (by simp [results, Tryz.results126, go_sem, cHR0]) rfl ⟨.nilIface, by rw [HEE.out, HE0.out], ?_, HB.out.setCell (by show w.heap.size ≤ w.heap.size + 1 + 1; omega) _⟩
  rw [HR0.out]; exact .none
 ·have HG := Lib.hid hg; clear hg; clear cHA0 cHB20 cHR0 zHR0
  obtain ⟨W11, hWD, hB⟩ := drwn W1
  replace HA := HA.go hB; replace HB2 := HB2.go hB; replace HR := HR.go hB; replace HB := cb hB HB; replace HU := HU.go hB; replace HU2 := HU2.go hB; replace HT := HT.go hB; clear hB
  refine rgn (S := fun w' => w'.cell? ⟨w.heap.size, 0, none⟩ = some uA ∧ w'.cell? ⟨w.heap.size + 1, 0, none⟩ = some uB) hWD ⟨HA.out.2.1, HB2.out.2.1⟩ (fun hHeld => ?_)
  clear hWD; apply tk 0; apply tk 2
  apply rdy 1; intro K hK; clear hHeld; go_simp
  refine (vlen_calls _ A _ HU.out).mono ?_
  rintro e W12 ⟨rfl, hB⟩
  replace HA := HA.go hB; replace HB2 := HB2.go hB; replace HR := HR.go hB; replace HB := cb hB HB; replace HU := HU.go hB; replace HU2 := HU2.go hB; replace HT := HT.go hB; clear hB
  refine hK.out _ _ ⟨HA.out.2.1, HB2.out.2.1⟩ (fun hHeld => ?_)
  clear hK K
  apply rdy 3; intro K hK; clear hHeld; go_simp
  refine (vlen_calls _ B _ HU2.out).mono ?_
  rintro e W13 ⟨rfl, hB⟩
  replace HA := HA.go hB; replace HB2 := HB2.go hB; replace HR := HR.go hB; replace HB := cb hB HB; replace HU := HU.go hB; replace HU2 := HU2.go hB; replace HT := HT.go hB; clear hB
  refine hK.out _ _ ⟨HA.out.2.1, HB2.out.2.1⟩ (fun hHeld => ?_)
  clear hK K
  apply rdy 4; intro K hK; clear hHeld; go_simp
  refine (alen_yes A.len B.len _ HG.out).mono ?_
  rintro e w' ⟨rfl, rfl⟩
  refine hK.out _ _ ⟨HA.out.2.1, HB2.out.2.1⟩ (fun hHeld => ?_)
  clear hK K; apply tk 5; apply tk 6; apply tk 7; apply tk 8; apply tk 9
  refine wpAnyH_done (by kernel_rfl) ?_ _
  clear hHeld; have cHA0 := HA.out.2.1; have cHB20 := HB2.out.2.1; have cHR0 := HR.out.2.1; have zHR0 := HR.out.2.2 0
  go_wp2_with fail
  by_cases hca : alw f A.cls = true
  rotate_left
  ·have HE0 := Lib.hid (reE_24 HF.out HG.out (fun h => hca h.1))
   have HR0 := Lib.hid (show R = .none by rw [HRR.out]; exact reV_none (by rw [HE0.out]; decide))
   have HCA := Lib.hid (show alw f A.cls = false by simpa using hca)
   clear hca
   refine (class_calls _ A _ HU.out).mono ?_
   rintro e W14 ⟨rfl, hB⟩
   clear cHA0 cHB20 cHR0 zHR0; replace HA := HA.go hB; replace HB2 := HB2.go hB; replace HR := HR.go hB; replace HB := cb hB HB; replace HU := HU.go hB; replace HU2 := HU2.go hB; replace HT := HT.go hB; clear hB; have cHA0 := HA.out.2.1; have cHB20 := HB2.out.2.1; have cHR0 := HR.out.2.1; have zHR0 := HR.out.2.2 0
   go_wp2_with fail
   refine (reallowed_calls f _ _ (VV.cls3 A)).mono ?_
   rintro e w' ⟨rfl, rfl⟩
   rw [HCA.out]
   go_wp2_with fail
   refine bodyPost_ret (v := .tuple #[.agg #[.nilIface], .int .i64 24]) (by simp [results, Tryz.results126, go_sem, cHR0]) rfl ⟨.nilIface, by rw [HEE.out, HE0.out], ?_, HB.out.setCell (by show w.heap.size ≤ w.heap.size + 1 + 1; omega) _⟩
   rw [HR0.out]; exact .none
  have HCA := Lib.hid hca; clear hca
  refine (class_calls _ A _ HU.out).mono ?_
  rintro e W14 ⟨rfl, hB⟩
  clear cHA0 cHB20 cHR0 zHR0; replace HA := HA.go hB; replace HB2 := HB2.go hB; replace HR := HR.go hB; replace HB := cb hB HB; replace HU := HU.go hB; replace HU2 := HU2.go hB; replace HT := HT.go hB; clear hB; have cHA0 := HA.out.2.1; have cHB20 := HB2.out.2.1; have cHR0 := HR.out.2.1; have zHR0 := HR.out.2.2 0
  go_wp2_with fail
  refine (reallowed_calls f _ _ (VV.cls3 A)).mono ?_
  rintro e w' ⟨rfl, rfl⟩
  rw [HCA.out]
  go_wp2_with fail
  by_cases hcb : alw f B.cls = true
  rotate_left
  ·have HE0 := Lib.hid (reE_24 HF.out HG.out (fun h => hcb h.2))
   have HR0 := Lib.hid (show R = .none by rw [HRR.out]; exact reV_none (by rw [HE0.out]; decide))
   have HCB := Lib.hid (show alw f B.cls = false by simpa using hcb)
   clear hcb
   refine (class_calls _ B _ HU2.out).mono ?_
   rintro e W15 ⟨rfl, hB⟩
   clear cHA0 cHB20 cHR0 zHR0; replace HA := HA.go hB; replace HB2 := HB2.go hB; replace HR := HR.go hB; replace HB := cb hB HB; replace HU := HU.go hB; replace HU2 := HU2.go hB; replace HT := HT.go hB; clear hB; have cHA0 := HA.out.2.1; have cHB20 := HB2.out.2.1; have cHR0 := HR.out.2.1; have zHR0 := HR.out.2.2 0
   go_wp2_with fail
   refine (reallowed_calls f _ _ (VV.cls3 B)).mono ?_
   rintro e w' ⟨rfl, rfl⟩
   rw [HCB.out]
   go_wp2_with fail
   refine bodyPost_ret (v := .tuple #[.agg #[.nilIface], .int .i64 24]) (by simp [results, Tryz.results126, go_sem, cHR0]) rfl ⟨.nilIface, by rw [HEE.out, HE0.out], ?_, HB.out.setCell (by show w.heap.size ≤ w.heap.size + 1 + 1; omega) _⟩
   rw [HR0.out]; exact .none
  have HCB := Lib.hid hcb; clear hcb
  refine (class_calls _ B _ HU2.out).mono ?_
  rintro e W15 ⟨rfl, hB⟩
  clear cHA0 cHB20 cHR0 zHR0; replace HA := HA.go hB; replace HB2 := HB2.go hB; replace HR := HR.go hB; replace HB := cb hB HB; replace HU := HU.go hB; replace HU2 := HU2.go hB; replace HT := HT.go hB; clear hB; have cHA0 := HA.out.2.1; have cHB20 := HB2.out.2.1; have cHR0 := HR.out.2.1; have zHR0 := HR.out.2.2 0
  go_wp2_with fail
  refine (reallowed_calls f _ _ (VV.cls3 B)).mono ?_
  rintro e w' ⟨rfl, rfl⟩
  rw [HCB.out]
  go_wp2_with fail
  obtain ⟨n, hn⟩ : ∃ n, lenN A.len B.len = n := ⟨_, rfl⟩
  have HN := Lib.hid hn.symm; rw [hn]
  have HE0 := Lib.hid (reE_0 HF.out HG.out ⟨HCA.out, HCB.out⟩)
  have HR0 := Lib.hid (show R = .bits (relL f A B n) by rw [HRR.out]; unfold reV; rw [if_pos HE0.out, hn])
  clear hn
  refine (related_calls f _ _ A B n _ HF.out HU.out HU2.out HOA.out HOB.out HNA.out HNB.out (alw_two HCA.out) (alw_two HCB.out) HT.out HG.out HN.out).mono ?_
  rintro e W16 ⟨vb, rfl, hvb, hB⟩
  clear cHA0 cHB20 cHR0 zHR0; replace HA := HA.go hB; replace HB2 := HB2.go hB; replace HR := HR.go hB; replace HB := cb hB HB; replace HU := HU.go hB; replace HU2 := HU2.go hB; replace HT := HT.go hB; have HVB := Lib.hid hvb; clear hvb; clear hB; have cHA0 := HA.out.2.1; have cHB20 := HB2.out.2.1; have cHR0 := HR.out.2.1; have zHR0 := HR.out.2.2 0
  go_wp2_with fail
  refine (vbits_calls _ _ _ HVB.out (by rw [relL_len, HN.out]; exact lenN_le (VV.ok_len HOA.out) (VV.ok_len HOB.out))).mono ?_
  rintro e W17 ⟨ub, rfl, hub, hB⟩
  clear cHA0 cHB20 cHR0 zHR0; replace HA := HA.go hB; replace HB2 := HB2.go hB; replace HR := HR.go hB; replace HB := cb hB HB; replace HU := HU.go hB; replace HU2 := HU2.go hB; replace HT := HT.go hB; replace HVB := HVB.go hB; have HUB := Lib.hid hub.any; have hsu := hub.store; clear hub; clear hB; have cHA0 := HA.out.2.1; have cHB20 := HB2.out.2.1; have cHR0 := HR.out.2.1; have zHR0 := HR.out.2.2 0
  go_wp2_with fail
  refine bodyPost_ret (v := .tuple #[.agg #[ub], .int .i64 0]) (by simp [results, Tryz.results126, go_sem, cHR0]) rfl ⟨ub, by rw [HEE.out, HE0.out], ?_, HB.out.setCell (by show w.heap.size ≤ w.heap.size + 1 + 1; omega) _⟩
  rw [HR0.out]; exact HUB.out.bits_set HR.out.2.1 (.inl rfl) _
end Go.Proofs.YtbacchbcanlciaaGreatDoor

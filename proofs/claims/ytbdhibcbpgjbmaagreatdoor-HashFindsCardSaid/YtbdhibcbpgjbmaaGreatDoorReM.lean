/- Layer 11, plain: which relations hold of two numbers, and of all elements of two lists. -/
import Derived.Test.YtbdhibcbpgjbmaaGreatDoorArB
namespace Go.Proofs.YtbdhibcbpgjbmaaGreatDoor
set_option maxRecDepth 100000
open Go.RowKit Fl
set_option linter.unusedVariables false

/-- Does a relation hold of two words? -/
def relB (f : Int) (a b : Nat) : Bool :=
 if f = 11 then decide (V a < V b) else if f = 12 then decide (V a ≤ V b) else if f = 13 then decide (V a = V b)
 else if f = 14 then decide (V b ≤ V a) else if f = 15 then decide (V b < V a) else if f = 16 then decide (V a ≠ V b) else false
/-- .. of two whole numbers? -/
def relI (f a b : Int) : Bool :=
 if f = 11 then decide (a < b) else if f = 12 then decide (a ≤ b) else if f = 13 then decide (a = b)
 else if f = 14 then decide (b ≤ a) else if f = 15 then decide (b < a) else if f = 16 then decide (a ≠ b) else false
def relE (f : Int) : Int := if 11 ≤ f ∧ f ≤ 16 then 0 else 1
/-- May a relation be asked of a class? -/
def alw (f c : Int) : Bool := decide (c = 0 ∨ (c = 1 ∧ (f = 13 ∨ f = 16)))
theorem rel_cases (f : Int) : f = 11 ∨ f = 12 ∨ f = 13 ∨ f = 14 ∨ f = 15 ∨ f = 16 ∨ ¬ (11 ≤ f ∧ f ≤ 16) := by omega
theorem relB_none {f : Int} (a b : Nat) (h : ¬ (11 ≤ f ∧ f ≤ 16)) : relB f a b = false := by
 unfold relB
 rw [if_neg (by omega), if_neg (by omega), if_neg (by omega), if_neg (by omega), if_neg (by omega), if_neg (by omega)]
theorem relB_I (f : Int) (a b : Nat) : relB f a b = relI f (V a) (V b) := rfl
/-- Two finite words: how their orders stand, both ways. -/
theorem ord_both {a b : Nat} (ha : Fnt a) (hb : Fnt b) :
  (V a < V b ∧ FloatKind.f64.format.order a b = some .lt ∧ FloatKind.f64.format.order b a = some .gt) ∨
  (V a = V b ∧ FloatKind.f64.format.order a b = some .eq ∧ FloatKind.f64.format.order b a = some .eq) ∨
  (V b < V a ∧ FloatKind.f64.format.order a b = some .gt ∧ FloatKind.f64.format.order b a = some .lt) := by
 rcases ord_cases ha hb with ⟨h, o⟩ | ⟨h, o⟩ | ⟨h, o⟩
 ·exact .inl ⟨h, o, ord_gt hb ha h⟩
 ·exact .inr (.inl ⟨h, o, ord_eq hb ha h.symm⟩)
 ·exact .inr (.inr ⟨h, o, ord_lt hb ha h⟩)
/-- Booleans compared are the numbers compared. -/
theorem relB_flag (f : Int) (a b : Bool) : relB f (flagW a) (flagW b) = relI f a.toNat b.toNat := by
 have hp : (0 : Int) < (pw 1074 : Int) := by have := pw_pos 1074; omega
 have e : ∀ b : Bool, V (flagW b) = b.toNat * pw 1074 := by intro b; rw [V_flagW]; cases b <;> simp
 rw [relB_I, e, e]
 unfold relI
 have h1 : ∀ x y : Bool, ((x.toNat : Int) * pw 1074 < y.toNat * pw 1074) ↔ ((x.toNat : Int) < y.toNat) := fun x y => Int.mul_lt_mul_right hp
 have h2 : ∀ x y : Bool, ((x.toNat : Int) * pw 1074 ≤ y.toNat * pw 1074) ↔ ((x.toNat : Int) ≤ y.toNat) := fun x y => Int.mul_le_mul_right hp
 have h3 : ((a.toNat : Int) * pw 1074 = b.toNat * pw 1074) ↔ ((a.toNat : Int) = b.toNat) := ⟨fun h => Int.eq_of_mul_eq_mul_right (by omega) h, fun h => by rw [h]⟩
 simp only [h1, h2, h3, Ne]
/-- The table of a relation of two booleans, up to a place. -/
def tabR (f : Int) : Nat → Nat
 | 0 => 0
 | k + 1 => if relI f ((k / 2 : Nat) : Int) ((k % 2 : Nat) : Int) then tabR f k ||| 2 ^ k else tabR f k
theorem tabR_lt (f : Int) : tabR f 4 < 256 := by
 simp only [tabR]
 split <;> split <;> split <;> split <;> decide
theorem tabR_tab {f : Int} (hf : 11 ≤ f ∧ f ≤ 16) (a b : Bool) : tab (tabR f 4) a b = relI f a.toNat b.toNat := by
 rcases rel_cases f with rfl | rfl | rfl | rfl | rfl | rfl | h
 all_goals first | (cases a <;> cases b <;> decide) | exact absurd hf h

/-- What Apply tells: the error; the booleans. -/
def reE (f : Int) (A B : VV) : Int :=
 if 11 ≤ f ∧ f ≤ 16 then (if goesA A.len B.len then (if alw f A.cls = true ∧ alw f B.cls = true then 0 else 24) else 23) else 1
def relL (f : Int) (A B : VV) (n : Nat) : List Bool :=
 if A.cls ≠ B.cls then List.replicate n (decide (f = 16))
 else if A.cls = 1 then (prs 0 A.text B.text n).map fun p => relI f p.1 p.2
 else (prs 0 A.nums B.nums n).map fun p => relB f p.1 p.2
theorem relL_len (f : Int) (A B : VV) (n : Nat) : (relL f A B n).length = n := by
 unfold relL; split
 ·simp
 ·split <;> simp [prs_len]
def reV (f : Int) (A B : VV) : VV := if reE f A B = 0 then .bits (relL f A B (lenN A.len B.len)) else .none
theorem reV_none {f : Int} {A B : VV} (h : reE f A B ≠ 0) : reV f A B = .none := if_neg h
theorem VV.text_len1 {V : VV} (h : V.cls = 1) : V.text.length = V.len := by cases V <;> first | rfl | simp [VV.cls] at h
theorem VV.bit_nums {V : VV} (h : V.isBit = true) : V.nums = V.packed.map flagW ∧ V.packed.length = V.len ∧ V.cls = 0 := by
 cases V <;> first | exact ⟨rfl, rfl, rfl⟩ | simp [VV.isBit] at h
theorem VV.cls3 (V : VV) : V.cls = 0 ∨ V.cls = 1 ∨ V.cls = 2 := by cases V <;> simp [VV.cls]
theorem relL_bits (f : Int) {A B : VV} (n : Nat) (hA : A.isBit = true) (hB : B.isBit = true) : (prs false A.packed B.packed n).map (fun p => relI f p.1.toNat p.2.toNat) = relL f A B n := by
 obtain ⟨a1, a2, a3⟩ := VV.bit_nums hA
 obtain ⟨b1, b2, b3⟩ := VV.bit_nums hB
 unfold relL
 rw [if_neg (by rw [a3, b3]; decide), if_neg (by rw [a3]; decide), a1, b1, show (0 : Nat) = flagW false from rfl, prs_map, List.map_map]
 exact List.map_congr_left fun p _ => (relB_flag f p.1 p.2).symm
theorem relL_nums (f : Int) {A B : VV} (n : Nat) (hA : A.cls = 0) (hB : B.cls = 0) : (prs 0 A.nums B.nums n).map (fun p => relB f p.1 p.2) = relL f A B n := by
 unfold relL
 rw [if_neg (by rw [hA, hB]; decide), if_neg (by rw [hA]; decide)]
theorem relL_text (f : Int) {A B : VV} (n : Nat) (hA : A.cls = 1) (hB : B.cls = 1) : (prs 0 A.text B.text n).map (fun p => relI f p.1 p.2) = relL f A B n := by
 unfold relL
 rw [if_neg (by rw [hA, hB]; decide), if_pos hA]
theorem relL_apart (f : Int) {A B : VV} (n : Nat) (h : A.cls ≠ B.cls) : List.replicate n (f == 16) = relL f A B n := by
 unfold relL
 rw [if_pos h]
 congr 1
end Go.Proofs.YtbdhibcbpgjbmaaGreatDoor

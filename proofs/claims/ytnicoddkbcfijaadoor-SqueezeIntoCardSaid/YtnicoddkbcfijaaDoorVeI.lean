/- Package vec, walked: Num, Whole, Char, Packed, Nums, Wholes, Text. -/
import Derived.Test.YtnicoddkbcfijaaDoorVeH
namespace Go.Proofs.YtnicoddkbcfijaaDoor
open Go.RowKit
set_option linter.unusedVariables false
set_option maxRecDepth 4000

/-- The numbers of a vector; its whole numbers; its characters. -/
def VV.nums : VV → List Nat
  | .bits l => l.map flagW | .smalls l => l.map (floatOfInt .f64) | .ints l => l.map (floatOfInt .f64) | .floats l => l | _ => []
def VV.whs : VV → List Int
  | .bits l => l.map flagZ | .smalls l => l | .ints l => l | _ => []
def VV.isWh : VV → Bool
  | .bits _ => true | .smalls _ => true | .ints _ => true | _ => false
def VV.text : VV → List Int
  | .chars l => l | _ => []
def VV.packed : VV → List Bool
  | .bits l => l | _ => []
def VV.isBit : VV → Bool
  | .bits l => true | _ => false
/-- Of a size that fits, and its elements are of their types. -/
def VV.ok : VV → Prop
  | .none => True
  | .bits l => l.length ≤ 1048576
  | .smalls l => l.length ≤ 1048576 ∧ ∀ x ∈ l, -128 ≤ x ∧ x ≤ 127
  | .ints l => l.length ≤ 1048576
  | .floats l => l.length ≤ 1048576
  | .chars l => l.length ≤ 1048576
  | .boxes l => l.length ≤ 1048576 ∧ ∀ p ∈ l, p.1.length ≤ 1048576
theorem VV.ok_len {V : VV} (h : V.ok) : V.len ≤ 1048576 := by
  cases V <;> simp [VV.ok, VV.len] at * <;> first | exact h | exact h.1 | omega
/-- Element i of a list, d where there is none. -/
def atI {α : Type} (l : List α) (d : α) (i : Int) : α := if 0 ≤ i then l.getD i.toNat d else d
theorem atI_neg {α : Type} {l : List α} {d : α} {i : Int} (h : ¬ (0 ≤ i ∧ i < l.length)) : atI l d i = d := by
  unfold atI
  split
  · rw [List.getD_eq_getElem?_getD, List.getElem?_eq_none (by omega)]; rfl
  · rfl
theorem atI_nat {α : Type} {l : List α} {d : α} {k : Nat} (h : k < l.length) : atI l d (k : Int) = l[k] := by
  unfold atI
  rw [if_pos (by omega), Int.toNat_natCast, List.getD_eq_getElem?_getD, List.getElem?_eq_getElem h]; rfl
theorem ret_fi {a b : Int} {c d : Bool} (h : a = b) (h2 : c = d) : Ending.returned (.tuple #[.int .i64 a, .bool c]) = .returned (.tuple #[.int .i64 b, .bool d]) := by rw [h, h2]
theorem atI_some {α : Type} {l : List α} {d x : α} {k : Nat} (h : l[k]? = some x) : atI l d (k : Int) = x := by
  unfold atI
  rw [if_pos (by omega), Int.toNat_natCast, List.getD_eq_getElem?_getD, h]; rfl
theorem atI_map {α β : Type} {l : List α} {d : β} {x : α} {k : Nat} (f : α → β) (h : l[k]? = some x) : atI (l.map f) d (k : Int) = f x := atI_some (by rw [List.getElem?_map, h]; rfl)
theorem Slc.at_map {α : Type} {w : World} {ok : Nat → Prop} {s : Value} {l : List α} (f : α → Value) (h : Slc w ok s l.length (l.map f)) (k : Nat) (hk : k < l.length) :
    ∃ b off cap x, s = .slice (some ⟨b, off, none⟩) l.length cap ∧ l[k]? = some x ∧ w.cell? ⟨b, off + k, none⟩ = some (f x) := by
  obtain ⟨ao, cap, rfl, _, _, _, hc⟩ := h.opened
  obtain ⟨b, off, rfl, _, hcl⟩ := hc k (by simpa using hk)
  refine ⟨b, off, cap, l[k], rfl, List.getElem?_eq_getElem hk, ?_⟩
  rw [hcl]; simp
theorem sqI_some {l : List Bool} {k : Nat} {b : Bool} (h : l[k]? = some b) : sqI l (k : Int) = b := by
  rw [sqI, if_pos (by omega), Int.toNat_natCast, sq, h]; rfl
theorem VV.nums_len {i : Int} {V : VV} (h : ¬ (0 ≤ i ∧ i < (V.len : Int))) : atI V.nums 0 i = 0 := by
  cases V <;> first | (simp [VV.nums, atI]; done) | (exact atI_neg (by simp only [VV.nums, VV.len, List.length_map] at *; exact h))
theorem VV.whs_len {i : Int} {V : VV} (h : ¬ (0 ≤ i ∧ i < (V.len : Int))) : atI V.whs 0 i = 0 := by
  cases V <;> first | (simp [VV.whs, atI]; done) | (exact atI_neg (by simp only [VV.whs, VV.len, List.length_map] at *; exact h))

end Go.Proofs.YtnicoddkbcfijaaDoor

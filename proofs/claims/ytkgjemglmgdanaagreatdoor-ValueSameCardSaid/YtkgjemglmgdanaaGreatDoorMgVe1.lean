/- Merged: VeA, VeB, VeC, VeD, VeE, VeF, VeG, VeH, VeI, VeJ, VeK, VeL, VeM, VeN, VeO, VeP, VeQ, VeS, VeW, VeX. -/
import Derived.Deep.RegionLaw
import Derived.Test.YtkgjemglmgdanaaGreatDoorMgBv1
import Derived.Test.YtkgjemglmgdanaaGreatDoorMgNu1
/- Package vec: what a vector is in memory; facts of its types. -/
namespace Go.Proofs.YtkgjemglmgdanaaGreatDoor
open Go.RowKit
set_option linter.unusedVariables false

/-- What a vector holds. -/
inductive VV where
  | none
  | bits (l : List Bool)
  | smalls (l : List Int)
  | ints (l : List Int)
  | floats (l : List Nat)
  | chars (l : List Int)
  | boxes (l : List (List Int × VV))
def VV.kind : VV → Int
  | .none => 0 | .bits _ => 1 | .smalls _ => 2 | .ints _ => 3 | .floats _ => 4 | .chars _ => 5 | .boxes _ => 6
def VV.cls : VV → Int
  | .chars _ => 1 | .boxes _ => 2 | _ => 0
def VV.len : VV → Nat
  | .none => 0 | .bits l => l.length | .smalls l => l.length | .ints l => l.length | .floats l => l.length | .chars l => l.length | .boxes l => l.length

def i8s (l : List Int) : List Value := l.map (Value.int .i8)
def i32s (l : List Int) : List Value := l.map (Value.int .i32)
def f64s (l : List Nat) : List Value := l.map (Value.float .f64)
/-- u is what a vector keeps: V. -/
inductive IsV (w : World) (ok : Nat → Prop) : Value → VV → Prop
  | none : IsV w ok .nilIface .none
  | bits {s : Value} {l : List Bool} (h : Slx w ok s ((l.length + 63) / 64) (u64s (words l))) (hm : l.length ≤ 1048576) : IsV w ok (.iface 66 (.agg #[.int .i64 (l.length : Int), s])) (.bits l)
  | smalls {s : Value} {l : List Int} (h : Slc w ok s l.length (i8s l)) : IsV w ok (.iface 67 s) (.smalls l)
  | ints {s : Value} {l : List Int} (h : Slc w ok s l.length (ints l)) : IsV w ok (.iface 68 s) (.ints l)
  | floats {s : Value} {l : List Nat} (h : Slc w ok s l.length (f64s l)) : IsV w ok (.iface 44 s) (.floats l)
  | chars {s : Value} {l : List Int} (h : Slc w ok s l.length (i32s l)) : IsV w ok (.iface 69 s) (.chars l)
  | boxes {ao : Option Addr} {cap : Nat} {l : List (List Int × VV)} (f g : Nat → Value) (h1 : l.length ≤ cap) (h2 : cap ≤ maxLen)
      (hc : ∀ i, i < l.length → ∃ b off, ao = some ⟨b, off, Option.none⟩ ∧ ok b ∧ w.cell? ⟨b, off + i * 2, Option.none⟩ = some (f i) ∧ w.cell? ⟨b, off + i * 2 + 1, Option.none⟩ = some (g i))
      (hs : ∀ i (h : i < l.length), Slc w ok (f i) (l[i]).1.length (_root_.Go.Proofs.YtkgjemglmgdanaaGreatDoor.ints (l[i]).1))
      (hv : ∀ i (h : i < l.length), IsV w ok (g i) (l[i]).2) : IsV w ok (.iface 70 (.slice ao l.length cap)) (.boxes l)
theorem IsV.keep {w w' : World} {ok ok' : Nat → Prop} {u : Value} {V : VV} (hk : Kept ok w w') (hm : ∀ b, b < w.heap.size → ok b → ok' b) (h : IsV w ok u V) : IsV w' ok' u V := by
  induction h with
  | none => exact .none
  | bits h hl => exact .bits (h.keep hk hm) hl
  | smalls h => exact .smalls (h.keep hk hm)
  | ints h => exact .ints (h.keep hk hm)
  | floats h => exact .floats (h.keep hk hm)
  | chars h => exact .chars (h.keep hk hm)
  | boxes f g h1 h2 hc hs hv ih =>
    refine .boxes f g h1 h2 (fun i hi => ?_) (fun i hi => (hs i hi).keep hk hm) (fun i hi => ih i hi)
    obtain ⟨b, off, e, hb, c1, c2⟩ := hc i hi
    exact ⟨b, off, e, hm b (World.block_lt_of_cell? w _ c1) hb, hk _ _ hb c1, hk _ _ hb c2⟩
theorem IsV.wide {w : World} {ok ok' : Nat → Prop} {u : Value} {V : VV} (h : IsV w ok u V) (hm : ∀ b, b < w.heap.size → ok b → ok' b) : IsV w ok' u V := h.keep (Kept.refl _ _) hm
theorem IsV.any {w : World} {ok : Nat → Prop} {u : Value} {V : VV} (h : IsV w ok u V) : IsV w (fun _ => True) u V := h.wide (fun _ _ _ => trivial)
end Go.Proofs.YtkgjemglmgdanaaGreatDoor

/- Package vec, walked: Kind, Class, Len, has. -/
namespace Go.Proofs.YtkgjemglmgdanaaGreatDoor
open Go.RowKit
set_option linter.unusedVariables false
set_option maxRecDepth 4000
end Go.Proofs.YtkgjemglmgdanaaGreatDoor

/- Package slices: Clone, for five types of elements. -/
namespace Go.Proofs.YtkgjemglmgdanaaGreatDoor
open Go.RowKit
set_option linter.unusedVariables false
set_option maxRecDepth 4000

end Go.Proofs.YtkgjemglmgdanaaGreatDoor

/- Package vec, walked: Bits, Smalls, Ints, Floats, Chars. -/
namespace Go.Proofs.YtkgjemglmgdanaaGreatDoor
open Go.RowKit
set_option linter.unusedVariables false
set_option maxRecDepth 4000

/-- A block of one cell, known, not frozen. -/
def At1 (w : World) (b : Nat) (x : Value) : Prop := b < w.heap.size ∧ w.cell? ⟨b, 0, none⟩ = some x ∧ ∀ o, w.frozen? ⟨b, o, none⟩ = false
theorem At1.new (w : World) (x : Value) (t : TypeId) : At1 (w.alloc (.cells #[x] t)) w.heap.size x := ⟨by simp, by simp, fun o => by simp⟩
theorem At1.below {w w' : World} {b : Nat} {x : Value} (h : At1 w b x) (hb : Below w.heap.size w w') : At1 w' b x :=
  ⟨Nat.lt_of_lt_of_le h.1 hb.size, keep_below hb _ _ h.2.1, fun o => (hb.frozen (p := ⟨b, o, none⟩) h.1).trans (h.2.2 o)⟩
theorem At1.grown {w w' : World} {b : Nat} {x : Value} (h : At1 w b x) {row : Option Nat} (hg : w.grownBy w' row) (hne : some b ≠ row) : At1 w' b x :=
  ⟨Nat.lt_of_lt_of_le h.1 hg.size, hg.cell h.2.1 hne, fun o => (grown_frozen hg h.1 hne).trans (h.2.2 o)⟩
theorem below_new (w : World) (o : Obj) : Below w.heap.size w (w.alloc o) := (Below.refl _ _).alloc (Nat.le_refl _) _
end Go.Proofs.YtkgjemglmgdanaaGreatDoor

/- Package vec, walked: Ints, Floats. -/
namespace Go.Proofs.YtkgjemglmgdanaaGreatDoor
open Go.RowKit
set_option linter.unusedVariables false
set_option maxRecDepth 4000

end Go.Proofs.YtkgjemglmgdanaaGreatDoor

/- Slices made and filled; package vec, walked: Floats, flags, converted. -/
namespace Go.Proofs.YtkgjemglmgdanaaGreatDoor
open Go.RowKit
set_option linter.unusedVariables false
set_option maxRecDepth 4000

end Go.Proofs.YtkgjemglmgdanaaGreatDoor

/- Package vec, walked: flags, Floats. -/
namespace Go.Proofs.YtkgjemglmgdanaaGreatDoor
open Go.RowKit
set_option linter.unusedVariables false
set_option maxRecDepth 4000

/-- 1 for each that is true. -/
def flagW (b : Bool) : Nat := if b then 4607182418800017408 else 0
end Go.Proofs.YtkgjemglmgdanaaGreatDoor

/- Package vec, walked: Floats. -/
namespace Go.Proofs.YtkgjemglmgdanaaGreatDoor
open Go.RowKit Fl
set_option linter.unusedVariables false
set_option maxRecDepth 4000


end Go.Proofs.YtkgjemglmgdanaaGreatDoor

/- Package vec, walked: Num, Whole, Char, Packed, Nums, Wholes, Text. -/
namespace Go.Proofs.YtkgjemglmgdanaaGreatDoor
open Go.RowKit
set_option linter.unusedVariables false
set_option maxRecDepth 4000

/-- The numbers of a vector; its whole numbers; its characters. -/
def VV.nums : VV → List Nat
  | .bits l => l.map flagW | .smalls l => l.map (floatOfInt .f64) | .ints l => l.map (floatOfInt .f64) | .floats l => l | _ => []
def VV.text : VV → List Int
  | .chars l => l | _ => []
def VV.packed : VV → List Bool
  | .bits l => l | _ => []
/-- Of a size that fits, and its elements are of their types. -/
def VV.ok : VV → Prop
  | .none => True
  | .bits l => l.length ≤ 1048576
  | .smalls l => l.length ≤ 1048576 ∧ ∀ x ∈ l, -128 ≤ x ∧ x ≤ 127
  | .ints l => l.length ≤ 1048576
  | .floats l => l.length ≤ 1048576
  | .chars l => l.length ≤ 1048576
  | .boxes l => l.length ≤ 1048576 ∧ ∀ p ∈ l, p.1.length ≤ 1048576
end Go.Proofs.YtkgjemglmgdanaaGreatDoor

/- Package vec, walked: Char, Packed, Nums, Wholes, Text. -/
namespace Go.Proofs.YtkgjemglmgdanaaGreatDoor
open Go.RowKit
set_option linter.unusedVariables false
set_option maxRecDepth 4000

end Go.Proofs.YtkgjemglmgdanaaGreatDoor

/- Package vec, walked: clone. -/
namespace Go.Proofs.YtkgjemglmgdanaaGreatDoor
open Go.RowKit
set_option linter.unusedVariables false
set_option maxRecDepth 4000

def IsIface (u : Value) : Prop := u = .nilIface ∨ ∃ t x, u = .iface t x
theorem IsV.shape {w : World} {ok : Nat → Prop} {u : Value} {V : VV} (h : IsV w ok u V) : IsIface u := by cases h <;> first | exact .inl rfl | exact .inr ⟨_, _, rfl⟩

end Go.Proofs.YtkgjemglmgdanaaGreatDoor

/- Package vec, walked: lists of arrays; clones. -/
namespace Go.Proofs.YtkgjemglmgdanaaGreatDoor
open Go.RowKit
set_option linter.unusedVariables false
set_option maxRecDepth 4000

/-- s is a slice of the arrays l. -/
def Arrs (w : World) (ok : Nat → Prop) (s : Value) (l : List (List Int × VV)) : Prop :=
  ∃ (ao : Option Addr) (cap : Nat) (f g : Nat → Value), s = .slice ao l.length cap ∧ l.length ≤ cap ∧ cap ≤ maxLen ∧
    (∀ i, i < l.length → ∃ b off, ao = some ⟨b, off, Option.none⟩ ∧ ok b ∧ w.cell? ⟨b, off + i * 2, Option.none⟩ = some (f i) ∧ w.cell? ⟨b, off + i * 2 + 1, Option.none⟩ = some (g i)) ∧
    (∀ i (h : i < l.length), Slc w ok (f i) (l[i]).1.length (ints (l[i]).1)) ∧ (∀ i (h : i < l.length), IsV w ok (g i) (l[i]).2)
theorem Arrs.keep {w w' : World} {ok ok' : Nat → Prop} {s : Value} {l : List (List Int × VV)} (hk : Kept ok w w') (hm : ∀ b, b < w.heap.size → ok b → ok' b) (h : Arrs w ok s l) : Arrs w' ok' s l := by
  obtain ⟨ao, cap, f, g, e, h1, h2, hc, hs, hv⟩ := h
  refine ⟨ao, cap, f, g, e, h1, h2, fun i hi => ?_, fun i hi => (hs i hi).keep hk hm, fun i hi => (hv i hi).keep hk hm⟩
  obtain ⟨b, off, e, hb, c1, c2⟩ := hc i hi
  exact ⟨b, off, e, hm b (World.block_lt_of_cell? w _ c1) hb, hk _ _ hb c1, hk _ _ hb c2⟩
theorem Arrs.nil (w : World) (ok : Nat → Prop) : Arrs w ok (.slice Option.none 0 0) [] :=
  ⟨Option.none, 0, fun _ => undef, fun _ => undef, rfl, Nat.le_refl _, by unfold maxLen; omega, fun i h => absurd h (by simp), fun i h => absurd h (by simp), fun i h => absurd h (by simp)⟩
theorem Arrs.boxes {w : World} {ok : Nat → Prop} {s : Value} {l : List (List Int × VV)} (h : Arrs w ok s l) : IsV w ok (.iface 70 s) (.boxes l) := by
  obtain ⟨ao, cap, f, g, rfl, h1, h2, hc, hs, hv⟩ := h
  exact .boxes f g h1 h2 hc hs hv
end Go.Proofs.YtkgjemglmgdanaaGreatDoor

/- Package vec, walked: Boxes, Box, Arrays, None. -/
namespace Go.Proofs.YtkgjemglmgdanaaGreatDoor
open Go.RowKit
set_option linter.unusedVariables false
set_option maxRecDepth 4000

/-- sh, u are the array p. -/
def IsArr (w : World) (ok : Nat → Prop) (sh u : Value) (p : List Int × VV) : Prop := Slc w ok sh p.1.length (ints p.1) ∧ IsV w ok u p.2
theorem IsArr.none (w : World) (ok : Nat → Prop) : IsArr w ok (.slice Option.none 0 0) .nilIface ([], .none) := ⟨Slc.nil _ _, .none⟩
end Go.Proofs.YtkgjemglmgdanaaGreatDoor

/- Package vec, walked: None; the reference's Runes, Same, Small. -/
namespace Go.Proofs.YtkgjemglmgdanaaGreatDoor
open Go.RowKit Fl
set_option linter.unusedVariables false
set_option maxRecDepth 4000

end Go.Proofs.YtkgjemglmgdanaaGreatDoor

/- Regions whose calls only make memory; package vec's law: awake; the reference's Tidy. -/
namespace Go.Proofs.YtkgjemglmgdanaaGreatDoor
open Go.RowKit Fl
set_option linter.unusedVariables false
set_option maxRecDepth 4000

theorem IsV.store {w : World} {ok : Nat → Prop} {u : Value} {V : VV} (h : IsV w ok u V) : ∀ (w : World) (a : Addr) (m : Mode), (store a u m).run Tryz.prog w = stored Tryz.prog w a u m := by
  intro w a m
  have := h.shape
  rcases this with rfl | ⟨t, x, rfl⟩
  · exact run_store Tryz.prog w a _ m rfl
  · exact run_store Tryz.prog w a _ m rfl

end Go.Proofs.YtkgjemglmgdanaaGreatDoor

/- Package vec's law: the reference's Tidy of lists; shows. -/
namespace Go.Proofs.YtkgjemglmgdanaaGreatDoor
open Go.RowKit Fl
set_option linter.unusedVariables false
set_option maxRecDepth 4000

end Go.Proofs.YtkgjemglmgdanaaGreatDoor

/- Package vec's law: shows. -/
namespace Go.Proofs.YtkgjemglmgdanaaGreatDoor
open Go.RowKit Fl
set_option linter.unusedVariables false
set_option maxRecDepth 8000

end Go.Proofs.YtkgjemglmgdanaaGreatDoor

/- VecBits, walked. -/
namespace Go.Proofs.YtkgjemglmgdanaaGreatDoor
open Go.RowKit Fl
set_option linter.unusedVariables false
set_option maxRecDepth 8000

end Go.Proofs.YtkgjemglmgdanaaGreatDoor

/- Package vec: what Text and Wholes tell is the caller's own; append of what came in to a new slice. -/
namespace Go.Proofs.YtkgjemglmgdanaaGreatDoor
open Go.RowKit
set_option linter.unusedVariables false
set_option maxRecDepth 4000

end Go.Proofs.YtkgjemglmgdanaaGreatDoor

/- VecApart, walked. -/
namespace Go.Proofs.YtkgjemglmgdanaaGreatDoor
open Go.RowKit Fl
set_option linter.unusedVariables false
set_option maxRecDepth 100000

end Go.Proofs.YtkgjemglmgdanaaGreatDoor

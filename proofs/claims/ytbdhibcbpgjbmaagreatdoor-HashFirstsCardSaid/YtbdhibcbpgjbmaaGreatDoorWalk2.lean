/- Walks with local variables: what a store to one leaves. -/
import Derived.Deep.RegionHeld3
import Derived.Test.YtbdhibcbpgjbmaaGreatDoorSqD
namespace Go.Proofs.YtbdhibcbpgjbmaaGreatDoor
set_option maxRecDepth 100000
open Go.RowKit
set_option linter.unusedVariables false
theorem ok_step (okc : Nat → Prop) (n a m : Nat) (hm : ∀ b, n ≤ b → okc b) (ha : n ≤ a) (ham : a < m) : ∃ o : Nat → Prop, (∀ b, o b → okc b) ∧ (∀ b, b < n → okc b → o b) ∧ (∀ b, m ≤ b → o b) ∧ ¬ o a :=
 ⟨fun b => okc b ∧ b ≠ a, fun b h => h.1, fun b h1 h2 => ⟨h2, by omega⟩, fun b h => ⟨hm b (by omega), by omega⟩, fun h => h.2 rfl⟩
theorem IsIface.ne_int {y : Value} (h : IsIface y) (k : IntKind) (z : Int) : Value.int k z ≠ y := by rcases h with rfl | ⟨t, x, rfl⟩ <;> intro e <;> cases e
theorem IsIface.ne_float {y : Value} (h : IsIface y) (k : FloatKind) (z : Nat) : Value.float k z ≠ y := by rcases h with rfl | ⟨t, x, rfl⟩ <;> intro e <;> cases e
/-- A store over an interface touches no vector's cells, but of boxes, whose blocks are told apart. -/
theorem IsV.setw {w : World} {ok : Nat → Prop} {u : Value} {V : VV} (h : IsV w (V.nb ok) u V) {p : Addr} {y : Value} (hp : w.cell? p = some y) (hy : IsIface y) (ho : ¬ ok p.block) (x : Value) : IsV (w.setCell p x) (V.nb ok) u V := by
 exact h.setb ho x
theorem At1.set {w : World} {b : Nat} {x : Value} (h : At1 w b x) (y : Value) : At1 (w.setCell ⟨b, 0, none⟩ y) b y := by
 refine ⟨by simpa using h.1, World.cell?_setCell_same _ _ _ h.2.1, fun o => ?_⟩
 have := h.2.2 o
 simpa using this
theorem TabAt.setc {w : World} (h : TabAt w) {p : Addr} {y : Value} (hp : w.cell? p = some y) (hy : IsIface y) (x : Value) : TabAt (w.setCell p x) := fun j hj => by
 rw [World.cell?_setCell_other _ _ _ _ (fun ep => ?_)]
 ·exact h j hj
 ·have := h j hj
  rw [← ep, hp] at this
  exact hy.ne_int _ _ (Option.some.inj this).symm
theorem Slc.setc {w : World} {ok : Nat → Prop} {s : Value} {n : Nat} {xs : List Value} (h : Slc w ok s n xs) {p : Addr} {y : Value} (hp : w.cell? p = some y) (hy : ∀ z ∈ xs, z ≠ y) (x : Value) : Slc (w.setCell p x) ok s n xs := ⟨h.1.setn hp hy x, h.2⟩
theorem wp_mid {P : Program} {c : Code} {Q : Exit → Act → World → Prop} {a : Act} {w : World} (M : Act → Act → World → Prop) (h : c.wp P (fun e a' w' => e = .normal ∧ M a a' w') a w) (k : ∀ a' w', M a a' w' → Q .normal a' w') : c.wp P Q a w :=
 Code.wp_mono (fun e a' w' hm => by obtain ⟨rfl, hm⟩ := hm; exact k a' w' hm) h
end Go.Proofs.YtbdhibcbpgjbmaaGreatDoor

/- VecApart, walked. -/
import Derived.Test.YtbdhibcbpgjbmaaGreatDoorVeW
import Derived.Test.YtbdhibcbpgjbmaaGreatDoorVeS
namespace Go.Proofs.YtbdhibcbpgjbmaaGreatDoor
open Go.RowKit Fl
set_option linter.unusedVariables false
set_option maxRecDepth 100000

theorem kept_lt {M : Nat} {w w' : World} {row : Option Nat} (hg : w.grownBy w' row) (h : ∀ k, row = some k → M ≤ k) : Kept (fun b => b < M) w w' := fun a v ho hx => hg.cell hx (fun e => by have := h _ e.symm; omega)
theorem kept_ge {M : Nat} {w w' : World} {row : Option Nat} (hg : w.grownBy w' row) (h : ∀ k, row = some k → k < M) : Kept (fun b => M ≤ b) w w' := fun a v ho hx => hg.cell hx (fun e => by have := h _ e.symm; omega)
theorem Slc.lt {w : World} {ok : Nat → Prop} {s : Value} {n : Nat} {xs : List Value} (h : Slc w ok s n xs) : Slc w (fun b => b < w.heap.size) s n xs := h.keep (Kept.refl _ _) (fun _ h _ => h)
theorem IsV.lts {w : World} {ok : Nat → Prop} {u : Value} {V : VV} (h : IsV w ok u V) : IsV w (fun b => b < w.heap.size) u V := h.wide (fun _ h _ => h)
theorem i8s_one (l : List Int) : ∀ u ∈ i8s l, u.oneCell' = true := by intro u hu; simp only [i8s, List.mem_map] at hu; obtain ⟨z, _, rfl⟩ := hu; rfl
theorem i32s_one (l : List Int) : ∀ u ∈ i32s l, u.oneCell' = true := by intro u hu; simp only [i32s, List.mem_map] at hu; obtain ⟨z, _, rfl⟩ := hu; rfl
theorem ints_one (l : List Int) : ∀ u ∈ ints l, u.oneCell' = true := by intro u hu; simp only [ints, List.mem_map] at hu; obtain ⟨z, _, rfl⟩ := hu; rfl

end Go.Proofs.YtbdhibcbpgjbmaaGreatDoor

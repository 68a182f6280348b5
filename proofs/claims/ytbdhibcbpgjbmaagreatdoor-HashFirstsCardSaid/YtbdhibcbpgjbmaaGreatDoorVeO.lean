/- Regions whose calls only make memory; package vec's law: awake; the reference's Tidy. -/
import Derived.Test.YtbdhibcbpgjbmaaGreatDoorVeN
namespace Go.Proofs.YtbdhibcbpgjbmaaGreatDoor
open Go.RowKit Fl
set_option linter.unusedVariables false
set_option maxRecDepth 100000

/-- A region that draws its order, whose operations read and whose calls hand back one value and only make memory: walked once. -/
theorem region_grow {P : Program} {id : Nat} {Q : Exit → Act → World → Prop} {a : Act} {w : World} {l : List Oper} (w0 : World) (hm : P.follows .mixedOrders = true) (hB : Region.lexB .any l.toArray = true) (hd : Below w0.heap.size w0 w)
  (h : ∀ (Ω : Type) [Inhabited Ω] (W : Ω → World), (∀ x, Below w0.heap.size w0 (W x)) → (∀ w', Below w0.heap.size w0 w' → ∃ x, w' = W x) →
   wpQuiet P l.toArray (fun w' => ∃ x, w' = W x) (fun a' => ∀ w', (∃ x, w' = W x) → Q .normal a' w') l a) : (Code.region id l.toArray true).wp P Q a w := by
 have hd' : Below w0.heap.size w0 { w with drawn := w.drawn + 1 } := ⟨hd.os, hd.tape, hd.output, hd.size, hd.block⟩
 have h2 := @h {w' : World // Below w0.heap.size w0 w'} ⟨⟨w0, Below.refl _ _⟩⟩ Subtype.val (fun x => x.2) (fun w' hw => ⟨⟨w', hw⟩, rfl⟩)
 exact wp_region_quiet (C := fun w' => ∃ x : {w' : World // Below w0.heap.size w0 w'}, w' = x.val) hm hB ⟨⟨_, hd'⟩, rfl⟩ (by simpa using h2)
theorem Calls.quiet_grow {P : Program} {f : FuncId} {args : Array Value} {w0 : World} {Ω : Type} {W : Ω → World} {v : Value} {x : Ω} (hW : ∀ x, Below w0.heap.size w0 (W x)) (hI : ∀ w', Below w0.heap.size w0 w' → ∃ x, w' = W x)
  (h : Calls P f args (W x) fun e w' => e = .returned v ∧ Below (W x).heap.size (W x) w') : Calls P f args (W x) fun e w'' => e = .returned v ∧ ∃ y, w'' = W y :=
 h.mono fun _ _ ⟨h1, h2⟩ => ⟨h1, hI _ ((hW x).trans (h2.mono (hW x).size))⟩
theorem Calls.grow_same {P : Program} {f : FuncId} {args : Array Value} {w : World} {v : Value} (h : Calls P f args w fun e w' => e = .returned v ∧ w = w') : Calls P f args w fun e w' => e = .returned v ∧ Below w.heap.size w w' :=
 h.mono fun _ _ ⟨h1, h2⟩ => ⟨h1, by rw [← h2]; exact Below.refl _ _⟩

theorem IsV.store {w : World} {ok : Nat → Prop} {u : Value} {V : VV} (h : IsV w ok u V) : ∀ (w : World) (a : Addr) (m : Mode), (store a u m).run Tryz.prog w = stored Tryz.prog w a u m := by
 intro w a m
 have := h.shape
 rcases this with rfl | ⟨t, x, rfl⟩
 ·exact run_store Tryz.prog w a _ m rfl
 ·exact run_store Tryz.prog w a _ m rfl

end Go.Proofs.YtbdhibcbpgjbmaaGreatDoor

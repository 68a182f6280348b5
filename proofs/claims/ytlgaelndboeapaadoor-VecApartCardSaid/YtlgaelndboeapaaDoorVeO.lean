/- Regions whose calls only make memory; package vec's law: awake; the reference's Tidy. -/
import Derived.Test.YtlgaelndboeapaaDoorVeN
namespace Go.Proofs.YtlgaelndboeapaaDoor
open Go.RowKit Fl
set_option linter.unusedVariables false
set_option maxRecDepth 4000

/-- A region that draws its order, whose operations read and whose calls hand back one value and only make memory: walked once. -/
theorem region_grow {P : Program} {id : Nat} {Q : Exit → Act → World → Prop} {a : Act} {w : World} {l : List Oper} (w0 : World) (hm : P.follows .mixedOrders = true) (hB : Region.lexB .any l.toArray = true) (hd : Below w0.heap.size w0 w)
    (h : ∀ (Ω : Type) [Inhabited Ω] (W : Ω → World), (∀ x, Below w0.heap.size w0 (W x)) → (∀ w', Below w0.heap.size w0 w' → ∃ x, w' = W x) →
      wpQuiet P l.toArray (fun w' => ∃ x, w' = W x) (fun a' => ∀ w', (∃ x, w' = W x) → Q .normal a' w') l a) : (Code.region id l.toArray true).wp P Q a w := by
  have hd' : Below w0.heap.size w0 { w with drawn := w.drawn + 1 } := ⟨hd.os, hd.tape, hd.output, hd.size, hd.block⟩
  have h2 := @h {w' : World // Below w0.heap.size w0 w'} ⟨⟨w0, Below.refl _ _⟩⟩ Subtype.val (fun x => x.2) (fun w' hw => ⟨⟨w', hw⟩, rfl⟩)
  exact wp_region_quiet (C := fun w' => ∃ x : {w' : World // Below w0.heap.size w0 w'}, w' = x.val) hm hB ⟨⟨_, hd'⟩, rfl⟩ (by simpa using h2)
theorem Calls.quiet_grow {P : Program} {f : FuncId} {args : Array Value} {w0 : World} {Ω : Type} {W : Ω → World} {v : Value} {x : Ω} (hW : ∀ x, Below w0.heap.size w0 (W x)) (hI : ∀ w', Below w0.heap.size w0 w' → ∃ x, w' = W x)
    (h : Calls P f args (W x) fun e w' => e = .returned v ∧ Below (W x).heap.size (W x) w') : Calls P f args (W x) fun e w'' => e = .returned v ∧ ∃ y, w'' = W y :=
  h.mono fun _ _ ⟨h1, h2⟩ => ⟨h1, hI _ ((hW x).trans (h2.mono (hW x).size))⟩
theorem Calls.grow_same {P : Program} {f : FuncId} {args : Array Value} {w : World} {v : Value} (h : Calls P f args w fun e w' => e = .returned v ∧ w = w') : Calls P f args w fun e w' => e = .returned v ∧ Below w.heap.size w w' :=
  h.mono fun _ _ ⟨h1, h2⟩ => ⟨h1, by rw [← h2]; exact Below.refl _ _⟩

theorem IsV.store {w : World} {ok : Nat → Prop} {u : Value} {V : VV} (h : IsV w ok u V) : ∀ (w : World) (a : Addr) (m : Mode), (store a u m).run Tryd.prog w = stored Tryd.prog w a u m := by
  intro w a m
  have := h.shape
  rcases this with rfl | ⟨t, x, rfl⟩
  · exact run_store Tryd.prog w a _ m rfl
  · exact run_store Tryd.prog w a _ m rfl

set_option maxHeartbeats 2000000 in
theorem awake4_calls (w : World) : Calls Tryd.prog 8 #[] w fun e w' => e = .returned (.bool true) ∧ Below w.heap.size w w' := by
  have hn : Hid (atI (VV.smalls [3, -4]).nums 0 1 = 13839561654909534208) := Lib.hid (by decide +kernel)
  have ho : FloatKind.f64.format.order 13839561654909534208 13839561654909534208 = some .eq := by decide
  have hs0 : Hid (Slc (w.alloc (.cells #[.int .i8 3, .int .i8 (-4)] 27)) (fun _ => True) (.slice (some ⟨w.heap.size, 0, none⟩) 2 2) 2 (i8s [3, -4])) := Lib.hid (by
    have := World.ownsRow_lit (base := w.heap.size) (e := 27) (size := 1) w #[.int .i8 3, .int .i8 (-4)] 2 (Nat.le_refl _) (by unfold maxLen; omega) rfl
    exact (Slc.owned this).any)
  go_enter Tryd.func8, Tryd.ntmps8
  go_wp2_with fail
  refine (vsmalls_calls _ [3, -4] _ hs0.out (by simp)).mono ?_
  rintro e w1 ⟨u, rfl, hu, hB⟩
  have hst := hu.store
  have HU := Lib.hid hu.any
  have HB := Lib.hid ((below_new w _).trans (hB.mono (by simp)))
  clear hu hB
  obtain ⟨W2, hW2⟩ : ∃ W2, W2 = w1.alloc (.cells #[u] 29) := ⟨_, rfl⟩
  have HB2 := Lib.hid (show Below w.heap.size w W2 by rw [hW2]; exact HB.out.alloc HB.out.size _)
  have HA2 := Lib.hid (show At1 W2 w1.heap.size u by rw [hW2]; exact At1.new _ _ _)
  have HU2 := Lib.hid (show IsV W2 _ u _ by rw [hW2]; exact HU.out.grow (below_new _ _))
  go_wp2_with fail
  rw [← hW2]
  clear hW2
  refine (kind_calls _ _ _ HU2.out).mono ?_
  rintro e W3 ⟨rfl, hB⟩
  obtain ⟨_, a0, _⟩ := HA2.out.below hB
  have HA3 := Lib.hid (HA2.out.below hB)
  have HU3 := Lib.hid (HU2.out.grow hB)
  have HB3 := Lib.hid (HB2.out.trans (hB.mono HB2.out.size))
  clear hB
  simp only [VV.kind]
  go_wp2_with fail
  refine (class_calls _ _ _ HU3.out).mono ?_
  rintro e W4 ⟨rfl, hB⟩
  obtain ⟨_, a0, _⟩ := HA3.out.below hB
  have HA4 := Lib.hid (HA3.out.below hB)
  have HU4 := Lib.hid (HU3.out.grow hB)
  have HB4 := Lib.hid (HB3.out.trans (hB.mono HB3.out.size))
  clear hB
  simp only [VV.cls]
  go_wp2_with fail
  refine (num_calls _ _ _ _ HU4.out).mono ?_
  rintro e W5 ⟨rfl, hB⟩
  obtain ⟨_, a0, _⟩ := HA4.out.below hB
  have HA5 := Lib.hid (HA4.out.below hB)
  have HU5 := Lib.hid (HU4.out.grow hB)
  have HB5 := Lib.hid (HB4.out.trans (hB.mono HB4.out.size))
  clear hB
  rw [hn.out]
  go_wp2_with fail
  refine (vlen_calls _ _ _ HU5.out).mono ?_
  rintro e W6 ⟨rfl, hB⟩
  obtain ⟨_, a0, _⟩ := HA5.out.below hB
  have HA6 := Lib.hid (HA5.out.below hB)
  have HU6 := Lib.hid (HU5.out.grow hB)
  have HB6 := Lib.hid (HB5.out.trans (hB.mono HB5.out.size))
  clear hB
  simp only [VV.len, List.length_cons, List.length_nil]
  go_wp2
  go_ret
  exact ⟨rfl, HB6.out⟩
end Go.Proofs.YtlgaelndboeapaaDoor

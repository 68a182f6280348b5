/- Merged: ReM, ReA, ReB, ReC, ReD, ReE, ReF. -/
import Derived.Test.YtakbhiomhjmihaaDoorMgAr1
import Derived.Test.YtakbhiomhjmihaaDoorMgMo1
import Derived.Test.YtakbhiomhjmihaaDoorMgBv1
import Derived.Test.YtakbhiomhjmihaaDoorMgVe1
import Derived.Test.YtakbhiomhjmihaaDoorMgSq1
/- Layer 11, plain: which relations hold of two numbers, and of all elements of two lists. -/
namespace Go.Proofs.YtakbhiomhjmihaaDoor
set_option maxRecDepth 100000
open Go.RowKit Fl
set_option linter.unusedVariables false

/-- Two finite words: how their orders stand, both ways. -/
theorem ord_both {a b : Nat} (ha : Fnt a) (hb : Fnt b) :
  (V a < V b ∧ FloatKind.f64.format.order a b = some .lt ∧ FloatKind.f64.format.order b a = some .gt) ∨
  (V a = V b ∧ FloatKind.f64.format.order a b = some .eq ∧ FloatKind.f64.format.order b a = some .eq) ∨
  (V b < V a ∧ FloatKind.f64.format.order a b = some .gt ∧ FloatKind.f64.format.order b a = some .lt) := by
 rcases ord_cases ha hb with ⟨h, o⟩ | ⟨h, o⟩ | ⟨h, o⟩
 ·exact .inl ⟨h, o, ord_gt hb ha h⟩
 ·exact .inr (.inl ⟨h, o, ord_eq hb ha h.symm⟩)
 ·exact .inr (.inr ⟨h, o, ord_lt hb ha h⟩)
theorem VV.bit_nums {V : VV} (h : V.isBit = true) : V.nums = V.packed.map flagW ∧ V.packed.length = V.len ∧ V.cls = 0 := by
 cases V <;> first | exact ⟨rfl, rfl, rfl⟩ | simp [VV.isBit] at h
end Go.Proofs.YtakbhiomhjmihaaDoor

/- Layer 11: One of the reference; known, allowed, holds, at, One of the program, walked. -/
namespace Go.Proofs.YtakbhiomhjmihaaDoor
set_option maxRecDepth 100000
open Go.RowKit Fl
set_option linter.unusedVariables false

end Go.Proofs.YtakbhiomhjmihaaDoor

/- Package relate, walked: spread, tableOf. -/
namespace Go.Proofs.YtakbhiomhjmihaaDoor
set_option maxRecDepth 100000
open Go.RowKit Fl
set_option linter.unusedVariables false

theorem at2_put {w : World} {b : Nat} {u v : Value} (h : At2 w b u v) (x y : Value) : At2 ((w.setCell ⟨b, 0, none⟩ x).setCell ⟨b, 1, none⟩ y) b x y := by
 have e1 : (w.setCell ⟨b, 0, none⟩ x).cell? ⟨b, 1, none⟩ = some v := (World.cell?_setCell_other _ _ _ _ (by simp)).trans h.2.2.1
 exact ⟨by simpa using h.1, (World.cell?_setCell_other _ _ _ _ (by simp)).trans (World.cell?_setCell_same _ _ _ h.2.1), World.cell?_setCell_same _ _ _ e1, fun o => by simpa using h.2.2.2 o⟩
theorem below_setc {w w2 : World} {b0 : Nat} (h : Below w.heap.size w w2) (hb : w.heap.size ≤ b0) (x y : Value) : Below w.heap.size w ((w2.setCell ⟨b0, 0, none⟩ x).setCell ⟨b0, 1, none⟩ y) := below_set2 x y h hb
end Go.Proofs.YtakbhiomhjmihaaDoor

/- Package relate, walked: ofEach of floats, of runes; ofFlags. -/
namespace Go.Proofs.YtakbhiomhjmihaaDoor
set_option maxRecDepth 100000
open Go.RowKit Fl
set_option linter.unusedVariables false

end Go.Proofs.YtakbhiomhjmihaaDoor

/- Package relate, walked: ofFlags. -/
namespace Go.Proofs.YtakbhiomhjmihaaDoor
set_option maxRecDepth 100000
open Go.RowKit Fl
set_option linter.unusedVariables false

theorem At2.ne {w : World} {b c : Nat} {u v : Value} (h : At2 w b u v) (hbc : b ≠ c) (x y : Value) : At2 ((w.setCell ⟨c, 0, none⟩ x).setCell ⟨c, 1, none⟩ y) b u v :=
 (h.grown (grown_setCell _ ⟨c, 0, none⟩ _) (by simpa using hbc)).grown (grown_setCell _ ⟨c, 1, none⟩ _) (by simpa using hbc)
end Go.Proofs.YtakbhiomhjmihaaDoor

/- Package relate, walked: related. -/
namespace Go.Proofs.YtakbhiomhjmihaaDoor
set_option maxRecDepth 100000
open Go.RowKit Fl
set_option linter.unusedVariables false

end Go.Proofs.YtakbhiomhjmihaaDoor

/- Package relate, walked: Apply. -/
namespace Go.Proofs.YtakbhiomhjmihaaDoor
set_option maxRecDepth 100000
open Go.RowKit Fl
set_option linter.unusedVariables false

theorem IsV.bits_set {w : World} {ok : Nat → Prop} {u : Value} {l : List Bool} (h : IsV w ok u (.bits l)) {p : Addr} {y : Value} (hp : w.cell? p = some y) (hy : IsIface y) (x : Value) : IsV (w.setCell p x) (fun _ => True) u (.bits l) := by
 cases h with
 | bits h hm =>
  refine IsV.wide (.bits (h.setn hp (fun z hz => ?_) x) hm) (fun _ _ _ => trivial)
  obtain ⟨n, _, rfl⟩ := List.mem_map.1 hz
  exact hy.ne_int _ _
end Go.Proofs.YtakbhiomhjmihaaDoor

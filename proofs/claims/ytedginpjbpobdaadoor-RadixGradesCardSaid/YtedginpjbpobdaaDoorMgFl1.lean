/- Merged: FlA, FlB, FlC, FlD, FlE, FlS, FlT, FlU, FlV, FlW, FlX, FlY, FlZ, FlM, FmA, FlN, FmB, FmC. -/
import Derived.Test.YtedginpjbpobdaaDoorMgVe1
import Derived.Test.YtedginpjbpobdaaDoorMgVa1
import Derived.Test.YtedginpjbpobdaaDoorMgBv1
import Derived.Test.YtedginpjbpobdaaDoorMgSh1
/- Package flat, walked: chosen, of numbers, characters and booleans. -/
namespace Go.Proofs.YtedginpjbpobdaaDoor
set_option maxRecDepth 100000
open Go.RowKit
set_option linter.unusedVariables false

end Go.Proofs.YtedginpjbpobdaaDoor

/- Package flat, walked: chosen, of boxes. -/
namespace Go.Proofs.YtedginpjbpobdaaDoor
set_option maxRecDepth 100000
open Go.RowKit
set_option linter.unusedVariables false

end Go.Proofs.YtedginpjbpobdaaDoor

/- Package flat, walked: Blank, clamp, selected, Pick. -/
namespace Go.Proofs.YtedginpjbpobdaaDoor
set_option maxRecDepth 100000
open Go.RowKit Fl
set_option linter.unusedVariables false

def blankA : List Int × VV := ([0], .bits [])

/-- Elements at some places. -/
noncomputable def VV.sel (V : VV) (at_ : List Int) : VV :=
  match V with
  | .bits l => .bits (at_.map (sqI l)) | .chars l => .chars (at_.map (atI l 32)) | .boxes l => .boxes (at_.map (atI l blankA))
  | V => (VV.floats (at_.map (atI V.nums 0))).sq
theorem VV.text_len {V : VV} (h : V.cls = 1) : V.text.length = V.len := by cases V <;> simp_all [VV.cls, VV.text, VV.len]
end Go.Proofs.YtedginpjbpobdaaDoor

/- Package flat, walked: selected, Pick. -/
namespace Go.Proofs.YtedginpjbpobdaaDoor
set_option maxRecDepth 100000
open Go.RowKit Fl
set_option linter.unusedVariables false

theorem VV.cls_cases (V : VV) : V.cls = 0 ∨ V.cls = 1 ∨ V.cls = 2 := by cases V <;> simp [VV.cls]
end Go.Proofs.YtedginpjbpobdaaDoor

/- Package flat, walked: Pick; the rules of places. -/
namespace Go.Proofs.YtedginpjbpobdaaDoor
set_option maxRecDepth 100000
open Go.RowKit Fl
set_option linter.unusedVariables false

end Go.Proofs.YtedginpjbpobdaaDoor

/- Package flat, walked: places. -/
namespace Go.Proofs.YtedginpjbpobdaaDoor
set_option maxRecDepth 100000
open Go.RowKit Fl
set_option linter.unusedVariables false

end Go.Proofs.YtedginpjbpobdaaDoor

/- Package flat, walked: Turn, Again, Cut. -/
namespace Go.Proofs.YtedginpjbpobdaaDoor
set_option maxRecDepth 100000
open Go.RowKit Fl
set_option linter.unusedVariables false

def cutL (x n : Nat) : List Int := (List.range n).map fun (i : Nat) => (x : Int) + (i : Int)
/-- A number brought between 0 and another one. -/
def cl8 (a : Int) (n : Nat) : Nat := (min (max a 0) (n : Int)).toNat
noncomputable def VV.cut (V : VV) (a b : Int) : VV := if V.isBit = true then .bits ((V.packed.take (cl8 b V.len)).drop (cl8 a V.len)) else V.sel (cutL (cl8 a V.len) (cl8 b V.len - cl8 a V.len))

end Go.Proofs.YtedginpjbpobdaaDoor

/- slices.Grow, slices.Concat of lists of numbers, of characters and of booleans. -/
namespace Go.Proofs.YtedginpjbpobdaaDoor
set_option maxRecDepth 100000
open Go.RowKit
set_option linter.unusedVariables false

/-- v is a slice of slices, those of L. -/
def RowsG {α : Type} (f : α → Value) (w : World) (ok : Nat → Prop) (v : Value) (L : List (List α)) : Prop :=
  ∃ ao cap, v = .slice ao L.length cap ∧ ∀ i (h : i < L.length), ∃ b off u, ao = some ⟨b, off, none⟩ ∧ w.cell? ⟨b, off + i, none⟩ = some u ∧ Slc w ok u L[i].length (L[i].map f)
theorem RowsG.below {α : Type} {f : α → Value} {w w' : World} {ok : Nat → Prop} {v : Value} {L : List (List α)} (h : RowsG f w ok v L) (hb : Below w.heap.size w w') : RowsG f w' ok v L := by
  obtain ⟨ao, cap, rfl, hc⟩ := h
  refine ⟨ao, cap, rfl, fun i hi => ?_⟩
  obtain ⟨b, off, u, e, h1, h2⟩ := hc i hi
  exact ⟨b, off, u, e, keep_below hb _ _ h1, h2.below hb⟩
end Go.Proofs.YtedginpjbpobdaaDoor

/- Package flat, walked: Join's parts: withElements, firstClass, commonKind, fit. -/
namespace Go.Proofs.YtedginpjbpobdaaDoor
set_option maxRecDepth 100000
open Go.RowKit Fl
set_option linter.unusedVariables false

/-- v is a slice of vectors: their values and what they hold. -/
def VecsZ (w : World) (ok : Nat → Prop) (v : Value) (Z : List (Value × VV)) : Prop := Slc w ok v Z.length (Z.map Prod.fst) ∧ ∀ p ∈ Z, IsV w ok p.1 p.2
theorem VecsZ.keep {w w' : World} {ok ok' : Nat → Prop} {v : Value} {Z : List (Value × VV)} (hk : Kept ok w w') (hm : ∀ b, b < w.heap.size → ok b → ok' b) (h : VecsZ w ok v Z) : VecsZ w' ok' v Z := ⟨h.1.keep hk hm, fun p hp => (h.2 p hp).keep hk hm⟩
theorem VecsZ.go {w w' : World} {ok : Nat → Prop} {v : Value} {Z : List (Value × VV)} (h : VecsZ w ok v Z) (hB : Below w.heap.size w w') : Hid (VecsZ w' ok v Z) := Lib.hid (h.keep (Kept.below hB) (fun _ _ h => h))
theorem IsV.one {w : World} {ok : Nat → Prop} {u : Value} {V : VV} (h : IsV w ok u V) : u.oneCell' = true := by
  rcases h.shape with rfl | ⟨t, x, rfl⟩ <;> rfl
theorem VecsZ.at {w : World} {ok : Nat → Prop} {ao : Option Addr} {n cap : Nat} {Z : List (Value × VV)} (h : VecsZ w ok (.slice ao n cap) Z) {k : Nat} (hk : k < Z.length) :
    ∃ b off p, ao = some ⟨b, off, none⟩ ∧ Z[k]? = some p ∧ w.cell? ⟨b, off + k, none⟩ = some p.1 ∧ IsV w ok p.1 p.2 := by
  obtain ⟨ao', cap', e, _, _, _, hc⟩ := h.1.opened
  cases e
  obtain ⟨b, off, e, _, hcell⟩ := hc k (by simpa using hk)
  refine ⟨b, off, Z[k], e, List.getElem?_eq_getElem hk, by simpa using hcell, h.2 _ (List.getElem_mem hk)⟩
end Go.Proofs.YtedginpjbpobdaaDoor

/- Package flat, walked: Join's parts: firstClass, commonKind, fit. -/
namespace Go.Proofs.YtedginpjbpobdaaDoor
set_option maxRecDepth 100000
open Go.RowKit Fl
set_option linter.unusedVariables false

end Go.Proofs.YtedginpjbpobdaaDoor

/- Package flat, walked: flags, joined. -/
namespace Go.Proofs.YtedginpjbpobdaaDoor
set_option maxRecDepth 100000
open Go.RowKit Fl
set_option linter.unusedVariables false

end Go.Proofs.YtedginpjbpobdaaDoor

/- slices.Grow, slices.Concat of lists of arrays. -/
namespace Go.Proofs.YtedginpjbpobdaaDoor
set_option maxRecDepth 100000
open Go.RowKit Fl
set_option linter.unusedVariables false

def flatP (P : List (Value × Value)) : List Value := P.flatMap fun p => [p.1, p.2]
theorem flatP_len (P : List (Value × Value)) : (flatP P).length = P.length * 2 := by
  induction P with
  | nil => rfl
  | cons t L ih => simp only [flatP, List.flatMap_cons, List.length_append] at ih ⊢; rw [ih]; simp; omega
theorem flatP_at {P : List (Value × Value)} {i : Nat} {p : Value × Value} (h : P[i]? = some p) : (flatP P)[i * 2]? = some p.1 ∧ (flatP P)[i * 2 + 1]? = some p.2 := by
  obtain ⟨hk, e⟩ := List.getElem?_eq_some_iff.1 h
  have hl : P = P.take i ++ ([p] ++ P.drop (i + 1)) := by rw [← e]; simp
  have hlen : (flatP (P.take i)).length = i * 2 := by rw [flatP_len, List.length_take]; omega
  have hf : flatP P = flatP (P.take i) ++ ([p.1, p.2] ++ flatP (P.drop (i + 1))) := by
    conv => lhs; rw [hl]
    simp [flatP]
  rw [hf]
  exact ⟨by rw [List.getElem?_append_right (by omega), hlen]; simp, by rw [List.getElem?_append_right (by omega), hlen, Nat.add_sub_cancel_left]; rfl⟩
theorem flatP_get {P : List (Value × Value)} {j : Nat} {u : Value} (h : (flatP P)[j]? = some u) : ∃ p, P[j / 2]? = some p ∧ u = if j % 2 = 0 then p.1 else p.2 := by
  have hj := (List.getElem?_eq_some_iff.1 h).1
  rw [flatP_len] at hj
  have hk : j / 2 < P.length := by omega
  refine ⟨P[j / 2], List.getElem?_eq_getElem hk, ?_⟩
  obtain ⟨h0, h1⟩ := flatP_at (List.getElem?_eq_getElem hk)
  by_cases e : j % 2 = 0
  · rw [if_pos e]
    rw [show j / 2 * 2 = j by omega, h] at h0
    exact Option.some.inj h0
  · rw [if_neg e]
    rw [show j / 2 * 2 + 1 = j by omega, h] at h1
    exact Option.some.inj h1
/-- P are the cells of the arrays l. -/
def PairsOK (w : World) (ok : Nat → Prop) (P : List (Value × Value)) (l : List (List Int × VV)) : Prop :=
  P.length = l.length ∧ ∀ (i : Nat) p q, P[i]? = some p → l[i]? = some q → IsArr w ok p.1 p.2 q
/-- The cells of a slice of arrays that is not empty. -/
theorem Arrs.cells {w : World} {ok : Nat → Prop} {v : Value} {l : List (List Int × VV)} (h : Arrs w ok v l) (hl : 0 < l.length) :
    ∃ ad cap P, v = .slice (some ad) l.length cap ∧ PairsOK w ok P l ∧ (flatP P).length = l.length * 2 ∧ (∀ j u, (flatP P)[j]? = some u → w.cell? (ad.add j) = some u) ∧ (∀ u ∈ flatP P, u.oneCell' = true) := by
  obtain ⟨ao, cap, f, g, rfl, h1, h2, hc, hs, hv⟩ := h
  obtain ⟨b, off, rfl, _, _, _⟩ := hc 0 hl
  have hok : PairsOK w ok ((List.range l.length).map fun i => (f i, g i)) l := by
    refine ⟨by simp, fun i p q hp hq => ?_⟩
    obtain ⟨hi, e⟩ := List.getElem?_eq_some_iff.1 hq
    rw [List.getElem?_map, List.getElem?_range hi] at hp
    obtain rfl := Option.some.inj hp
    rw [← e]
    exact ⟨hs i hi, hv i hi⟩
  have hsome : ∀ j u, (flatP ((List.range l.length).map fun i => (f i, g i)))[j]? = some u → ∃ i, i < l.length ∧ i = j / 2 ∧ u = if j % 2 = 0 then f i else g i := by
    intro j u hu
    obtain ⟨p, hp, e⟩ := flatP_get hu
    have hi := (List.getElem?_eq_some_iff.1 hp).1
    have hi : j / 2 < l.length := by simpa using hi
    rw [List.getElem?_map, List.getElem?_range hi] at hp
    obtain rfl := Option.some.inj hp
    exact ⟨j / 2, hi, rfl, e⟩
  refine ⟨⟨b, off, none⟩, cap, _, rfl, hok, by rw [flatP_len]; simp, fun j u hu => ?_, fun u hu => ?_⟩
  · obtain ⟨i, hi, e, rfl⟩ := hsome j u hu
    obtain ⟨b', off', e2, _, c0, c1⟩ := hc i hi
    cases e2
    rw [Go.WideShapes.add_plain]
    by_cases hj : j % 2 = 0
    · rw [if_pos hj, show off + j = off + i * 2 by omega]; exact c0
    · rw [if_neg hj, show off + j = off + i * 2 + 1 by omega]; exact c1
  · obtain ⟨j, hj⟩ := List.getElem?_of_mem hu
    obtain ⟨i, hi, e, rfl⟩ := hsome j u hj
    by_cases hj : j % 2 = 0
    · rw [if_pos hj]; obtain ⟨o, c, e, _⟩ := (hs i hi).opened; rw [e]; rfl
    · rw [if_neg hj]; exact (hv i hi).one
def RowsA (w : World) (ok : Nat → Prop) (v : Value) (L : List (List (List Int × VV))) : Prop :=
  ∃ ao cap, v = .slice ao L.length cap ∧ ∀ i (h : i < L.length), ∃ b off u, ao = some ⟨b, off, none⟩ ∧ w.cell? ⟨b, off + i, none⟩ = some u ∧ Arrs w ok u L[i]
theorem RowsA.keep {w w' : World} {ok ok' : Nat → Prop} {v : Value} {L : List (List (List Int × VV))} (hb : Below w.heap.size w w') (hm : ∀ b, b < w.heap.size → ok b → ok' b) (h : RowsA w ok v L) : RowsA w' ok' v L := by
  obtain ⟨ao, cap, rfl, hc⟩ := h
  refine ⟨ao, cap, rfl, fun i hi => ?_⟩
  obtain ⟨b, off, u, e, h1, h2⟩ := hc i hi
  exact ⟨b, off, u, e, keep_below hb _ _ h1, h2.keep (Kept.below hb) hm⟩

end Go.Proofs.YtedginpjbpobdaaDoor

/- Package flat, walked: joined, of arrays. -/
namespace Go.Proofs.YtedginpjbpobdaaDoor
set_option maxRecDepth 100000
open Go.RowKit Fl
set_option linter.unusedVariables false

end Go.Proofs.YtedginpjbpobdaaDoor

/- Elements at some places, as items: plain. -/
namespace Go.Proofs.YtedginpjbpobdaaDoor
set_option maxRecDepth 100000
open Go.RowKit Fl
set_option linter.unusedVariables false

def gV (d : Nat) (V : VV) : Prop := V.ok ∧ V.nm ∧ V.kind = V.least ∧ ∀ a ∈ V.boxs, gA d a
/-- The items of a vector. -/
def itsA (d : Nat) (V : VV) : List PI := (List.range V.len).map (itA (plA d) V)
theorem itsA_len (d : Nat) (V : VV) : (itsA d V).length = V.len := by simp [itsA]
theorem gA_gV {d : Nat} {A : List Int × VV} (h : gA (d + 1) A) : gV d A.2 := ⟨h.2.1, h.2.2.1, h.2.2.2.1, h.2.2.2.2⟩
theorem VV.nums_length {V : VV} (h : V.cls = 0) : V.nums.length = V.len := by cases V <;> simp_all [VV.cls, VV.nums, VV.len]
/-- Of a good plain array. -/
theorem its_arrP {d : Nat} {p : PA} (h : chk (d + 1) p = 0) : itsA d (arrP (d + 1) p).2 = (tidyP (d + 1) p).l := by
  have e := plA_arrP (d + 1) p h
  have : (plA (d + 1) (arrP (d + 1) p)).l = (tidyP (d + 1) p).l := by rw [e]
  exact this
end Go.Proofs.YtedginpjbpobdaaDoor

/- Package flat, walked: Join. -/
namespace Go.Proofs.YtedginpjbpobdaaDoor
set_option maxRecDepth 100000
open Go.RowKit Fl
set_option linter.unusedVariables false

end Go.Proofs.YtedginpjbpobdaaDoor

/- The reference of layer 8: Blank, Pick. -/
namespace Go.Proofs.YtedginpjbpobdaaDoor
set_option maxRecDepth 100000
open Go.RowKit Fl
set_option linter.unusedVariables false

/-- A row of items in the making. -/
def OutRel (w0 : World) (ok : Nat → Prop) (k : Nat) (v : Value) (L : List QI) (l : List PI) (wr : World) : Prop :=
  wr.ownsRow w0.heap.size 66 4 v k (flatI L) ∧ Quad wr (fun b => ok b ∧ v.ownBlock ≠ some b) L l ∧ Below w0.heap.size w0 wr
theorem OutRel.start (w0 : World) (ok : Nat → Prop) : OutRel w0 ok 0 (.slice none 0 0) [] [] w0 := ⟨World.ownsRow_nil _ _ _ _, Quad.nil _ _, Below.refl _ _⟩
theorem OutRel.step {w0 wr W4 w5 : World} {ok : Nat → Prop} {k : Nat} {v v' bx : Value} {L : List QI} {l : List PI} {x : PI} (h : OutRel w0 ok k v L l wr) (hr4 : Below wr.heap.size wr W4)
    (hx : IsB W4 (fun b => ok b ∧ v.ownBlock ≠ some b) bx x.2.2.2)
    (hown : w5.ownsRow w0.heap.size 66 4 v' (k + 1) (flatI L ++ quadV (x.1, x.2.1, x.2.2.1, bx))) (hg : W4.grownBy w5 v.ownBlock)
    (hk : ∀ j, v'.ownBlock = some j → v.ownBlock = some j ∨ W4.heap.size ≤ j) : OutRel w0 ok (k + 1) v' (L ++ [(x.1, x.2.1, x.2.2.1, bx)]) (l ++ [x]) w5 := by
  obtain ⟨h1, h2, h7⟩ := h
  have hq : Quad W4 (fun b => ok b ∧ v.ownBlock ≠ some b) (L ++ [(x.1, x.2.1, x.2.2.1, bx)]) (l ++ [x]) := (h2.keep (Kept.below hr4) (fun _ _ h => h)).snoc hx
  refine ⟨by rw [flatI_snoc]; exact hown, ?_, ?_⟩
  · refine Quad.keep (w := W4) (ok := fun b => ok b ∧ v.ownBlock ≠ some b) (Kept.grown hg (fun b hb e => hb.2 e.symm)) (fun b hb ho => ⟨ho.1, fun e => ?_⟩) hq
    rcases hk b e with e2 | e2
    · exact ho.2 e2
    · omega
  · exact (h7.trans (hr4.mono h7.size)).grown hg (by have := hr4.size; have := h7.size; omega) (fun j hj => (h1.lt j hj).1)
theorem OutRel.its {w0 wr : World} {ok : Nat → Prop} {k : Nat} {v : Value} {L : List QI} {l : List PI} (h : OutRel w0 ok k v L l wr) : Its wr (fun b => ok b ∨ w0.heap.size ≤ b) v l :=
  Its.of_own (ok := ok) h.1 (h.2.1.keep (Kept.refl _ _) (fun b _ h => h.1))

end Go.Proofs.YtedginpjbpobdaaDoor

/- The reference of layer 8: Again, Turn. -/
namespace Go.Proofs.YtedginpjbpobdaaDoor
set_option maxRecDepth 100000
open Go.RowKit Fl
set_option linter.unusedVariables false

end Go.Proofs.YtedginpjbpobdaaDoor

/- What flat's functions make, as items: plain. -/
namespace Go.Proofs.YtedginpjbpobdaaDoor
set_option maxRecDepth 100000
open Go.RowKit Fl
set_option linter.unusedVariables false

theorem its_num {d : Nat} {V : VV} (h : V.cls = 0) : itsA d V = V.nums.map fun x => (0, x, 0, []) := by
  unfold itsA
  rw [← VV.nums_length h]
  exact map_range_eq fun i x hx => by unfold itA; rw [if_neg (by omega), if_neg (by omega), atI_some hx]
theorem its_chr {d : Nat} {V : VV} (h : V.cls = 1) : itsA d V = V.text.map fun x => (1, 0, x, []) := by
  unfold itsA
  rw [← VV.text_len h]
  exact map_range_eq fun i x hx => by unfold itA; rw [if_pos h, atI_some hx]
end Go.Proofs.YtedginpjbpobdaaDoor

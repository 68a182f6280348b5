/- Merged: BvM, BvN, BvA, Fr, BvB, BvI, BvJ, BvL, BvO, BvK, Ap, BvP, BvD. -/
import Derived.Lib.BitFns
import Derived.Lib.TrailingZeros
import Derived.Test.YtkgjemglmgdanaaGreatDoorRows
import Derived.WalkKit
import Derived.WalkSpells
import Derived.WalkLawsBesides
import Derived.Lib.Hide
import Derived.Laws.BitsAllLaws
import Derived.Laws.Bits64b
import Derived.Laws.Bits128
import Derived.ProofKit
import Derived.OpenShut
import Derived.SliceStrings
import Derived.Deep.QuietTactic
import Derived.BigQuiet
import Derived.StillTailTactics
import Derived.Deep.RegionWith
import Derived.Deep.LoopGhost
import Derived.Lib.SliceRun
import Derived.Deep.RegionLaw
/- Words of booleans: plain mathematics, no program. -/
namespace Go.Proofs.YtkgjemglmgdanaaGreatDoor

/-! ## Booleans packed -/
def packL : List Bool → Nat
  | [] => 0
  | b :: l => b.toNat + 2 * packL l
/-- Word i of a sequence of booleans. -/
def bw (F : Nat → Bool) (i : Nat) : Nat := packL ((List.range 64).map fun j => F (64 * i + j))
/-- Boolean k of a list; false, where there is none. -/
def sq (l : List Bool) (k : Nat) : Bool := l[k]?.getD false
/-- W words of a sequence. -/
def bws (F : Nat → Bool) (W : Nat) : List Nat := (List.range W).map (bw F)
theorem bws_get (F : Nat → Bool) (W i : Nat) (h : i < (bws F W).length) : (bws F W)[i] = bw F i := by simp [bws]
/-- The words of a list. -/
def words (l : List Bool) : List Nat := bws (sq l) ((l.length + 63) / 64)
end Go.Proofs.YtkgjemglmgdanaaGreatDoor

/- The number of ones of a word, summed by pairs, fours, bytes: plain mathematics. -/
namespace Go.Proofs.YtkgjemglmgdanaaGreatDoor
set_option linter.unusedVariables false

def p1 (a : Nat) : Nat := ((a / 2) &&& 85) + (a &&& 85)
def p2 (a : Nat) : Nat := ((a / 4) &&& 51) + (a &&& 51)
theorem p3 : ∀ (a : Fin 256) (b : Fin 5), (p2 (p1 a.val) / 16 + 16 * b.val + p2 (p1 a.val)) &&& 15 = Lib.popAux 8 a.val := by decide +kernel
end Go.Proofs.YtkgjemglmgdanaaGreatDoor

/- Package bitvec: functions of plain numbers; the library's counts of bits. -/
namespace Go.Proofs.YtkgjemglmgdanaaGreatDoor
open Go.RowKit
set_option linter.unusedVariables false

/-- The table in its variable. -/
def TabAt (w : World) : Prop := ∀ j, j < 64 → w.cell? ⟨1, j, none⟩ = some (.int .u8 (Lib.deBruijn64tab.getD j 0))
end Go.Proofs.YtkgjemglmgdanaaGreatDoor

/- Rows of cells as lists, and how an argument that is a slice of one-cell elements is opened. -/
namespace Go.Proofs.YtkgjemglmgdanaaGreatDoor
open Go.ChangeShapes Go.WideShapes Go.RowKit

/-- v is a slice whose elements are xs, one cell each. -/
def Row (w : World) (v : Value) (xs : List Value) : Prop :=
  (∃ ao cap, xs = [] ∧ v = .slice ao 0 cap) ∨ ∃ b off cap : Nat, 0 < xs.length ∧ v = .slice (some ⟨b, off, none⟩) xs.length cap ∧ ∀ i (h : i < xs.length), w.cell? ⟨b, off + i, none⟩ = some xs[i]

/-- .. and its capacity is no less than its length. -/
def RowC (w : World) (v : Value) (xs : List Value) : Prop := Row w v xs ∧ ∃ ao cap, v = .slice ao xs.length cap ∧ xs.length ≤ cap ∧ cap ≤ maxLen
theorem Row.keep {w w' : World} {v : Value} {xs : List Value} (hk : ∀ a v, w.cell? a = some v → w'.cell? a = some v) (h : Row w v xs) : Row w' v xs := by
  rcases h with h | ⟨b, off, cap, h0, h1, h2⟩
  · exact .inl h
  · exact .inr ⟨b, off, cap, h0, h1, fun i hi => hk _ _ (h2 i hi)⟩

section
variable {H : Type} {enc : TypeId × Value → H} {P : Program} {w : World} {base : Nat} {spare : Nat → Bool} {held : Bool}

theorem open_row {t e : TypeId} {fuel : Nat} {cs : List Value} {x : DataW H × List MemPlace} (ht : P.underlying t = some (.slice e)) (hc : P.cellsOf e = 1) (Q : Value → Prop)
    (hQ : ∀ n cs y, DataW.trod enc P w base spare held n e cs = some y → ∃ u, cs = [u] ∧ Q u)
    (h : DataW.trod enc P w base spare held fuel t cs = some x) : ∃ v xs, cs = [v] ∧ RowC w v xs ∧ (∀ u ∈ xs, Q u) ∧ xs.length ≤ maxLen := by
  rcases DataW.trod_slice ht h with ⟨h0, _⟩ | ⟨a, len, cap, elems, rest, n, _, rfl, rfl, hb, hl, hm, hlen, hel, hsp, hns⟩
  · exact ⟨_, [], h0, ⟨.inl ⟨_, _, rfl, rfl⟩, _, _, rfl, by simp, by simp⟩, by simp, by simp⟩
  rcases Nat.eq_zero_or_pos len with h0 | hpos
  · subst h0
    exact ⟨_, [], rfl, ⟨.inl ⟨_, _, rfl, rfl⟩, _, _, rfl, by simp, hm⟩, by simp, by simp⟩
  have each : ∀ i, i < len → ∃ u, w.cell? (a.add i) = some u ∧ Q u := by
    intro i hi
    have h1 := hel i hi
    rw [hc, Nat.mul_one] at h1
    have hlt : i < elems.length := by omega
    rw [List.getElem?_eq_getElem hlt] at h1
    obtain ⟨cs', hcs, hy'⟩ := Option.bind_eq_some_iff.1 h1
    obtain ⟨u, rfl, hq⟩ := hQ _ _ _ hy'
    exact ⟨u, cell_of_cells?_one hcs, hq⟩
  obtain ⟨b, off, spot⟩ := a
  obtain ⟨u0, hu0, _⟩ := each 0 hpos
  have hspot : spot = none := by simpa [Addr.add] using World.cell?_spot hu0
  subst hspot
  have hlm : len ≤ maxLen := by omega
  refine ⟨_, (List.range len).map fun i => (w.cell? ⟨b, off + i, none⟩).getD undef, rfl, ⟨.inr ⟨b, off, cap, by simpa using hpos, by simp, fun i hi => ?_⟩, _, cap, by simp; rfl, ?_, hm⟩, fun u hu => ?_, by simpa using hlm⟩
  · have hi' : i < len := by simpa using hi
    obtain ⟨u, hu, _⟩ := each i hi'
    rw [Go.WideShapes.add_plain] at hu
    simp [hu]
  · simpa using hl
  · obtain ⟨i, hi, rfl⟩ := List.mem_map.1 hu
    obtain ⟨u, hu, hq⟩ := each i (by simpa using hi)
    rw [Go.WideShapes.add_plain] at hu
    simpa [hu] using hq

theorem elem_int {e : TypeId} {k : IntKind} (he : P.underlying e = some (.int k)) : ∀ n cs y, DataW.trod enc P w base spare held n e cs = some y → ∃ u, cs = [u] ∧ ∃ z, u = .int k z ∧ (Lit.int k z).wf = true :=
  fun _ _ _ h => by obtain ⟨z, h1, _, h3⟩ := DataW.trod_int he h; exact ⟨_, h1, z, rfl, h3⟩
theorem trod_float1 {e : TypeId} {k : FloatKind} {fuel : Nat} {cs : List Value} {x : DataW H × List MemPlace} (ht : P.underlying e = some (.float k)) (h : DataW.trod enc P w base spare held fuel e cs = some x) : ∃ b, cs = [.float k b] ∧ (Lit.float k b).wf = true := by
  cases fuel with
  | zero => simp [DataW.trod] at h
  | succ n =>
    unfold DataW.trod at h
    rw [ht] at h
    split at h <;> simp_all
theorem elem_float {e : TypeId} {k : FloatKind} (he : P.underlying e = some (.float k)) : ∀ n cs y, DataW.trod enc P w base spare held n e cs = some y → ∃ u, cs = [u] ∧ ∃ z, u = .float k z ∧ (Lit.float k z).wf = true :=
  fun _ _ _ h => by obtain ⟨z, h1, h3⟩ := trod_float1 he h; exact ⟨_, h1, z, rfl, h3⟩
end

/-- A list of values of one make is the image of a list. -/
theorem list_of {α : Type} (f : α → Value) (R : α → Prop) : ∀ xs : List Value, (∀ u ∈ xs, ∃ z, u = f z ∧ R z) → ∃ zs : List α, xs = zs.map f ∧ ∀ z ∈ zs, R z
  | [], _ => ⟨[], rfl, by simp⟩
  | x :: xs, h => by
    obtain ⟨z, rfl, hz⟩ := h x List.mem_cons_self
    obtain ⟨zs, rfl, hzs⟩ := list_of f R xs (fun u hu => h u (List.mem_cons_of_mem _ hu))
    exact ⟨z :: zs, rfl, fun y hy => by
      rcases List.mem_cons.1 hy with rfl | hy
      · exact hz
      · exact hzs y hy⟩
end Go.Proofs.YtkgjemglmgdanaaGreatDoor

/- Slices read and owned; package bitvec: blank, trim. -/
namespace Go.Proofs.YtkgjemglmgdanaaGreatDoor
open Go.RowKit
set_option linter.unusedVariables false

theorem keep_below {w w' : World} (h : Below w.heap.size w w') : ∀ a v, w.cell? a = some v → w'.cell? a = some v := fun a _ hv => (h.cell (p := a) (World.block_lt_of_cell? w _ hv)).trans hv
/-- s is a slice of n elements, those of xs. -/
def Sl (w : World) (s : Value) (n : Nat) (xs : List Value) : Prop :=
  xs.length = n ∧ ∃ ao cap, s = .slice ao n cap ∧ ∀ i (h : i < xs.length), ∃ b off, ao = some ⟨b, off, none⟩ ∧ w.cell? ⟨b, off + i, none⟩ = some xs[i]
theorem Sl.keep {w w' : World} {s : Value} {n : Nat} {xs : List Value} (hk : ∀ a v, w.cell? a = some v → w'.cell? a = some v) (h : Sl w s n xs) : Sl w' s n xs := by
  obtain ⟨h1, ao, cap, h2, h3⟩ := h
  exact ⟨h1, ao, cap, h2, fun i hi => by obtain ⟨b, off, e, hc⟩ := h3 i hi; exact ⟨b, off, e, hk _ _ hc⟩⟩
theorem Row.sl {w : World} {v : Value} {xs : List Value} (h : Row w v xs) : Sl w v xs.length xs := by
  rcases h with ⟨ao, cap, rfl, rfl⟩ | ⟨b, off, cap, h0, rfl, hc⟩
  · exact ⟨rfl, ao, cap, rfl, fun i hi => absurd hi (by simp)⟩
  · exact ⟨rfl, _, cap, rfl, fun i hi => ⟨b, off, rfl, hc i hi⟩⟩
theorem Sl.owned {w : World} {base : Nat} {e : TypeId} {v : Value} {n : Nat} {xs : List Value} (h : w.ownsRow base e 1 v n xs) : Sl w v n xs := by
  have hl : xs.length = n := by simpa using h.1
  rcases h.2 with ⟨rfl, rfl⟩ | ⟨g, cap, cur, rfl, hb, hg, hnc, hcm, hcs, htake⟩
  · exact ⟨hl, none, 0, rfl, fun i hi => absurd hi (by omega)⟩
  · refine ⟨hl, _, cap, rfl, fun i hi => ⟨g, 0, rfl, ?_⟩⟩
    rw [Nat.zero_add, h.cellAt i (by omega), List.getElem?_eq_getElem hi]

def u64s (ws : List Nat) : List Value := ws.map fun z : Nat => Value.int .u64 (z : Int)
def ints (l : List Int) : List Value := l.map (Value.int .i64)
theorem u64s_len (ws : List Nat) : (u64s ws).length = ws.length := by simp [u64s]
theorem ints_len (l : List Int) : (ints l).length = l.length := by simp [ints]
theorem u64s_get (ws : List Nat) (i : Nat) (h : i < (u64s ws).length) : (u64s ws)[i] = .int .u64 ((ws[i]'(by simpa [u64s] using h) : Nat) : Int) := by simp [u64s]
theorem ints_get (l : List Int) (i : Nat) (h : i < (ints l).length) : (ints l)[i] = .int .i64 (l[i]'(by simpa [ints] using h)) := by simp [ints]

/-- v is a bit vector of the booleans l. -/
def IsBits (w : World) (v : Value) (l : List Bool) : Prop := ∃ s, v = .agg #[.int .i64 (l.length : Int), s] ∧ Sl w s ((l.length + 63) / 64) (u64s (words l))
theorem IsBits.keep {w w' : World} {v : Value} {l : List Bool} (hk : ∀ a v, w.cell? a = some v → w'.cell? a = some v) (h : IsBits w v l) : IsBits w' v l := by
  obtain ⟨s, h1, h2⟩ := h
  exact ⟨s, h1, h2.keep hk⟩
/-- .. opened: its slice's value, and each word's cell. -/
theorem IsBits.opened {w : World} {v : Value} {l : List Bool} (h : IsBits w v l) :
    ∃ ao cap, v = .agg #[.int .i64 (l.length : Int), .slice ao ((l.length + 63) / 64 : Nat) cap] ∧ ∀ i, i < (l.length + 63) / 64 → ∃ b off, ao = some ⟨b, off, none⟩ ∧ w.cell? ⟨b, off + i, none⟩ = some (.int .u64 (bw (sq l) i : Nat)) := by
  obtain ⟨s, rfl, hl, ao, cap, rfl, hc⟩ := h
  refine ⟨ao, cap, rfl, fun i hi => ?_⟩
  have hi' : i < (u64s (words l)).length := by rw [hl]; exact hi
  obtain ⟨b, off, e, hcell⟩ := hc i hi'
  refine ⟨b, off, e, ?_⟩
  rw [hcell, u64s_get]
  have : (words l)[i]'(by simpa [u64s] using hi') = bw (sq l) i := bws_get _ _ _ _
  rw [this]

/-- A slice at the head of block g, its row the call's own. -/
def Own (w : World) (base g n : Nat) (ws : List Nat) : Prop := w.ownsRow base 106 1 (.slice (some ⟨g, 0, none⟩) n n) n (u64s ws)
theorem Own.len {w : World} {base g n : Nat} {ws : List Nat} (h : Own w base g n ws) : ws.length = n := by simpa [u64s] using h.1
theorem Own.cell {w : World} {base g n : Nat} {ws : List Nat} (h : Own w base g n ws) (i : Nat) (hi : i < n) : w.cell? ⟨g, i, none⟩ = some (.int .u64 ((ws[i]'(by rw [h.len]; exact hi) : Nat) : Int)) := by
  have hl := h.len
  rw [World.ownsRow.cellAt h i (by omega), List.getElem?_eq_getElem (by rw [u64s_len, hl]; exact hi), u64s_get]
theorem Own.keep {w w' : World} {base g n : Nat} {ws : List Nat} (h : Own w base g n ws) {row : Option Nat} (hg : w.grownBy w' row) (hne : row ≠ some g) : Own w' base g n ws :=
  World.ownsRow.kept h hg (.inr (fun e => hne e.symm))
theorem Own.alloc {w : World} {base g n : Nat} {ws : List Nat} (h : Own w base g n ws) (o : Obj) : Own (w.alloc o) base g n ws := World.ownsRow.alloc h o
theorem Own.below {w w' : World} {base g n : Nat} {ws : List Nat} (h : Own w base g n ws) (hb : Below w.heap.size w w') : Own w' base g n ws :=
  World.ownsRow.kept (row := none) h ⟨hb.os, hb.tape, hb.output, hb.size, fun k hk _ => hb.block k hk⟩ (.inr (by simp [Value.ownBlock]))
theorem grown_frozen {w w' : World} {row : Option Nat} (hg : w.grownBy w' row) {a : Addr} (hl : a.block < w.heap.size) (hne : some a.block ≠ row) : w'.frozen? a = w.frozen? a :=
  World.frozen?_of_block (hg.block a.block hl hne)
/-- A block of two cells, known, not frozen. -/
def At2 (w : World) (b : Nat) (x y : Value) : Prop := b < w.heap.size ∧ w.cell? ⟨b, 0, none⟩ = some x ∧ w.cell? ⟨b, 1, none⟩ = some y ∧ ∀ o, w.frozen? ⟨b, o, none⟩ = false
theorem At2.new (w : World) (x y : Value) (t : TypeId) : At2 (w.alloc (.cells #[x, y] t)) w.heap.size x y := ⟨by simp, by simp, by simp, fun o => by simp⟩
theorem At2.grown {w w' : World} {b : Nat} {x y : Value} (h : At2 w b x y) {row : Option Nat} (hg : w.grownBy w' row) (hne : some b ≠ row) : At2 w' b x y :=
  ⟨Nat.lt_of_lt_of_le h.1 hg.size, hg.cell h.2.1 hne, hg.cell h.2.2.1 hne, fun o => (grown_frozen hg h.1 hne).trans (h.2.2.2 o)⟩
theorem At2.below {w w' : World} {b : Nat} {x y : Value} (h : At2 w b x y) (hb : Below w.heap.size w w') : At2 w' b x y :=
  ⟨Nat.lt_of_lt_of_le h.1 hb.size, keep_below hb _ _ h.2.1, keep_below hb _ _ h.2.2.1, fun o => (hb.frozen (p := ⟨b, o, none⟩) h.1).trans (h.2.2.2 o)⟩
theorem At2.alloc {w : World} {b : Nat} {x y : Value} (h : At2 w b x y) (o : Obj) : At2 (w.alloc o) b x y := h.grown (row := none) (World.grownBy_alloc w o none) (by simp)
theorem Sl.grown {w w' : World} {s : Value} {n : Nat} {xs : List Value} (h : Sl w s n xs) {g : Nat} (hg : w.grownBy w' (some g)) (hb : ∀ ao, s.ownBlock = some ao → ao ≠ g) : Sl w' s n xs := by
  obtain ⟨h1, ao, cap, rfl, h3⟩ := h
  exact ⟨h1, ao, cap, rfl, fun i hi => by
    obtain ⟨b, off, rfl, hc⟩ := h3 i hi
    exact ⟨b, off, rfl, hg.cell hc (fun e => hb b rfl (Option.some.inj e))⟩⟩

/-- s is a slice of n elements, those of xs, its cells in blocks that ok allows. -/
def Slx (w : World) (ok : Nat → Prop) (s : Value) (n : Nat) (xs : List Value) : Prop :=
  xs.length = n ∧ ∃ ao cap, s = .slice ao n cap ∧ ∀ i (h : i < xs.length), ∃ b off, ao = some ⟨b, off, Option.none⟩ ∧ ok b ∧ w.cell? ⟨b, off + i, Option.none⟩ = some xs[i]
/-- .. and its capacity is no less than its length. -/
def Slc (w : World) (ok : Nat → Prop) (s : Value) (n : Nat) (xs : List Value) : Prop :=
  Slx w ok s n xs ∧ ∃ ao cap, s = .slice ao n cap ∧ n ≤ cap ∧ cap ≤ maxLen
/-- Worlds in which what lies in blocks that ok allows is as it was. -/
def Kept (ok : Nat → Prop) (w w' : World) : Prop := ∀ a v, ok a.block → w.cell? a = some v → w'.cell? a = some v
theorem Slx.keep {w w' : World} {ok ok' : Nat → Prop} {s : Value} {n : Nat} {xs : List Value} (hk : Kept ok w w') (hm : ∀ b, b < w.heap.size → ok b → ok' b) (h : Slx w ok s n xs) : Slx w' ok' s n xs := by
  obtain ⟨h1, ao, cap, h2, h3⟩ := h
  refine ⟨h1, ao, cap, h2, fun i hi => ?_⟩
  obtain ⟨b, off, e, hb, hc⟩ := h3 i hi
  exact ⟨b, off, e, hm b (World.block_lt_of_cell? w _ hc) hb, hk _ _ hb hc⟩
theorem Slc.keep {w w' : World} {ok ok' : Nat → Prop} {s : Value} {n : Nat} {xs : List Value} (hk : Kept ok w w') (hm : ∀ b, b < w.heap.size → ok b → ok' b) (h : Slc w ok s n xs) : Slc w' ok' s n xs := ⟨h.1.keep hk hm, h.2⟩
theorem Slx.sl {w : World} {ok : Nat → Prop} {s : Value} {n : Nat} {xs : List Value} (h : Slx w ok s n xs) : Sl w s n xs := by
  obtain ⟨h1, ao, cap, h2, h3⟩ := h
  exact ⟨h1, ao, cap, h2, fun i hi => by obtain ⟨b, off, e, _, hc⟩ := h3 i hi; exact ⟨b, off, e, hc⟩⟩
theorem Slx.of_sl {w : World} {s : Value} {n : Nat} {xs : List Value} (h : Sl w s n xs) : Slx w (fun _ => True) s n xs := by
  obtain ⟨h1, ao, cap, h2, h3⟩ := h
  exact ⟨h1, ao, cap, h2, fun i hi => by obtain ⟨b, off, e, hc⟩ := h3 i hi; exact ⟨b, off, e, trivial, hc⟩⟩
theorem Slx.owned {w : World} {base : Nat} {e : TypeId} {v : Value} {n : Nat} {xs : List Value} (h : w.ownsRow base e 1 v n xs) : Slx w (fun b => base ≤ b) v n xs := by
  have hl : xs.length = n := by simpa using h.1
  rcases h.2 with ⟨rfl, rfl⟩ | ⟨g, cap, cur, rfl, hb, hg, hnc, hcm, hcs, htake⟩
  · exact ⟨hl, Option.none, 0, rfl, fun i hi => absurd hi (by omega)⟩
  · refine ⟨hl, _, cap, rfl, fun i hi => ⟨g, 0, rfl, hb, ?_⟩⟩
    rw [Nat.zero_add, h.cellAt i (by omega), List.getElem?_eq_getElem hi]
theorem Slc.owned {w : World} {base : Nat} {e : TypeId} {v : Value} {n : Nat} {xs : List Value} (h : w.ownsRow base e 1 v n xs) : Slc w (fun b => base ≤ b) v n xs := by
  refine ⟨Slx.owned h, ?_⟩
  rcases h.2 with ⟨rfl, rfl⟩ | ⟨g, cap, cur, rfl, hb, hg, hnc, hcm, hcs, htake⟩
  · exact ⟨_, _, rfl, Nat.le_refl _, by unfold maxLen; omega⟩
  · exact ⟨_, _, rfl, hnc, hcm⟩
theorem RowC.slc {w : World} {v : Value} {xs : List Value} (h : RowC w v xs) : Slc w (fun _ => True) v xs.length xs := ⟨Slx.of_sl h.1.sl, by obtain ⟨ao, cap, e, h1, h2⟩ := h.2; exact ⟨ao, cap, e, h1, h2⟩⟩
theorem Slc.nil (w : World) (ok : Nat → Prop) : Slc w ok (.slice Option.none 0 0) 0 [] := ⟨⟨rfl, _, _, rfl, fun i hi => absurd hi (by simp)⟩, _, _, rfl, Nat.le_refl _, by unfold maxLen; omega⟩
theorem Slx.len {w : World} {ok : Nat → Prop} {s : Value} {n : Nat} {xs : List Value} (h : Slx w ok s n xs) : xs.length = n := h.1
theorem Slc.opened {w : World} {ok : Nat → Prop} {s : Value} {n : Nat} {xs : List Value} (h : Slc w ok s n xs) : ∃ ao cap, s = .slice ao n cap ∧ n ≤ cap ∧ cap ≤ maxLen ∧ xs.length = n ∧ ∀ i (h : i < xs.length), ∃ b off, ao = some ⟨b, off, Option.none⟩ ∧ ok b ∧ w.cell? ⟨b, off + i, Option.none⟩ = some xs[i] := by
  obtain ⟨⟨h1, ao, cap, rfl, h3⟩, ao', cap', e, h4, h5⟩ := h
  cases e
  exact ⟨ao, cap, rfl, h4, h5, h1, h3⟩
theorem Kept.all {ok : Nat → Prop} {w w' : World} (h : ∀ a v, w.cell? a = some v → w'.cell? a = some v) : Kept ok w w' := fun a v _ => h a v
theorem Kept.below {ok : Nat → Prop} {w w' : World} (h : Below w.heap.size w w') : Kept ok w w' := Kept.all (keep_below h)
theorem Kept.refl (ok : Nat → Prop) (w : World) : Kept ok w w := fun _ _ _ h => h
theorem Kept.trans {ok : Nat → Prop} {w w1 w2 : World} (h : Kept ok w w1) (k : Kept ok w1 w2) : Kept ok w w2 := fun a v o hv => k a v o (h a v o hv)
theorem Slc.below {w w' : World} {ok : Nat → Prop} {s : Value} {n : Nat} {xs : List Value} (h : Slc w ok s n xs) (hb : Below w.heap.size w w') : Slc w' ok s n xs := h.keep (Kept.below hb) (fun _ _ h => h)
theorem Slc.any {w : World} {ok : Nat → Prop} {s : Value} {n : Nat} {xs : List Value} (h : Slc w ok s n xs) : Slc w (fun _ => True) s n xs := h.keep (Kept.refl _ _) (fun _ _ _ => trivial)
/-- Booleans, and the blocks that they may lie in. -/
def IsBitsX (w : World) (ok : Nat → Prop) (v : Value) (l : List Bool) : Prop := ∃ s, v = .agg #[.int .i64 (l.length : Int), s] ∧ Slx w ok s ((l.length + 63) / 64) (u64s (words l))
theorem IsBitsX.bits {w : World} {ok : Nat → Prop} {v : Value} {l : List Bool} (h : IsBitsX w ok v l) : IsBits w v l := by
  obtain ⟨s, h1, h2⟩ := h
  exact ⟨s, h1, h2.sl⟩
theorem IsBitsX.keep {w w' : World} {ok ok' : Nat → Prop} {v : Value} {l : List Bool} (hk : Kept ok w w') (hm : ∀ b, b < w.heap.size → ok b → ok' b) (h : IsBitsX w ok v l) : IsBitsX w' ok' v l := by
  obtain ⟨s, h1, h2⟩ := h
  exact ⟨s, h1, h2.keep hk hm⟩
end Go.Proofs.YtkgjemglmgdanaaGreatDoor

/- Package bitvec: Len, At, Words, Tidy; slices.Clone. -/
namespace Go.Proofs.YtkgjemglmgdanaaGreatDoor
open Go.RowKit
set_option linter.unusedVariables false

end Go.Proofs.YtkgjemglmgdanaaGreatDoor

/- Package bitvec: Rank, Count, First. -/
namespace Go.Proofs.YtkgjemglmgdanaaGreatDoor
open Go.RowKit
set_option linter.unusedVariables false

end Go.Proofs.YtkgjemglmgdanaaGreatDoor

/- The reference of layer 2: Into, Truth, Ones. -/
namespace Go.Proofs.YtkgjemglmgdanaaGreatDoor
open Go.RowKit
set_option linter.unusedVariables false

/-- A number brought between two. -/
def into (n least most : Int) : Int := if n < least then least else if most < n then most else n
end Go.Proofs.YtkgjemglmgdanaaGreatDoor

/- Package bitvec: Ones. -/
namespace Go.Proofs.YtkgjemglmgdanaaGreatDoor
open Go.RowKit
set_option linter.unusedVariables false

end Go.Proofs.YtkgjemglmgdanaaGreatDoor

/- Two slices compared: slices.Equal, the references' Bools, Nums, Ints; bitvec.Equal. -/
namespace Go.Proofs.YtkgjemglmgdanaaGreatDoor
open Go.RowKit
set_option linter.unusedVariables false

end Go.Proofs.YtkgjemglmgdanaaGreatDoor

/- append to a slice of the call's own: the block that it lies in afterwards is the old one, or new. -/
namespace Go.Proofs.YtkgjemglmgdanaaGreatDoor
open Go.RowKit
set_option linter.unusedVariables false

section
variable {P : Program}
end
section
variable {P : Program}
end
end Go.Proofs.YtkgjemglmgdanaaGreatDoor

/- Package bitvec: Unpack. -/
namespace Go.Proofs.YtkgjemglmgdanaaGreatDoor
open Go.RowKit
set_option linter.unusedVariables false

end Go.Proofs.YtkgjemglmgdanaaGreatDoor

/- Package bitvec: Pack. -/
namespace Go.Proofs.YtkgjemglmgdanaaGreatDoor
open Go.RowKit
set_option linter.unusedVariables false

end Go.Proofs.YtkgjemglmgdanaaGreatDoor

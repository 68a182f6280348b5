/- Merged: VaA, VaC, VaM, VaD, VaE, VaG, VaH, VaI, VaJ, VaK, VaN, VaO, VaP, VaF, VaQ, VaR, VaU, VaV, VaS, VaW, VaB, VaX. -/
import Derived.Deep.Slices
import Derived.Deep.Fields
import Derived.ChangeSame
import Derived.Deep.LoopGhost
import Derived.OpenShut
import Derived.Test.YtkgjemglmgdanaaGreatDoorMgVe1
import Derived.Test.YtkgjemglmgdanaaGreatDoorMgNu1
import Derived.Test.YtkgjemglmgdanaaGreatDoorMgSh1
import Derived.Test.YtkgjemglmgdanaaGreatDoorMgBv1
import Derived.Test.YtkgjemglmgdanaaGreatDoorMgSq1
/- Plain arrays: what they are, and what they are in memory; how an argument that is one is opened. -/
namespace Go.Proofs.YtkgjemglmgdanaaGreatDoor
open Go.RowKit Go.ChangeShapes Go.WideShapes
set_option linter.unusedVariables false

/-- A plain array: its shape, its items (kind, number, character, box), its class. -/
inductive PA where
  | mk (s : List Int) (l : List (Int × Nat × Int × List PA)) (f : Int)
abbrev PI := Int × Nat × Int × List PA
def PA.s : PA → List Int | .mk s _ _ => s
def PA.l : PA → List PI | .mk _ l _ => l
def PA.f : PA → Int | .mk _ _ f => f
instance : Inhabited PA := ⟨.mk [] [] 0⟩
/-- Boxes lie in one another at most d deep; floats are words. -/
def lo : Nat → PA → Prop
  | 0, _ => False
  | d + 1, p => ∀ x ∈ p.l, x.2.1 < 18446744073709551616 ∧ ∀ q ∈ x.2.2.2, lo d q
theorem lo_mono {d : Nat} : ∀ {p : PA}, lo d p → ∀ {e : Nat}, d ≤ e → lo e p := by
  induction d with
  | zero => intro p h; exact h.elim
  | succ d ih =>
    intro p h e he
    obtain ⟨e, rfl⟩ : ∃ e', e = e' + 1 := ⟨e - 1, by omega⟩
    exact fun x hx => ⟨(h x hx).1, fun q hq => ih ((h x hx).2 q hq) (by omega)⟩

/-- u is the plain array p. -/
inductive IsP (w : World) (ok : Nat → Prop) : Value → PA → Prop
  | mk {sh : Value} {s : List Int} {l : List PI} {f : Int} {ao : Option Addr} {cap : Nat} (bo : Nat → Option Addr) (bc : Nat → Nat) (X Y Z : Nat → Nat → Value)
      (hs : Slc w ok sh s.length (ints s)) (h1 : l.length ≤ cap) (h2 : cap ≤ maxLen)
      (hi : ∀ i x, l[i]? = some x → ∃ b off, ao = some ⟨b, off, Option.none⟩ ∧ ok b ∧ w.cell? ⟨b, off + i * 4, Option.none⟩ = some (.int .i64 x.1) ∧ w.cell? ⟨b, off + i * 4 + 1, Option.none⟩ = some (.float .f64 x.2.1) ∧
        w.cell? ⟨b, off + i * 4 + 2, Option.none⟩ = some (.int .i32 x.2.2.1) ∧ w.cell? ⟨b, off + i * 4 + 3, Option.none⟩ = some (.slice (bo i) x.2.2.2.length (bc i)))
      (hb : ∀ i x, l[i]? = some x → x.2.2.2.length ≤ bc i ∧ bc i ≤ maxLen)
      (hc : ∀ i x, l[i]? = some x → ∀ k, k < x.2.2.2.length → ∃ b off, bo i = some ⟨b, off, Option.none⟩ ∧ ok b ∧ w.cell? ⟨b, off + k * 3, Option.none⟩ = some (X i k) ∧ w.cell? ⟨b, off + k * 3 + 1, Option.none⟩ = some (Y i k) ∧ w.cell? ⟨b, off + k * 3 + 2, Option.none⟩ = some (Z i k))
      (hp : ∀ i x, l[i]? = some x → ∀ k q, x.2.2.2[k]? = some q → IsP w ok (.agg #[X i k, Y i k, Z i k]) q) :
      IsP w ok (.agg #[sh, .slice ao l.length cap, .int .i64 f]) (.mk s l f)

/-- v is a list of plain arrays. -/
def IsB (w : World) (ok : Nat → Prop) (v : Value) (q : List PA) : Prop :=
  ∃ (ao : Option Addr) (cap : Nat) (X Y Z : Nat → Value), v = .slice ao q.length cap ∧ q.length ≤ cap ∧ cap ≤ maxLen ∧
    (∀ k, k < q.length → ∃ b off, ao = some ⟨b, off, Option.none⟩ ∧ ok b ∧ w.cell? ⟨b, off + k * 3, Option.none⟩ = some (X k) ∧ w.cell? ⟨b, off + k * 3 + 1, Option.none⟩ = some (Y k) ∧ w.cell? ⟨b, off + k * 3 + 2, Option.none⟩ = some (Z k)) ∧
    ∀ k p, q[k]? = some p → IsP w ok (.agg #[X k, Y k, Z k]) p
/-- v is a list of items. -/
def Its (w : World) (ok : Nat → Prop) (v : Value) (l : List PI) : Prop :=
  ∃ (ao : Option Addr) (cap : Nat) (B : Nat → Value), v = .slice ao l.length cap ∧ l.length ≤ cap ∧ cap ≤ maxLen ∧
    (∀ i x, l[i]? = some x → ∃ b off, ao = some ⟨b, off, Option.none⟩ ∧ ok b ∧ w.cell? ⟨b, off + i * 4, Option.none⟩ = some (.int .i64 x.1) ∧ w.cell? ⟨b, off + i * 4 + 1, Option.none⟩ = some (.float .f64 x.2.1) ∧
        w.cell? ⟨b, off + i * 4 + 2, Option.none⟩ = some (.int .i32 x.2.2.1) ∧ w.cell? ⟨b, off + i * 4 + 3, Option.none⟩ = some (B i)) ∧
    ∀ i x, l[i]? = some x → IsB w ok (B i) x.2.2.2
theorem IsP.keep {w w' : World} {ok ok' : Nat → Prop} {u : Value} {p : PA} (hk : Kept ok w w') (hm : ∀ b, b < w.heap.size → ok b → ok' b) (h : IsP w ok u p) : IsP w' ok' u p := by
  induction h with
  | mk bo bc X Y Z hs h1 h2 hi hb hc hp ih =>
    refine .mk bo bc X Y Z (hs.keep hk hm) h1 h2 (fun i x hx => ?_) hb (fun i x hx k hkk => ?_) ih
    · obtain ⟨b, off, e, hb, c0, c1, c2, c3⟩ := hi i x hx
      exact ⟨b, off, e, hm b (World.block_lt_of_cell? w _ c0) hb, hk _ _ hb c0, hk _ _ hb c1, hk _ _ hb c2, hk _ _ hb c3⟩
    · obtain ⟨b, off, e, hb, c0, c1, c2⟩ := hc i x hx k hkk
      exact ⟨b, off, e, hm b (World.block_lt_of_cell? w _ c0) hb, hk _ _ hb c0, hk _ _ hb c1, hk _ _ hb c2⟩
theorem IsB.keep {w w' : World} {ok ok' : Nat → Prop} {u : Value} {q : List PA} (hk : Kept ok w w') (hm : ∀ b, b < w.heap.size → ok b → ok' b) (h : IsB w ok u q) : IsB w' ok' u q := by
  obtain ⟨ao, cap, X, Y, Z, e, h1, h2, hc, hp⟩ := h
  refine ⟨ao, cap, X, Y, Z, e, h1, h2, fun k hkk => ?_, fun k p hx => (hp k p hx).keep hk hm⟩
  obtain ⟨b, off, e, hb, c0, c1, c2⟩ := hc k hkk
  exact ⟨b, off, e, hm b (World.block_lt_of_cell? w _ c0) hb, hk _ _ hb c0, hk _ _ hb c1, hk _ _ hb c2⟩
theorem Its.keep {w w' : World} {ok ok' : Nat → Prop} {u : Value} {l : List PI} (hk : Kept ok w w') (hm : ∀ b, b < w.heap.size → ok b → ok' b) (h : Its w ok u l) : Its w' ok' u l := by
  obtain ⟨ao, cap, B, e, h1, h2, hc, hp⟩ := h
  refine ⟨ao, cap, B, e, h1, h2, fun i x hx => ?_, fun k p hx => (hp k p hx).keep hk hm⟩
  obtain ⟨b, off, e, hb, c0, c1, c2, c3⟩ := hc i x hx
  exact ⟨b, off, e, hm b (World.block_lt_of_cell? w _ c0) hb, hk _ _ hb c0, hk _ _ hb c1, hk _ _ hb c2, hk _ _ hb c3⟩
theorem IsP.wide {w : World} {ok ok' : Nat → Prop} {u : Value} {p : PA} (h : IsP w ok u p) (hm : ∀ b, b < w.heap.size → ok b → ok' b) : IsP w ok' u p := h.keep (Kept.refl _ _) hm
theorem IsB.wide {w : World} {ok ok' : Nat → Prop} {u : Value} {p : List PA} (h : IsB w ok u p) (hm : ∀ b, b < w.heap.size → ok b → ok' b) : IsB w ok' u p := h.keep (Kept.refl _ _) hm
theorem Its.wide {w : World} {ok ok' : Nat → Prop} {u : Value} {p : List PI} (h : Its w ok u p) (hm : ∀ b, b < w.heap.size → ok b → ok' b) : Its w ok' u p := h.keep (Kept.refl _ _) hm
/-- A plain array opened. -/
theorem IsP.opened {w : World} {ok : Nat → Prop} {u : Value} {p : PA} (h : IsP w ok u p) :
    ∃ so sc io ic, u = .agg #[.slice so p.s.length sc, .slice io p.l.length ic, .int .i64 p.f] ∧ Slc w ok (.slice so p.s.length sc) p.s.length (ints p.s) ∧ Its w ok (.slice io p.l.length ic) p.l := by
  cases h with
  | @mk sh s l f ao cap bo bc X Y Z hs h1 h2 hi hb hc hp =>
    obtain ⟨so, sc, rfl, _⟩ := hs.opened
    refine ⟨so, sc, ao, cap, rfl, hs, ao, cap, fun i => .slice (bo i) ((l[i]?.map (fun x => x.2.2.2.length)).getD 0) (bc i), rfl, h1, h2, fun i x hx => ?_, fun i x hx => ?_⟩
    · have hx : l[i]? = some x := hx
      obtain ⟨b, off, e, hb, c0, c1, c2, c3⟩ := hi i x hx
      exact ⟨b, off, e, hb, c0, c1, c2, by simp only [c3, hx]; rfl⟩
    · have hx : l[i]? = some x := hx
      refine ⟨bo i, bc i, X i, Y i, Z i, by simp only [hx]; rfl, (hb i x hx).1, (hb i x hx).2, hc i x hx, hp i x hx⟩
theorem IsP.of {w : World} {ok : Nat → Prop} {sh it : Value} {s : List Int} {l : List PI} {f : Int} (hs : Slc w ok sh s.length (ints s)) (hi : Its w ok it l) : IsP w ok (.agg #[sh, it, .int .i64 f]) (.mk s l f) := by
  classical
  obtain ⟨ao, cap, B, rfl, h1, h2, hc, hp⟩ := hi
  have hB : ∀ i, ∃ (t : Option Addr × Nat × (Nat → Value) × (Nat → Value) × (Nat → Value)), ∀ x, l[i]? = some x → B i = .slice t.1 x.2.2.2.length t.2.1 ∧ x.2.2.2.length ≤ t.2.1 ∧ t.2.1 ≤ maxLen ∧
      (∀ k, k < x.2.2.2.length → ∃ b off, t.1 = some ⟨b, off, Option.none⟩ ∧ ok b ∧ w.cell? ⟨b, off + k * 3, Option.none⟩ = some (t.2.2.1 k) ∧ w.cell? ⟨b, off + k * 3 + 1, Option.none⟩ = some (t.2.2.2.1 k) ∧ w.cell? ⟨b, off + k * 3 + 2, Option.none⟩ = some (t.2.2.2.2 k)) ∧
      ∀ k p, x.2.2.2[k]? = some p → IsP w ok (.agg #[t.2.2.1 k, t.2.2.2.1 k, t.2.2.2.2 k]) p := by
    intro i
    cases hx : l[i]? with
    | none => exact ⟨(Option.none, 0, fun _ => undef, fun _ => undef, fun _ => undef), fun x h => by cases h⟩
    | some x =>
      obtain ⟨bo, bc, X, Y, Z, e, a1, a2, a3, a4⟩ := hp i x hx
      exact ⟨(bo, bc, X, Y, Z), fun y hy => by cases hy; exact ⟨e, a1, a2, a3, a4⟩⟩
  have T := fun i => Classical.choose_spec (hB i)
  refine .mk (fun i => (Classical.choose (hB i)).1) (fun i => (Classical.choose (hB i)).2.1) (fun i => (Classical.choose (hB i)).2.2.1) (fun i => (Classical.choose (hB i)).2.2.2.1) (fun i => (Classical.choose (hB i)).2.2.2.2) hs h1 h2 (fun i x hx => ?_) (fun i x hx => ⟨(T i x hx).2.1, (T i x hx).2.2.1⟩) (fun i x hx => (T i x hx).2.2.2.1) (fun i x hx => (T i x hx).2.2.2.2)
  obtain ⟨b, off, e, hb, c0, c1, c2, c3⟩ := hc i x hx
  exact ⟨b, off, e, hb, c0, c1, c2, c3.trans (congrArg some (T i x hx).1)⟩
/-- An item of a list. -/
theorem Its.at {w : World} {ok : Nat → Prop} {ao : Option Addr} {n cap : Nat} {l : List PI} {i : Nat} {x : PI} (h : Its w ok (.slice ao n cap) l) (hx : l[i]? = some x) :
    ∃ b off bo bc, ao = some ⟨b, off, Option.none⟩ ∧ ok b ∧ w.cell? ⟨b, off + i * 4, Option.none⟩ = some (.int .i64 x.1) ∧ w.cell? ⟨b, off + i * 4 + 1, Option.none⟩ = some (.float .f64 x.2.1) ∧
        w.cell? ⟨b, off + i * 4 + 2, Option.none⟩ = some (.int .i32 x.2.2.1) ∧ w.cell? ⟨b, off + i * 4 + 3, Option.none⟩ = some (.slice bo x.2.2.2.length bc) ∧ IsB w ok (.slice bo x.2.2.2.length bc) x.2.2.2 := by
  obtain ⟨ao', cap', B, e, h1, h2, hc, hp⟩ := h
  cases e
  obtain ⟨b, off, e, hb, c0, c1, c2, c3⟩ := hc i x hx
  have hB := hp i x hx
  obtain ⟨bo, bc, X, Y, Z, e2, _⟩ := id hB
  rw [e2] at c3 hB
  exact ⟨b, off, bo, bc, e, hb, c0, c1, c2, c3, hB⟩
/-- A plain array of a list. -/
theorem IsB.at {w : World} {ok : Nat → Prop} {ao : Option Addr} {n cap : Nat} {q : List PA} {k : Nat} {p : PA} (h : IsB w ok (.slice ao n cap) q) (hx : q[k]? = some p) :
    ∃ b off so sc io ic, ao = some ⟨b, off, Option.none⟩ ∧ ok b ∧ w.cell? ⟨b, off + k * 3, Option.none⟩ = some (.slice so p.s.length sc) ∧ w.cell? ⟨b, off + k * 3 + 1, Option.none⟩ = some (.slice io p.l.length ic) ∧
        w.cell? ⟨b, off + k * 3 + 2, Option.none⟩ = some (.int .i64 p.f) ∧ IsP w ok (.agg #[.slice so p.s.length sc, .slice io p.l.length ic, .int .i64 p.f]) p := by
  obtain ⟨ao', cap', X, Y, Z, e, h1, h2, hc, hp⟩ := h
  cases e
  obtain ⟨b, off, e, hb, c0, c1, c2⟩ := hc k (List.getElem?_eq_some_iff.1 hx).1
  have hP := hp k p hx
  obtain ⟨so, sc, io, ic, e2, _⟩ := hP.opened
  rw [e2] at hP
  simp only [Value.agg.injEq, Array.mk.injEq, List.cons.injEq, and_true] at e2
  obtain ⟨e3, e4, e5⟩ := e2
  rw [e3] at c0; rw [e4] at c1; rw [e5] at c2
  exact ⟨b, off, so, sc, io, ic, e, hb, c0, c1, c2, hP⟩
theorem Its.len {w : World} {ok : Nat → Prop} {v : Value} {l : List PI} (h : Its w ok v l) : ∃ ao cap, v = .slice ao l.length cap ∧ l.length ≤ cap ∧ cap ≤ maxLen := by
  obtain ⟨ao, cap, B, e, h1, h2, _⟩ := h; exact ⟨ao, cap, e, h1, h2⟩
theorem IsB.len {w : World} {ok : Nat → Prop} {v : Value} {q : List PA} (h : IsB w ok v q) : ∃ ao cap, v = .slice ao q.length cap ∧ q.length ≤ cap ∧ cap ≤ maxLen := by
  obtain ⟨ao, cap, X, Y, Z, e, h1, h2, _⟩ := h; exact ⟨ao, cap, e, h1, h2⟩
theorem Its.nil (w : World) (ok : Nat → Prop) : Its w ok (.slice Option.none 0 0) [] := ⟨_, _, fun _ => undef, rfl, Nat.le_refl _, by unfold maxLen; omega, fun i x h => by simp at h, fun i x h => by simp at h⟩
theorem IsB.nil (w : World) (ok : Nat → Prop) : IsB w ok (.slice Option.none 0 0) [] := ⟨_, _, fun _ => undef, fun _ => undef, fun _ => undef, rfl, Nat.le_refl _, by unfold maxLen; omega, fun i h => absurd h (by simp), fun i x h => by simp at h⟩
theorem IsP.nil (w : World) (ok : Nat → Prop) : IsP w ok (.agg #[.slice Option.none 0 0, .slice Option.none 0 0, .int .i64 0]) (.mk [] [] 0) := IsP.of (Slc.nil _ _) (Its.nil _ _)
end Go.Proofs.YtkgjemglmgdanaaGreatDoor

/- Plain arrays, the document's functions walked: Count. -/
namespace Go.Proofs.YtkgjemglmgdanaaGreatDoor
open Go.RowKit
set_option linter.unusedVariables false
set_option maxRecDepth 8000

/-- A block of three cells. -/
def At3 (w : World) (b : Nat) (x y z : Value) : Prop := b < w.heap.size ∧ w.cell? ⟨b, 0, none⟩ = some x ∧ w.cell? ⟨b, 1, none⟩ = some y ∧ w.cell? ⟨b, 2, none⟩ = some z ∧ ∀ o, w.frozen? ⟨b, o, none⟩ = false
theorem At3.new (w : World) (x y z : Value) (t : TypeId) : At3 (w.alloc (.cells #[x, y, z] t)) w.heap.size x y z := ⟨by simp, by simp, by simp, by simp, fun o => by simp⟩
theorem At3.below {w w' : World} {b : Nat} {x y z : Value} (h : At3 w b x y z) (hb : Below w.heap.size w w') : At3 w' b x y z :=
  ⟨Nat.lt_of_lt_of_le h.1 hb.size, keep_below hb _ _ h.2.1, keep_below hb _ _ h.2.2.1, keep_below hb _ _ h.2.2.2.1, fun o => by rw [← h.2.2.2.2 o]; exact hb.frozen (p := ⟨b, o, none⟩) h.1⟩

end Go.Proofs.YtkgjemglmgdanaaGreatDoor

/- Plain arrays, plain: what is wrong with one; tidied; its depth. -/
namespace Go.Proofs.YtkgjemglmgdanaaGreatDoor
open Fl
set_option linter.unusedVariables false

def hd (q : List PA) : PA := q[0]?.getD default
instance instDecFnt7 (x : Nat) : Decidable (Fnt x) := by unfold Fnt; infer_instance
end Go.Proofs.YtkgjemglmgdanaaGreatDoor

/- Plain arrays, the document's functions walked: check, Check. -/
namespace Go.Proofs.YtkgjemglmgdanaaGreatDoor
open Go.RowKit Fl
set_option linter.unusedVariables false
set_option maxRecDepth 8000
def IntIs (n : Int) (w : World) (e : Ending) (w' : World) : Prop := e = .returned (.int .i64 n) ∧ Below w.heap.size w w'
theorem IntIs.mk {n m : Int} {w w' : World} (h : m = n) (hb : Below w.heap.size w w') : IntIs n w (.returned (.int .i64 m)) w' := ⟨by rw [h], hb⟩

/-- A block of four cells. -/
def Blk4 (w : World) (b : Nat) (x y z t : Value) : Prop := b < w.heap.size ∧ w.cell? ⟨b, 0, none⟩ = some x ∧ w.cell? ⟨b, 1, none⟩ = some y ∧ w.cell? ⟨b, 2, none⟩ = some z ∧ w.cell? ⟨b, 3, none⟩ = some t ∧ ∀ o, w.frozen? ⟨b, o, none⟩ = false
theorem Blk4.new (w : World) (x y z u : Value) (t : TypeId) : Blk4 (w.alloc (.cells #[x, y, z, u] t)) w.heap.size x y z u := ⟨by simp, by simp, by simp, by simp, by simp, fun o => by simp⟩
theorem Blk4.below {w w' : World} {b : Nat} {x y z t : Value} (h : Blk4 w b x y z t) (hb : Below w.heap.size w w') : Blk4 w' b x y z t :=
  ⟨Nat.lt_of_lt_of_le h.1 hb.size, keep_below hb _ _ h.2.1, keep_below hb _ _ h.2.2.1, keep_below hb _ _ h.2.2.2.1, keep_below hb _ _ h.2.2.2.2.1, fun o => by rw [← h.2.2.2.2.2 o]; exact hb.frozen (p := ⟨b, o, none⟩) h.1⟩

end Go.Proofs.YtkgjemglmgdanaaGreatDoor

/- Plain arrays, the document's functions walked: Ints, Item, Same. -/
namespace Go.Proofs.YtkgjemglmgdanaaGreatDoor
open Go.RowKit Fl
set_option linter.unusedVariables false
set_option maxRecDepth 8000

def BoolIs (b : Bool) (w : World) (e : Ending) (w' : World) : Prop := e = .returned (.bool b) ∧ Below w.heap.size w w'
theorem BoolIs.mk {n m : Bool} {w w' : World} (h : m = n) (hb : Below w.heap.size w w') : BoolIs n w (.returned (.bool m)) w' := ⟨by rw [h], hb⟩
end Go.Proofs.YtkgjemglmgdanaaGreatDoor

/- Rows of items that a call makes itself. -/
namespace Go.Proofs.YtkgjemglmgdanaaGreatDoor
open Go.RowKit Fl
set_option linter.unusedVariables false
set_option maxRecDepth 8000

abbrev QI := Int × Nat × Int × Value
/-- L are the cells of the items l. -/
def Quad (w : World) (ok : Nat → Prop) (L : List QI) (l : List PI) : Prop :=
  L.length = l.length ∧ ∀ (i : Nat) (x : PI), l[i]? = some x → ∃ v, L[i]? = some (x.1, x.2.1, x.2.2.1, v) ∧ IsB w ok v x.2.2.2
theorem Quad.nil (w : World) (ok : Nat → Prop) : Quad w ok [] [] := ⟨rfl, fun i x h => by simp at h⟩
theorem Quad.keep {w w' : World} {ok ok' : Nat → Prop} {L : List QI} {l : List PI} (hk : Kept ok w w') (hm : ∀ b, b < w.heap.size → ok b → ok' b) (h : Quad w ok L l) : Quad w' ok' L l :=
  ⟨h.1, fun i x hx => by obtain ⟨v, h1, h2⟩ := h.2 i x hx; exact ⟨v, h1, h2.keep hk hm⟩⟩
theorem At3.grown {w w' : World} {b : Nat} {x y z : Value} (h : At3 w b x y z) {row : Option Nat} (hg : w.grownBy w' row) (hne : some b ≠ row) : At3 w' b x y z := by
  obtain ⟨h0, h1, h2, h3, h4⟩ := h
  exact ⟨Nat.lt_of_lt_of_le h0 hg.size, hg.cell h1 hne, hg.cell h2 hne, hg.cell h3 hne, fun o => by rw [← h4 o]; exact grown_frozen hg h0 hne⟩
end Go.Proofs.YtkgjemglmgdanaaGreatDoor

/- Plain arrays, the document's functions walked: Tidy. -/
namespace Go.Proofs.YtkgjemglmgdanaaGreatDoor
open Go.RowKit Fl
set_option linter.unusedVariables false
set_option maxRecDepth 8000

theorem Kept.grown {ok : Nat → Prop} {w w' : World} {row : Option Nat} (h : w.grownBy w' row) (hne : ∀ b, ok b → some b ≠ row) : Kept ok w w' := fun a v o hv => h.cell hv (hne _ o)
end Go.Proofs.YtkgjemglmgdanaaGreatDoor

/- Package value, walked: numbers, letters. -/
namespace Go.Proofs.YtkgjemglmgdanaaGreatDoor
open Go.RowKit Fl
set_option linter.unusedVariables false
set_option maxRecDepth 8000

/-- A vector, or why there is none. -/
def VecOr (c : Int) (V : VV) (w : World) (e : Ending) (w' : World) : Prop := ∃ u, e = .returned (.tuple #[.agg #[u], .int .i64 c]) ∧ (c = 0 → IsV w' (fun b => w.heap.size ≤ b) u V) ∧ (c ≠ 0 → u = .nilIface) ∧ Below w.heap.size w w'
theorem VecOr.no {c : Int} {V : VV} {w w' : World} (hc : c ≠ 0) (hb : Below w.heap.size w w') : VecOr c V w (.returned (.tuple #[.agg #[.nilIface], .int .i64 c])) w' := ⟨_, rfl, fun h => absurd h hc, fun _ => rfl, hb⟩
end Go.Proofs.YtkgjemglmgdanaaGreatDoor

/- Package value, walked: boxes. -/
namespace Go.Proofs.YtkgjemglmgdanaaGreatDoor
open Go.RowKit Fl
set_option linter.unusedVariables false
set_option maxRecDepth 8000

/-- An array, or why there is none. -/
def ArrOr (c : Int) (A : List Int × VV) (w : World) (e : Ending) (w' : World) : Prop := ∃ sh u, e = .returned (.tuple #[.agg #[sh, u], .int .i64 c]) ∧ (c = 0 → IsArr w' (fun b => w.heap.size ≤ b) sh u A) ∧ (c ≠ 0 → sh = .slice none 0 0 ∧ u = .nilIface) ∧ Below w.heap.size w w'
theorem ArrOr.no {c : Int} {A : List Int × VV} {w w' : World} (hc : c ≠ 0) (hb : Below w.heap.size w w') : ArrOr c A w (.returned (.tuple #[.agg #[.slice none 0 0, .nilIface], .int .i64 c])) w' := ⟨_, _, rfl, fun h => absurd h hc, fun _ => ⟨rfl, rfl⟩, hb⟩
theorem IsArr.keep {w w' : World} {ok ok' : Nat → Prop} {sh u : Value} {p : List Int × VV} (hk : Kept ok w w') (hm : ∀ b, b < w.heap.size → ok b → ok' b) (h : IsArr w ok sh u p) : IsArr w' ok' sh u p := ⟨h.1.keep hk hm, h.2.keep hk hm⟩
theorem IsArr.wide {w : World} {ok ok' : Nat → Prop} {sh u : Value} {p : List Int × VV} (h : IsArr w ok sh u p) (hm : ∀ b, b < w.heap.size → ok b → ok' b) : IsArr w ok' sh u p := h.keep (Kept.refl _ _) hm
end Go.Proofs.YtkgjemglmgdanaaGreatDoor

/- Package value, walked: elements, ofWithin, Of. -/
namespace Go.Proofs.YtkgjemglmgdanaaGreatDoor
open Go.RowKit Fl
set_option linter.unusedVariables false
set_option maxRecDepth 8000

end Go.Proofs.YtkgjemglmgdanaaGreatDoor

/- Package value, walked: goodWithin, Good. -/
namespace Go.Proofs.YtkgjemglmgdanaaGreatDoor
open Go.RowKit Fl
set_option linter.unusedVariables false
set_option maxRecDepth 8000

theorem Arrs.at {w : World} {ok : Nat → Prop} {ao : Option Addr} {n cap k : Nat} {l : List (List Int × VV)} {p : List Int × VV} (h : Arrs w ok (.slice ao n cap) l) (hx : l[k]? = some p) :
    ∃ b off so sc u, ao = some ⟨b, off, none⟩ ∧ ok b ∧ w.cell? ⟨b, off + k * 2, none⟩ = some (.slice so p.1.length sc) ∧ w.cell? ⟨b, off + k * 2 + 1, none⟩ = some u ∧ IsArr w ok (.slice so p.1.length sc) u p := by
  obtain ⟨ao', cap', f, g, e, h1, h2, hc, hs, hv⟩ := h
  cases e
  obtain ⟨hk, e⟩ := List.getElem?_eq_some_iff.1 hx
  obtain ⟨b, off, e2, hb, c0, c1⟩ := hc k hk
  have h3 := hs k hk
  have h4 := hv k hk
  rw [e] at h3 h4
  obtain ⟨so, sc, e3, _⟩ := h3.opened
  rw [e3] at h3 c0
  exact ⟨b, off, so, sc, g k, e2, hb, c0, c1, h3, h4⟩
theorem Arrs.len {w : World} {ok : Nat → Prop} {v : Value} {l : List (List Int × VV)} (h : Arrs w ok v l) : ∃ ao cap, v = .slice ao l.length cap ∧ l.length ≤ cap ∧ cap ≤ maxLen := by
  obtain ⟨ao, cap, f, g, e, h1, h2, _⟩ := h
  exact ⟨ao, cap, e, h1, h2⟩
end Go.Proofs.YtkgjemglmgdanaaGreatDoor

/- Package value, walked: item. -/
namespace Go.Proofs.YtkgjemglmgdanaaGreatDoor
open Go.RowKit Fl
set_option linter.unusedVariables false
set_option maxRecDepth 8000

/-- A box that a call makes. -/
theorem IsB.one {w : World} {ok : Nat → Prop} {T : PA} {so io : Option Addr} {sc ic : Nat} (h : IsP w ok (.agg #[.slice so T.s.length sc, .slice io T.l.length ic, .int .i64 T.f]) T) (t : TypeId) :
    IsB (w.alloc (.cells #[.slice so T.s.length sc, .slice io T.l.length ic, .int .i64 T.f] t)) (fun b => ok b ∨ w.heap.size ≤ b) (.slice (some ⟨w.heap.size, 0, none⟩) 1 1) [T] := by
  refine ⟨_, 1, fun _ => .slice so T.s.length sc, fun _ => .slice io T.l.length ic, fun _ => .int .i64 T.f, rfl, by simp, by unfold maxLen; omega, fun j hj => ?_, fun j r hr => ?_⟩
  · obtain rfl : j = 0 := by simp at hj; omega
    obtain ⟨_, m0, m1, m2, _⟩ := At3.new w (.slice so T.s.length sc) (.slice io T.l.length ic) (.int .i64 T.f) t
    exact ⟨_, 0, rfl, .inr (Nat.le_refl _), m0, m1, m2⟩
  · have : r = T := by
      match j with
      | 0 => simpa using hr.symm
      | j + 1 => simp at hr
    subst this
    exact h.keep (Kept.below (below_new _ _)) (fun b _ h => .inl h)
end Go.Proofs.YtkgjemglmgdanaaGreatDoor

/- Package value, walked: Plain. -/
namespace Go.Proofs.YtkgjemglmgdanaaGreatDoor
open Go.RowKit Fl
set_option linter.unusedVariables false
set_option maxRecDepth 8000

end Go.Proofs.YtkgjemglmgdanaaGreatDoor

/- Plain arrays, the document's functions walked: Depth. -/
namespace Go.Proofs.YtkgjemglmgdanaaGreatDoor
open Go.RowKit Fl
set_option linter.unusedVariables false
set_option maxRecDepth 8000

end Go.Proofs.YtkgjemglmgdanaaGreatDoor

/- Package value, walked: Rank, Single, Depth. -/
namespace Go.Proofs.YtkgjemglmgdanaaGreatDoor
open Go.RowKit Fl
set_option linter.unusedVariables false
set_option maxRecDepth 8000

end Go.Proofs.YtkgjemglmgdanaaGreatDoor

/- Arrays and plain arrays, plain: what is made of a plain array is good, and told as it was. -/
namespace Go.Proofs.YtkgjemglmgdanaaGreatDoor
open Fl
set_option linter.unusedVariables false
set_option maxRecDepth 8000

end Go.Proofs.YtkgjemglmgdanaaGreatDoor

/- Package value, walked: has, Alike, Same. -/
namespace Go.Proofs.YtkgjemglmgdanaaGreatDoor
open Go.RowKit Fl
set_option linter.unusedVariables false
set_option maxRecDepth 8000

end Go.Proofs.YtkgjemglmgdanaaGreatDoor

/- Package value, walked: Same. -/
namespace Go.Proofs.YtkgjemglmgdanaaGreatDoor
open Go.RowKit Fl
set_option linter.unusedVariables false
set_option maxRecDepth 8000


end Go.Proofs.YtkgjemglmgdanaaGreatDoor

/- Package value's law: awake. -/
namespace Go.Proofs.YtkgjemglmgdanaaGreatDoor
open Go.RowKit Fl
set_option linter.unusedVariables false
set_option maxRecDepth 8000

end Go.Proofs.YtkgjemglmgdanaaGreatDoor

/- Package value's laws: Of; a region parted by what holds behind it. -/
namespace Go.Proofs.YtkgjemglmgdanaaGreatDoor
open Go.RowKit Fl
set_option linter.unusedVariables false
set_option maxRecDepth 8000

end Go.Proofs.YtkgjemglmgdanaaGreatDoor

/- An argument that is a plain array, opened. -/
namespace Go.Proofs.YtkgjemglmgdanaaGreatDoor
open Go.RowKit Go.ChangeShapes Go.WideShapes
set_option linter.unusedVariables false
set_option maxRecDepth 20000

section
variable {H : Type} {enc : TypeId × Value → H} {w : World} {base : Nat} {spare : Nat → Bool} {held : Bool}

/-- A slice of elements of c cells. -/
theorem cells_slice {P : Program} {t e : TypeId} {fuel c : Nat} {cs : List Value} {x : DataW H × List MemPlace} (ht : P.underlying t = some (.slice e)) (hc : P.cellsOf e = c) (hpos : 0 < c)
    (h : DataW.trod enc P w base spare held fuel t cs = some x) :
    ∃ ao len cap n, n < fuel ∧ cs = [.slice ao len cap] ∧ len ≤ cap ∧ cap ≤ maxLen ∧
      ∀ i, i < len → ∃ b off cs' y, ao = some ⟨b, off, none⟩ ∧ cs'.length = c ∧ (∀ j, j < c → w.cell? ⟨b, off + i * c + j, none⟩ = cs'[j]?) ∧ DataW.trod enc P w base spare held n e cs' = some y := by
  cases fuel with
  | zero => simp [DataW.trod] at h
  | succ m =>
    rcases DataW.trod_slice ht h with ⟨h0, _⟩ | ⟨a, len, cap, elems, rest, n, hn, rfl, rfl, hb, hl, hm, hlen, hel, hsp, hns⟩
    · exact ⟨none, 0, 0, m, by omega, h0, Nat.le_refl _, by unfold maxLen; omega, fun i hi => by omega⟩
    have each : ∀ i, i < len → ∃ cs' y, cs'.length = c ∧ (∀ j, j < c → w.cell? ((a.add (i * c)).add j) = cs'[j]?) ∧ DataW.trod enc P w base spare held n e cs' = some y := by
      intro i hi
      have h1 := hel i hi
      rw [hc] at h1
      have hlt : i < elems.length := by omega
      rw [List.getElem?_eq_getElem hlt] at h1
      obtain ⟨cs', hcs, hy'⟩ := Option.bind_eq_some_iff.1 h1
      obtain ⟨_, hcl, hat⟩ := World.cells?_some hcs
      exact ⟨cs', _, hcl, hat, hy'⟩
    refine ⟨some a, len, cap, n, by omega, rfl, hl, hm, fun i hi => ?_⟩
    obtain ⟨b, off, spot⟩ := a
    have hspot : spot = none := by
      obtain ⟨cs', y, hcl, hat, _⟩ := each 0 (by omega)
      have h0 := hat 0 hpos
      rw [List.getElem?_eq_getElem (by omega)] at h0
      simpa [Addr.add] using World.cell?_spot h0
    subst hspot
    obtain ⟨cs', y, hcl, hat, hy⟩ := each i hi
    refine ⟨b, off, cs', y, rfl, hcl, fun j hj => ?_, hy⟩
    have := hat j hj
    simpa [Go.WideShapes.add_plain, Nat.add_assoc] using this

theorem cint_of {t : TypeId} {k : IntKind} {fuel : Nat} {cs : List Value} {P : Program} {y : DataW H × List MemPlace} (ht : P.underlying t = some (.int k)) (h : DataW.trod enc P w base spare held fuel t cs = some y) : ∃ z, cs = [.int k z] := by
  obtain ⟨u, rfl, z, rfl, _⟩ := elem_int ht _ _ _ h
  exact ⟨z, rfl⟩
theorem cfloat_of {t : TypeId} {k : FloatKind} {fuel : Nat} {cs : List Value} {P : Program} {y : DataW H × List MemPlace} (ht : P.underlying t = some (.float k)) (h : DataW.trod enc P w base spare held fuel t cs = some y) : ∃ z, cs = [.float k z] ∧ (Lit.float k z).wf = true := by
  obtain ⟨u, rfl, z, rfl, hz⟩ := elem_float ht _ _ _ h
  exact ⟨z, rfl, hz⟩
theorem ints_of {t e : TypeId} {fuel : Nat} {cs : List Value} {P : Program} {y : DataW H × List MemPlace} (ht : P.underlying t = some (.slice e)) (hc : P.cellsOf e = 1) (he : P.underlying e = some (.int .i64)) (h : DataW.trod enc P w base spare held fuel t cs = some y) :
    ∃ v l, cs = [v] ∧ Slc w (fun _ => True) v (l : List Int).length (ints l) := by
  obtain ⟨v, xs, rfl, hr, hq, hl⟩ := open_row ht hc (fun u => ∃ z, u = .int .i64 z ∧ (Lit.int .i64 z).wf = true) (elem_int he) h
  obtain ⟨zs, rfl, _⟩ := list_of (Value.int .i64) (fun z => (Lit.int .i64 z).wf = true) xs hq
  refine ⟨v, zs, rfl, ?_⟩
  have := hr.slc
  simpa [ints] using this

theorem listAll {α : Type} (n : Nat) (q : Nat → α → Prop) (h : ∀ i, i < n → ∃ x, q i x) : ∃ l : List α, l.length = n ∧ ∀ i x, l[i]? = some x → q i x := by
  induction n with
  | zero => exact ⟨[], rfl, fun i x h => by simp at h⟩
  | succ n ih =>
    obtain ⟨l, hl, hq⟩ := ih (fun i hi => h i (by omega))
    obtain ⟨x, hx⟩ := h n (by omega)
    refine ⟨l ++ [x], by simp [hl], fun i y hy => ?_⟩
    by_cases hi : i < l.length
    · rw [List.getElem?_append_left hi] at hy; exact hq i y hy
    · obtain ⟨h1, _⟩ := List.getElem?_eq_some_iff.1 hy
      have : i = n := by simp at h1; omega
      subst this
      rw [List.getElem?_append_right (by omega), hl] at hy
      simp at hy
      exact hy ▸ hx

theorem und_plain : ∃ f0 f1 f2 : Field, Tryz.prog.underlying 25 = some (.struct #[f0, f1, f2]) ∧ f0.type = 22 ∧ f1.type = 23 ∧ f2.type = 3 ∧ f0.offset = 0 ∧ f1.offset = 1 ∧ f2.offset = 2 := ⟨_, _, _, Tryz.underlying25, rfl, rfl, rfl, rfl, rfl, rfl⟩
theorem und_item : ∃ f0 f1 f2 f3 : Field, Tryz.prog.underlying 43 = some (.struct #[f0, f1, f2, f3]) ∧ f0.type = 3 ∧ f1.type = 40 ∧ f2.type = 21 ∧ f3.type = 41 ∧ f0.offset = 0 ∧ f1.offset = 1 ∧ f2.offset = 2 ∧ f3.offset = 3 := ⟨_, _, _, _, Tryz.underlying43, rfl, rfl, rfl, rfl, rfl, rfl, rfl, rfl⟩
theorem co_plain : Tryz.prog.cellsOf 25 = 3 := by kernel_rfl
theorem co_item : Tryz.prog.cellsOf 43 = 4 := by kernel_rfl
theorem co_slInt : Tryz.prog.cellsOf 22 = 1 := by kernel_rfl
theorem co_slItem : Tryz.prog.cellsOf 23 = 1 := by kernel_rfl
theorem co_slPlain : Tryz.prog.cellsOf 41 = 1 := by kernel_rfl
theorem co_int : Tryz.prog.cellsOf 3 = 1 := by kernel_rfl
theorem co_f64 : Tryz.prog.cellsOf 40 = 1 := by kernel_rfl
theorem co_i32 : Tryz.prog.cellsOf 21 = 1 := by kernel_rfl

/-- Some depth for all of finitely many. -/
theorem lo_all {n : Nat} (q : Nat → Nat → Prop) (mono : ∀ i a b, a ≤ b → q i a → q i b) (h : ∀ i, i < n → ∃ d, q i d) : ∃ d, ∀ i, i < n → q i d := Go.Deep.fuel_lt mono h

theorem lt_of_wf {x : Nat} (h : (Lit.float .f64 x).wf = true) : x < 18446744073709551616 := by
  simpa [Lit.wf] using h
theorem plain_of (fuel : Nat) : ∀ (cs : List Value) (y : DataW H × List MemPlace), DataW.trod enc Tryz.prog w base spare held fuel 25 cs = some y →
    ∃ a b c p d, cs = [a, b, c] ∧ IsP w (fun _ => True) (.agg #[a, b, c]) p ∧ lo d p := by
  induction fuel using Nat.strongRecOn with
  | ind fuel ih =>
    intro cs y h
    obtain ⟨f0, f1, f2, hu, t0, t1, t2, o0, o1, o2⟩ := und_plain
    obtain ⟨xs, n, rfl, _, hl, hxl, hf⟩ := DataW.trod_struct hu h
    rw [co_plain] at hl
    match cs, hl with
    | [a, b, c], _ =>
      have g0 := hf 0 f0 rfl
      have g1 := hf 1 f1 rfl
      have g2 := hf 2 f2 rfl
      rw [t0, o0, co_slInt] at g0
      rw [t1, o1, co_slItem] at g1
      rw [t2, o2, co_int] at g2
      simp only [List.drop, List.take] at g0 g1 g2
      match xs, hxl with
      | [y0, y1, y2], _ =>
        simp only [List.getElem?_cons_zero, List.getElem?_cons_succ] at g0 g1 g2
        obtain ⟨v, s, e0, hs⟩ := ints_of Tryz.underlying22 co_int Tryz.underlying3 g0
        obtain rfl : a = v := by simpa using e0
        obtain ⟨z, e2⟩ := cint_of Tryz.underlying3 g2
        cases e2
        obtain ⟨ao, len, cap, n1, hn1, e1, hl1, hl2, hitem⟩ := cells_slice Tryz.underlying23 co_item (by omega) g1
        cases e1
        -- each item
        have one : ∀ i, i < len → ∃ x : PI × (Value × Nat), (∃ b off, ao = some ⟨b, off, none⟩ ∧ w.cell? ⟨b, off + i * 4, none⟩ = some (.int .i64 x.1.1) ∧ w.cell? ⟨b, off + i * 4 + 1, none⟩ = some (.float .f64 x.1.2.1) ∧
            w.cell? ⟨b, off + i * 4 + 2, none⟩ = some (.int .i32 x.1.2.2.1) ∧ w.cell? ⟨b, off + i * 4 + 3, none⟩ = some x.2.1) ∧ IsB w (fun _ => True) x.2.1 x.1.2.2.2 ∧ x.1.2.1 < 18446744073709551616 ∧ ∀ q ∈ x.1.2.2.2, lo x.2.2 q := by
          intro i hi
          obtain ⟨b, off, cs', y', hao, hcl, hcells, htr⟩ := hitem i hi
          obtain ⟨k0, k1, k2, k3, hu', u0, u1, u2, u3, p0, p1, p2, p3⟩ := und_item
          obtain ⟨xs', n', rfl, _, _, hxl', hf'⟩ := DataW.trod_struct hu' htr
          match cs', hcl with
          | [c0, c1, c2, c3], _ =>
            have q0 := hf' 0 k0 rfl
            have q1 := hf' 1 k1 rfl
            have q2 := hf' 2 k2 rfl
            have q3 := hf' 3 k3 rfl
            rw [u0, p0, co_int] at q0
            rw [u1, p1, co_f64] at q1
            rw [u2, p2, co_i32] at q2
            rw [u3, p3, co_slPlain] at q3
            simp only [List.drop, List.take] at q0 q1 q2 q3
            match xs', hxl' with
            | [z0, z1, z2, z3], _ =>
              simp only [List.getElem?_cons_zero, List.getElem?_cons_succ] at q0 q1 q2 q3
              obtain ⟨kd, e0⟩ := cint_of Tryz.underlying3 q0
              cases e0
              obtain ⟨nm, e1, hnm⟩ := cfloat_of Tryz.underlying40 q1
              cases e1
              obtain ⟨ch, e2⟩ := cint_of Tryz.underlying21 q2
              cases e2
              obtain ⟨bo, blen, bcap, n3, hn3, e3, hb1, hb2, hbox⟩ := cells_slice Tryz.underlying41 co_plain (by omega) q3
              cases e3
              have each : ∀ k, k < blen → ∃ x : PA × (Value × Value × Value) × Nat, (∃ b off, bo = some ⟨b, off, none⟩ ∧ w.cell? ⟨b, off + k * 3, none⟩ = some x.2.1.1 ∧ w.cell? ⟨b, off + k * 3 + 1, none⟩ = some x.2.1.2.1 ∧ w.cell? ⟨b, off + k * 3 + 2, none⟩ = some x.2.1.2.2) ∧
                  IsP w (fun _ => True) (.agg #[x.2.1.1, x.2.1.2.1, x.2.1.2.2]) x.1 ∧ lo x.2.2 x.1 := by
                intro k hk
                obtain ⟨b', off', cs2, y2, hbo, hcl2, hcells2, htr2⟩ := hbox k hk
                obtain ⟨a', b2, c', p, d, rfl, hp, hd⟩ := ih n3 (by omega) cs2 y2 htr2
                exact ⟨(p, (a', b2, c'), d), ⟨b', off', hbo, by simpa using hcells2 0 (by omega), by simpa using hcells2 1 (by omega), by simpa using hcells2 2 (by omega)⟩, hp, hd⟩
              obtain ⟨L, hL, hq⟩ := listAll blen _ each
              obtain ⟨D, hD⟩ := lo_all (n := blen) (fun k d => ∀ x, L[k]? = some x → lo d x.1) (fun i a b hab h x hx => lo_mono (h x hx) hab) (fun k hk => ⟨((L[k]?).map (fun x => x.2.2)).getD 0, fun x hx => by rw [hx]; exact (hq k x hx).2.2⟩)
              refine ⟨((kd, nm, ch, L.map (·.1)), (.slice bo blen bcap, D)), ⟨b, off, hao, by simpa using hcells 0 (by omega), by simpa using hcells 1 (by omega), by simpa using hcells 2 (by omega), by simpa using hcells 3 (by omega)⟩, ?_, lt_of_wf hnm, ?_⟩
              · refine ⟨bo, bcap, fun k => ((L[k]?).map (fun x => x.2.1.1)).getD undef, fun k => ((L[k]?).map (fun x => x.2.1.2.1)).getD undef, fun k => ((L[k]?).map (fun x => x.2.1.2.2)).getD undef, by simp [hL], by simpa [hL] using hb1, hb2, fun k hk => ?_, fun k p hp => ?_⟩
                · have hk' : k < L.length := by simpa using hk
                  obtain ⟨⟨b', off', e, c0, c1, c2⟩, _⟩ := hq k _ (List.getElem?_eq_getElem hk')
                  exact ⟨b', off', e, trivial, by simp only [List.getElem?_eq_getElem hk']; exact c0, by simp only [List.getElem?_eq_getElem hk']; exact c1, by simp only [List.getElem?_eq_getElem hk']; exact c2⟩
                · simp only [List.getElem?_map, Option.map_eq_some_iff] at hp
                  obtain ⟨x, hx, rfl⟩ := hp
                  simp only [hx]
                  exact (hq k x hx).2.1
              · intro q hqm
                obtain ⟨x, hx, rfl⟩ := List.mem_map.1 hqm
                obtain ⟨k, hk⟩ := List.mem_iff_getElem?.1 hx
                exact hD k (by rw [← hL]; exact (List.getElem?_eq_some_iff.1 hk).1) x hk
        obtain ⟨L, hL, hq⟩ := listAll len _ one
        obtain ⟨D, hD⟩ := lo_all (n := len) (fun k d => ∀ x, L[k]? = some x → ∀ q ∈ x.1.2.2.2, lo d q) (fun i a b hab h x hx q hq => lo_mono (h x hx q hq) hab) (fun k hk => ⟨((L[k]?).map (fun x => x.2.2)).getD 0, fun x hx => by rw [hx]; exact (hq k x hx).2.2.2⟩)
        refine ⟨_, _, _, .mk s (L.map (·.1)) z, D + 1, rfl, ?_, ?_⟩
        · have : IsP w (fun _ => True) (.agg #[a, .slice ao (L.map (·.1)).length cap, .int .i64 z]) (.mk s (L.map (·.1)) z) := by
            refine IsP.of hs ⟨ao, cap, fun k => ((L[k]?).map (fun x => x.2.1)).getD undef, rfl, by simpa [hL] using hl1, hl2, fun i x hx => ?_, fun i x hx => ?_⟩
            · simp only [List.getElem?_map, Option.map_eq_some_iff] at hx
              obtain ⟨x, hx, rfl⟩ := hx
              obtain ⟨⟨b', off', e, c0, c1, c2, c3⟩, _⟩ := hq i x hx
              exact ⟨b', off', e, trivial, c0, c1, c2, by simp only [hx]; exact c3⟩
            · simp only [List.getElem?_map, Option.map_eq_some_iff] at hx
              obtain ⟨x, hx, rfl⟩ := hx
              simp only [hx]
              exact (hq i x hx).2.1
          simpa [hL] using this
        · intro x hx
          obtain ⟨y, hy, rfl⟩ := List.mem_map.1 (show _ ∈ L.map (·.1) from hx)
          obtain ⟨k, hk⟩ := List.mem_iff_getElem?.1 hy
          exact ⟨(hq k y hk).2.2.1, hD k (by rw [← hL]; exact (List.getElem?_eq_some_iff.1 hk).1) y hk⟩
end
/-- An argument that is a plain array. -/
theorem open_plain {H : Type} {enc : TypeId × Value → H} {w : World} {base : Nat} {spare : Nat → Bool} {held : Bool} {r : Reach} {b0 : Nat} {v : Value} {d : DataW H} {p : List MemPlace}
    (hv : Value.okWide Tryz.prog w r b0 25 v) (h : DataW.Trod enc Tryz.prog w base spare held 25 v d p) : ∃ P n, IsP w (fun _ => True) v P ∧ lo n P := by
  obtain ⟨f0, f1, f2, hu, _⟩ := und_plain
  obtain ⟨cs, rfl, hsz⟩ := okWide_struct hu hv
  obtain ⟨fuel, hf⟩ := h
  obtain ⟨a, b, c, P, n, e, hp, hn⟩ := plain_of fuel _ _ hf
  obtain ⟨l⟩ := cs
  have : l = [a, b, c] := e
  subst this
  exact ⟨P, n, hp, hn⟩
end Go.Proofs.YtkgjemglmgdanaaGreatDoor

/- Package value's law: ValueSame. -/
namespace Go.Proofs.YtkgjemglmgdanaaGreatDoor
open Go.RowKit Fl
set_option linter.unusedVariables false
set_option maxRecDepth 8000

end Go.Proofs.YtkgjemglmgdanaaGreatDoor

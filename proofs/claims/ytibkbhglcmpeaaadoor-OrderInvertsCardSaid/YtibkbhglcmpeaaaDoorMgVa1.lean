/- Merged: VaA, VaC, VaM, VaD, VaE, VaG, VaH, VaI, VaJ, VaK, VaN, VaO, VaP, VaF, VaQ, VaR, VaS, VaW, VbA, VbC, VbD, VbE. -/
import Derived.Deep.Slices
import Derived.Deep.Fields
import Derived.ChangeSame
import Derived.Deep.LoopGhost
import Derived.Test.YtibkbhglcmpeaaaDoorMgVe1
import Derived.Test.YtibkbhglcmpeaaaDoorMgNu1
import Derived.Test.YtibkbhglcmpeaaaDoorMgSh1
import Derived.Test.YtibkbhglcmpeaaaDoorMgBv1
import Derived.Test.YtibkbhglcmpeaaaDoorMgSq1
/- Plain arrays: what they are, and what they are in memory; how an argument that is one is opened. -/
namespace Go.Proofs.YtibkbhglcmpeaaaDoor
set_option maxRecDepth 100000
open Go.RowKit Go.ChangeShapes Go.WideShapes
set_option linter.unusedVariables false

/-- A plain array: its shape, its items (kind, number, character, box), its class. -/
inductive PA where
  | mk (s : List Int) (l : List (Int × Nat × Int × List PA)) (f : Int)
abbrev PI := Int × Nat × Int × List PA
def PA.s : PA → List Int | .mk s _ _ => s
def PA.l : PA → List PI | .mk _ l _ => l
def PA.f : PA → Int | .mk _ _ f => f
instance : Inhabited PA := ⟨.mk [] [] 0⟩
/-- u is the plain array p. -/
inductive IsP (w : World) (ok : Nat → Prop) : Value → PA → Prop
  | mk {sh : Value} {s : List Int} {l : List PI} {f : Int} {ao : Option Addr} {cap : Nat} (bo : Nat → Option Addr) (bc : Nat → Nat) (X Y Z : Nat → Nat → Value)
      (hs : Slc w ok sh s.length (ints s)) (h1 : l.length ≤ cap) (h2 : cap ≤ maxLen)
      (hi : ∀ i x, l[i]? = some x → ∃ b off, ao = some ⟨b, off, Option.none⟩ ∧ ok b ∧ w.cell? ⟨b, off + i * 4, Option.none⟩ = some (.int .i64 x.1) ∧ w.cell? ⟨b, off + i * 4 + 1, Option.none⟩ = some (.float .f64 x.2.1) ∧
        w.cell? ⟨b, off + i * 4 + 2, Option.none⟩ = some (.int .i32 x.2.2.1) ∧ w.cell? ⟨b, off + i * 4 + 3, Option.none⟩ = some (.slice (bo i) x.2.2.2.length (bc i)))
      (hb : ∀ i x, l[i]? = some x → x.2.2.2.length ≤ bc i ∧ bc i ≤ maxLen)
      (hc : ∀ i x, l[i]? = some x → ∀ k, k < x.2.2.2.length → ∃ b off, bo i = some ⟨b, off, Option.none⟩ ∧ ok b ∧ w.cell? ⟨b, off + k * 3, Option.none⟩ = some (X i k) ∧ w.cell? ⟨b, off + k * 3 + 1, Option.none⟩ = some (Y i k) ∧ w.cell? ⟨b, off + k * 3 + 2, Option.none⟩ = some (Z i k))
      (hp : ∀ i x, l[i]? = some x → ∀ k q, x.2.2.2[k]? = some q → IsP w ok (.agg #[X i k, Y i k, Z i k]) q) :
      IsP w ok (.agg #[sh, .slice ao l.length cap, .int .i64 f]) (.mk s l f)

/-- v is a list of plain arrays. -/
def IsB (w : World) (ok : Nat → Prop) (v : Value) (q : List PA) : Prop :=
  ∃ (ao : Option Addr) (cap : Nat) (X Y Z : Nat → Value), v = .slice ao q.length cap ∧ q.length ≤ cap ∧ cap ≤ maxLen ∧
    (∀ k, k < q.length → ∃ b off, ao = some ⟨b, off, Option.none⟩ ∧ ok b ∧ w.cell? ⟨b, off + k * 3, Option.none⟩ = some (X k) ∧ w.cell? ⟨b, off + k * 3 + 1, Option.none⟩ = some (Y k) ∧ w.cell? ⟨b, off + k * 3 + 2, Option.none⟩ = some (Z k)) ∧
    ∀ k p, q[k]? = some p → IsP w ok (.agg #[X k, Y k, Z k]) p
/-- v is a list of items. -/
def Its (w : World) (ok : Nat → Prop) (v : Value) (l : List PI) : Prop :=
  ∃ (ao : Option Addr) (cap : Nat) (B : Nat → Value), v = .slice ao l.length cap ∧ l.length ≤ cap ∧ cap ≤ maxLen ∧
    (∀ i x, l[i]? = some x → ∃ b off, ao = some ⟨b, off, Option.none⟩ ∧ ok b ∧ w.cell? ⟨b, off + i * 4, Option.none⟩ = some (.int .i64 x.1) ∧ w.cell? ⟨b, off + i * 4 + 1, Option.none⟩ = some (.float .f64 x.2.1) ∧
        w.cell? ⟨b, off + i * 4 + 2, Option.none⟩ = some (.int .i32 x.2.2.1) ∧ w.cell? ⟨b, off + i * 4 + 3, Option.none⟩ = some (B i)) ∧
    ∀ i x, l[i]? = some x → IsB w ok (B i) x.2.2.2
theorem IsP.keep {w w' : World} {ok ok' : Nat → Prop} {u : Value} {p : PA} (hk : Kept ok w w') (hm : ∀ b, b < w.heap.size → ok b → ok' b) (h : IsP w ok u p) : IsP w' ok' u p := by
  induction h with
  | mk bo bc X Y Z hs h1 h2 hi hb hc hp ih =>
    refine .mk bo bc X Y Z (hs.keep hk hm) h1 h2 (fun i x hx => ?_) hb (fun i x hx k hkk => ?_) ih
    · obtain ⟨b, off, e, hb, c0, c1, c2, c3⟩ := hi i x hx
      exact ⟨b, off, e, hm b (World.block_lt_of_cell? w _ c0) hb, hk _ _ hb c0, hk _ _ hb c1, hk _ _ hb c2, hk _ _ hb c3⟩
    · obtain ⟨b, off, e, hb, c0, c1, c2⟩ := hc i x hx k hkk
      exact ⟨b, off, e, hm b (World.block_lt_of_cell? w _ c0) hb, hk _ _ hb c0, hk _ _ hb c1, hk _ _ hb c2⟩
theorem IsB.keep {w w' : World} {ok ok' : Nat → Prop} {u : Value} {q : List PA} (hk : Kept ok w w') (hm : ∀ b, b < w.heap.size → ok b → ok' b) (h : IsB w ok u q) : IsB w' ok' u q := by
  obtain ⟨ao, cap, X, Y, Z, e, h1, h2, hc, hp⟩ := h
  refine ⟨ao, cap, X, Y, Z, e, h1, h2, fun k hkk => ?_, fun k p hx => (hp k p hx).keep hk hm⟩
  obtain ⟨b, off, e, hb, c0, c1, c2⟩ := hc k hkk
  exact ⟨b, off, e, hm b (World.block_lt_of_cell? w _ c0) hb, hk _ _ hb c0, hk _ _ hb c1, hk _ _ hb c2⟩
theorem Its.keep {w w' : World} {ok ok' : Nat → Prop} {u : Value} {l : List PI} (hk : Kept ok w w') (hm : ∀ b, b < w.heap.size → ok b → ok' b) (h : Its w ok u l) : Its w' ok' u l := by
  obtain ⟨ao, cap, B, e, h1, h2, hc, hp⟩ := h
  refine ⟨ao, cap, B, e, h1, h2, fun i x hx => ?_, fun k p hx => (hp k p hx).keep hk hm⟩
  obtain ⟨b, off, e, hb, c0, c1, c2, c3⟩ := hc i x hx
  exact ⟨b, off, e, hm b (World.block_lt_of_cell? w _ c0) hb, hk _ _ hb c0, hk _ _ hb c1, hk _ _ hb c2, hk _ _ hb c3⟩
theorem IsP.grow {w w' : World} {ok : Nat → Prop} {u : Value} {p : PA} (h : IsP w ok u p) (hb : Below w.heap.size w w') : IsP w' ok u p := h.keep (Kept.below hb) (fun _ _ h => h)
theorem IsB.grow {w w' : World} {ok : Nat → Prop} {u : Value} {p : List PA} (h : IsB w ok u p) (hb : Below w.heap.size w w') : IsB w' ok u p := h.keep (Kept.below hb) (fun _ _ h => h)
theorem Its.grow {w w' : World} {ok : Nat → Prop} {u : Value} {p : List PI} (h : Its w ok u p) (hb : Below w.heap.size w w') : Its w' ok u p := h.keep (Kept.below hb) (fun _ _ h => h)
theorem IsP.wide {w : World} {ok ok' : Nat → Prop} {u : Value} {p : PA} (h : IsP w ok u p) (hm : ∀ b, b < w.heap.size → ok b → ok' b) : IsP w ok' u p := h.keep (Kept.refl _ _) hm
theorem IsB.wide {w : World} {ok ok' : Nat → Prop} {u : Value} {p : List PA} (h : IsB w ok u p) (hm : ∀ b, b < w.heap.size → ok b → ok' b) : IsB w ok' u p := h.keep (Kept.refl _ _) hm
theorem Its.wide {w : World} {ok ok' : Nat → Prop} {u : Value} {p : List PI} (h : Its w ok u p) (hm : ∀ b, b < w.heap.size → ok b → ok' b) : Its w ok' u p := h.keep (Kept.refl _ _) hm
theorem IsP.lt {w : World} {ok : Nat → Prop} {u : Value} {p : PA} (h : IsP w ok u p) : IsP w (fun b => ok b ∧ b < w.heap.size) u p := h.wide (fun _ hb ho => ⟨ho, hb⟩)
theorem Its.lt {w : World} {ok : Nat → Prop} {u : Value} {p : List PI} (h : Its w ok u p) : Its w (fun b => ok b ∧ b < w.heap.size) u p := h.wide (fun _ hb ho => ⟨ho, hb⟩)
theorem IsB.lt {w : World} {ok : Nat → Prop} {u : Value} {p : List PA} (h : IsB w ok u p) : IsB w (fun b => ok b ∧ b < w.heap.size) u p := h.wide (fun _ hb ho => ⟨ho, hb⟩)

/-- A plain array opened. -/
theorem IsP.opened {w : World} {ok : Nat → Prop} {u : Value} {p : PA} (h : IsP w ok u p) :
    ∃ so sc io ic, u = .agg #[.slice so p.s.length sc, .slice io p.l.length ic, .int .i64 p.f] ∧ Slc w ok (.slice so p.s.length sc) p.s.length (ints p.s) ∧ Its w ok (.slice io p.l.length ic) p.l := by
  cases h with
  | @mk sh s l f ao cap bo bc X Y Z hs h1 h2 hi hb hc hp =>
    obtain ⟨so, sc, rfl, _⟩ := hs.opened
    refine ⟨so, sc, ao, cap, rfl, hs, ao, cap, fun i => .slice (bo i) ((l[i]?.map (fun x => x.2.2.2.length)).getD 0) (bc i), rfl, h1, h2, fun i x hx => ?_, fun i x hx => ?_⟩
    · have hx : l[i]? = some x := hx
      obtain ⟨b, off, e, hb, c0, c1, c2, c3⟩ := hi i x hx
      exact ⟨b, off, e, hb, c0, c1, c2, by simp only [c3, hx]; rfl⟩
    · have hx : l[i]? = some x := hx
      refine ⟨bo i, bc i, X i, Y i, Z i, by simp only [hx]; rfl, (hb i x hx).1, (hb i x hx).2, hc i x hx, hp i x hx⟩
theorem IsP.of {w : World} {ok : Nat → Prop} {sh it : Value} {s : List Int} {l : List PI} {f : Int} (hs : Slc w ok sh s.length (ints s)) (hi : Its w ok it l) : IsP w ok (.agg #[sh, it, .int .i64 f]) (.mk s l f) := by
  classical
  obtain ⟨ao, cap, B, rfl, h1, h2, hc, hp⟩ := hi
  have hB : ∀ i, ∃ (t : Option Addr × Nat × (Nat → Value) × (Nat → Value) × (Nat → Value)), ∀ x, l[i]? = some x → B i = .slice t.1 x.2.2.2.length t.2.1 ∧ x.2.2.2.length ≤ t.2.1 ∧ t.2.1 ≤ maxLen ∧
      (∀ k, k < x.2.2.2.length → ∃ b off, t.1 = some ⟨b, off, Option.none⟩ ∧ ok b ∧ w.cell? ⟨b, off + k * 3, Option.none⟩ = some (t.2.2.1 k) ∧ w.cell? ⟨b, off + k * 3 + 1, Option.none⟩ = some (t.2.2.2.1 k) ∧ w.cell? ⟨b, off + k * 3 + 2, Option.none⟩ = some (t.2.2.2.2 k)) ∧
      ∀ k p, x.2.2.2[k]? = some p → IsP w ok (.agg #[t.2.2.1 k, t.2.2.2.1 k, t.2.2.2.2 k]) p := by
    intro i
    cases hx : l[i]? with
    | none => exact ⟨(Option.none, 0, fun _ => undef, fun _ => undef, fun _ => undef), fun x h => by cases h⟩
    | some x =>
      obtain ⟨bo, bc, X, Y, Z, e, a1, a2, a3, a4⟩ := hp i x hx
      exact ⟨(bo, bc, X, Y, Z), fun y hy => by cases hy; exact ⟨e, a1, a2, a3, a4⟩⟩
  have T := fun i => Classical.choose_spec (hB i)
  refine .mk (fun i => (Classical.choose (hB i)).1) (fun i => (Classical.choose (hB i)).2.1) (fun i => (Classical.choose (hB i)).2.2.1) (fun i => (Classical.choose (hB i)).2.2.2.1) (fun i => (Classical.choose (hB i)).2.2.2.2) hs h1 h2 (fun i x hx => ?_) (fun i x hx => ⟨(T i x hx).2.1, (T i x hx).2.2.1⟩) (fun i x hx => (T i x hx).2.2.2.1) (fun i x hx => (T i x hx).2.2.2.2)
  obtain ⟨b, off, e, hb, c0, c1, c2, c3⟩ := hc i x hx
  exact ⟨b, off, e, hb, c0, c1, c2, c3.trans (congrArg some (T i x hx).1)⟩
/-- An item of a list. -/
theorem Its.at {w : World} {ok : Nat → Prop} {ao : Option Addr} {n cap : Nat} {l : List PI} {i : Nat} {x : PI} (h : Its w ok (.slice ao n cap) l) (hx : l[i]? = some x) :
    ∃ b off bo bc, ao = some ⟨b, off, Option.none⟩ ∧ ok b ∧ w.cell? ⟨b, off + i * 4, Option.none⟩ = some (.int .i64 x.1) ∧ w.cell? ⟨b, off + i * 4 + 1, Option.none⟩ = some (.float .f64 x.2.1) ∧
        w.cell? ⟨b, off + i * 4 + 2, Option.none⟩ = some (.int .i32 x.2.2.1) ∧ w.cell? ⟨b, off + i * 4 + 3, Option.none⟩ = some (.slice bo x.2.2.2.length bc) ∧ IsB w ok (.slice bo x.2.2.2.length bc) x.2.2.2 := by
  obtain ⟨ao', cap', B, e, h1, h2, hc, hp⟩ := h
  cases e
  obtain ⟨b, off, e, hb, c0, c1, c2, c3⟩ := hc i x hx
  have hB := hp i x hx
  obtain ⟨bo, bc, X, Y, Z, e2, _⟩ := id hB
  rw [e2] at c3 hB
  exact ⟨b, off, bo, bc, e, hb, c0, c1, c2, c3, hB⟩
/-- A plain array of a list. -/
theorem IsB.at {w : World} {ok : Nat → Prop} {ao : Option Addr} {n cap : Nat} {q : List PA} {k : Nat} {p : PA} (h : IsB w ok (.slice ao n cap) q) (hx : q[k]? = some p) :
    ∃ b off so sc io ic, ao = some ⟨b, off, Option.none⟩ ∧ ok b ∧ w.cell? ⟨b, off + k * 3, Option.none⟩ = some (.slice so p.s.length sc) ∧ w.cell? ⟨b, off + k * 3 + 1, Option.none⟩ = some (.slice io p.l.length ic) ∧
        w.cell? ⟨b, off + k * 3 + 2, Option.none⟩ = some (.int .i64 p.f) ∧ IsP w ok (.agg #[.slice so p.s.length sc, .slice io p.l.length ic, .int .i64 p.f]) p := by
  obtain ⟨ao', cap', X, Y, Z, e, h1, h2, hc, hp⟩ := h
  cases e
  obtain ⟨b, off, e, hb, c0, c1, c2⟩ := hc k (List.getElem?_eq_some_iff.1 hx).1
  have hP := hp k p hx
  obtain ⟨so, sc, io, ic, e2, _⟩ := hP.opened
  rw [e2] at hP
  simp only [Value.agg.injEq, Array.mk.injEq, List.cons.injEq, and_true] at e2
  obtain ⟨e3, e4, e5⟩ := e2
  rw [e3] at c0; rw [e4] at c1; rw [e5] at c2
  exact ⟨b, off, so, sc, io, ic, e, hb, c0, c1, c2, hP⟩
theorem Its.len {w : World} {ok : Nat → Prop} {v : Value} {l : List PI} (h : Its w ok v l) : ∃ ao cap, v = .slice ao l.length cap ∧ l.length ≤ cap ∧ cap ≤ maxLen := by
  obtain ⟨ao, cap, B, e, h1, h2, _⟩ := h; exact ⟨ao, cap, e, h1, h2⟩
theorem IsB.len {w : World} {ok : Nat → Prop} {v : Value} {q : List PA} (h : IsB w ok v q) : ∃ ao cap, v = .slice ao q.length cap ∧ q.length ≤ cap ∧ cap ≤ maxLen := by
  obtain ⟨ao, cap, X, Y, Z, e, h1, h2, _⟩ := h; exact ⟨ao, cap, e, h1, h2⟩
theorem Its.nil (w : World) (ok : Nat → Prop) : Its w ok (.slice Option.none 0 0) [] := ⟨_, _, fun _ => undef, rfl, Nat.le_refl _, by unfold maxLen; omega, fun i x h => by simp at h, fun i x h => by simp at h⟩
theorem IsB.nil (w : World) (ok : Nat → Prop) : IsB w ok (.slice Option.none 0 0) [] := ⟨_, _, fun _ => undef, fun _ => undef, fun _ => undef, rfl, Nat.le_refl _, by unfold maxLen; omega, fun i h => absurd h (by simp), fun i x h => by simp at h⟩
theorem IsP.nil (w : World) (ok : Nat → Prop) : IsP w ok (.agg #[.slice Option.none 0 0, .slice Option.none 0 0, .int .i64 0]) (.mk [] [] 0) := IsP.of (Slc.nil _ _) (Its.nil _ _)
theorem IsP.go {w w' : World} {ok : Nat → Prop} {u : Value} {p : PA} (h : IsP w ok u p) (hB : Below w.heap.size w w') : Hid (IsP w' ok u p) := Lib.hid (h.grow hB)
theorem IsB.go {w w' : World} {ok : Nat → Prop} {u : Value} {p : List PA} (h : IsB w ok u p) (hB : Below w.heap.size w w') : Hid (IsB w' ok u p) := Lib.hid (h.grow hB)
theorem Its.go {w w' : World} {ok : Nat → Prop} {u : Value} {p : List PI} (h : Its w ok u p) (hB : Below w.heap.size w w') : Hid (Its w' ok u p) := Lib.hid (h.grow hB)
end Go.Proofs.YtibkbhglcmpeaaaDoor

/- Plain arrays, the document's functions walked: Count. -/
namespace Go.Proofs.YtibkbhglcmpeaaaDoor
open Go.RowKit
set_option linter.unusedVariables false
set_option maxRecDepth 100000

/-- A block of three cells. -/
def At3 (w : World) (b : Nat) (x y z : Value) : Prop := b < w.heap.size ∧ w.cell? ⟨b, 0, none⟩ = some x ∧ w.cell? ⟨b, 1, none⟩ = some y ∧ w.cell? ⟨b, 2, none⟩ = some z ∧ ∀ o, w.frozen? ⟨b, o, none⟩ = false
theorem At3.new (w : World) (x y z : Value) (t : TypeId) : At3 (w.alloc (.cells #[x, y, z] t)) w.heap.size x y z := ⟨by simp, by simp, by simp, by simp, fun o => by simp⟩
theorem At3.below {w w' : World} {b : Nat} {x y z : Value} (h : At3 w b x y z) (hb : Below w.heap.size w w') : At3 w' b x y z :=
  ⟨Nat.lt_of_lt_of_le h.1 hb.size, keep_below hb _ _ h.2.1, keep_below hb _ _ h.2.2.1, keep_below hb _ _ h.2.2.2.1, fun o => by rw [← h.2.2.2.2 o]; exact hb.frozen (p := ⟨b, o, none⟩) h.1⟩

theorem At3.go {w w' : World} {b : Nat} {x y z : Value} (h : At3 w b x y z) (hB : Below w.heap.size w w') : Hid (At3 w' b x y z) := Lib.hid (h.below hB)
end Go.Proofs.YtibkbhglcmpeaaaDoor

/- Plain arrays, plain: what is wrong with one; tidied; its depth. -/
namespace Go.Proofs.YtibkbhglcmpeaaaDoor
set_option maxRecDepth 100000
open Fl
set_option linter.unusedVariables false

def hd (q : List PA) : PA := q[0]?.getD default
instance instDecFnt7 (x : Nat) : Decidable (Fnt x) := by unfold Fnt; infer_instance
end Go.Proofs.YtibkbhglcmpeaaaDoor

/- Plain arrays, the document's functions walked: check, Check. -/
namespace Go.Proofs.YtibkbhglcmpeaaaDoor
open Go.RowKit Fl
set_option linter.unusedVariables false
set_option maxRecDepth 100000
def IntIs (n : Int) (w : World) (e : Ending) (w' : World) : Prop := e = .returned (.int .i64 n) ∧ Below w.heap.size w w'
theorem IntIs.mk {n m : Int} {w w' : World} (h : m = n) (hb : Below w.heap.size w w') : IntIs n w (.returned (.int .i64 m)) w' := ⟨by rw [h], hb⟩

/-- A block of four cells. -/
def Blk4 (w : World) (b : Nat) (x y z t : Value) : Prop := b < w.heap.size ∧ w.cell? ⟨b, 0, none⟩ = some x ∧ w.cell? ⟨b, 1, none⟩ = some y ∧ w.cell? ⟨b, 2, none⟩ = some z ∧ w.cell? ⟨b, 3, none⟩ = some t ∧ ∀ o, w.frozen? ⟨b, o, none⟩ = false
theorem Blk4.new (w : World) (x y z u : Value) (t : TypeId) : Blk4 (w.alloc (.cells #[x, y, z, u] t)) w.heap.size x y z u := ⟨by simp, by simp, by simp, by simp, by simp, fun o => by simp⟩
theorem Blk4.below {w w' : World} {b : Nat} {x y z t : Value} (h : Blk4 w b x y z t) (hb : Below w.heap.size w w') : Blk4 w' b x y z t :=
  ⟨Nat.lt_of_lt_of_le h.1 hb.size, keep_below hb _ _ h.2.1, keep_below hb _ _ h.2.2.1, keep_below hb _ _ h.2.2.2.1, keep_below hb _ _ h.2.2.2.2.1, fun o => by rw [← h.2.2.2.2.2 o]; exact hb.frozen (p := ⟨b, o, none⟩) h.1⟩

theorem Blk4.go {w w' : World} {b : Nat} {x y z t : Value} (h : Blk4 w b x y z t) (hB : Below w.heap.size w w') : Hid (Blk4 w' b x y z t) := Lib.hid (h.below hB)
end Go.Proofs.YtibkbhglcmpeaaaDoor

/- Plain arrays, the document's functions walked: Ints, Item, Same. -/
namespace Go.Proofs.YtibkbhglcmpeaaaDoor
open Go.RowKit Fl
set_option linter.unusedVariables false
set_option maxRecDepth 100000

def BoolIs (b : Bool) (w : World) (e : Ending) (w' : World) : Prop := e = .returned (.bool b) ∧ Below w.heap.size w w'
theorem BoolIs.mk {n m : Bool} {w w' : World} (h : m = n) (hb : Below w.heap.size w w') : BoolIs n w (.returned (.bool m)) w' := ⟨by rw [h], hb⟩
end Go.Proofs.YtibkbhglcmpeaaaDoor

/- Rows of items that a call makes itself. -/
namespace Go.Proofs.YtibkbhglcmpeaaaDoor
open Go.RowKit Fl
set_option linter.unusedVariables false
set_option maxRecDepth 100000

abbrev QI := Int × Nat × Int × Value
def quadV (t : QI) : List Value := [.int .i64 t.1, .float .f64 t.2.1, .int .i32 t.2.2.1, t.2.2.2]
def flatI (L : List QI) : List Value := L.flatMap quadV
theorem flatI_len (L : List QI) : (flatI L).length = L.length * 4 := by
  induction L with
  | nil => rfl
  | cons t L ih => simp only [flatI, List.flatMap_cons, List.length_append] at ih ⊢; rw [ih]; simp [quadV]; omega
theorem flatI_at {L : List QI} {i : Nat} {t : QI} (h : L[i]? = some t) : (flatI L)[i * 4]? = some (.int .i64 t.1) ∧ (flatI L)[i * 4 + 1]? = some (.float .f64 t.2.1) ∧ (flatI L)[i * 4 + 2]? = some (.int .i32 t.2.2.1) ∧ (flatI L)[i * 4 + 3]? = some t.2.2.2 := by
  obtain ⟨hk, e⟩ := List.getElem?_eq_some_iff.1 h
  have hl : L = L.take i ++ ([t] ++ L.drop (i + 1)) := by rw [← e]; simp
  have hlen : (flatI (L.take i)).length = i * 4 := by rw [flatI_len, List.length_take]; omega
  have hf : flatI L = flatI (L.take i) ++ (quadV t ++ flatI (L.drop (i + 1))) := by
    conv => lhs; rw [hl]
    simp [flatI]
  rw [hf]
  refine ⟨?_, ?_, ?_, ?_⟩
  · rw [List.getElem?_append_right (by omega), hlen]; simp [quadV]
  · rw [List.getElem?_append_right (by omega), hlen, Nat.add_sub_cancel_left]; rfl
  · rw [List.getElem?_append_right (by omega), hlen, Nat.add_sub_cancel_left]; rfl
  · rw [List.getElem?_append_right (by omega), hlen, Nat.add_sub_cancel_left]; rfl
/-- L are the cells of the items l. -/
def Quad (w : World) (ok : Nat → Prop) (L : List QI) (l : List PI) : Prop :=
  L.length = l.length ∧ ∀ (i : Nat) (x : PI), l[i]? = some x → ∃ v, L[i]? = some (x.1, x.2.1, x.2.2.1, v) ∧ IsB w ok v x.2.2.2
theorem Quad.nil (w : World) (ok : Nat → Prop) : Quad w ok [] [] := ⟨rfl, fun i x h => by simp at h⟩
theorem Quad.keep {w w' : World} {ok ok' : Nat → Prop} {L : List QI} {l : List PI} (hk : Kept ok w w') (hm : ∀ b, b < w.heap.size → ok b → ok' b) (h : Quad w ok L l) : Quad w' ok' L l :=
  ⟨h.1, fun i x hx => by obtain ⟨v, h1, h2⟩ := h.2 i x hx; exact ⟨v, h1, h2.keep hk hm⟩⟩
theorem Its.of_own {w : World} {base n : Nat} {ok : Nat → Prop} {v : Value} {L : List QI} {l : List PI} (h : w.ownsRow base 32 4 v n (flatI L)) (hq : Quad w ok L l) : Its w (fun b => ok b ∨ base ≤ b) v l := by
  have hn : n = l.length := by have := h.1; rw [flatI_len, hq.1] at this; omega
  subst hn
  have hB : ∀ (i : Nat) (x : PI), l[i]? = some x → IsB w (fun b => ok b ∨ base ≤ b) ((L[i]?.map (fun t => t.2.2.2)).getD undef) x.2.2.2 := by
    intro i x hx
    obtain ⟨u, h1, h2⟩ := hq.2 i x hx
    rw [h1]
    exact h2.wide (fun _ _ h => .inl h)
  rcases h.2 with ⟨rfl, hl0⟩ | ⟨g, cap, cur, rfl, hb, hg, hnc, hcm, hcs, htake⟩
  · have : l = [] := List.eq_nil_of_length_eq_zero hl0
    subst this
    exact Its.nil _ _
  · refine ⟨_, cap, fun i => (L[i]?.map (fun t => t.2.2.2)).getD undef, rfl, hnc, hcm, fun i x hx => ?_, hB⟩
    obtain ⟨u, h1, h2⟩ := hq.2 i x hx
    obtain ⟨c0, c1, c2, c3⟩ := flatI_at h1
    have hi := (List.getElem?_eq_some_iff.1 hx).1
    refine ⟨g, 0, rfl, .inr hb, ?_, ?_, ?_, ?_⟩
    · rw [Nat.zero_add, h.cellAt (i * 4) (by omega)]; exact c0
    · rw [Nat.zero_add, h.cellAt (i * 4 + 1) (by omega)]; exact c1
    · rw [Nat.zero_add, h.cellAt (i * 4 + 2) (by omega)]; exact c2
    · rw [Nat.zero_add, h.cellAt (i * 4 + 3) (by omega), c3]; simp only [h1, Option.map_some, Option.getD_some]
theorem cell_four_new (w : World) (a b c d : Value) (t : TypeId) : ∀ j u, [a, b, c, d][j]? = some u → (w.alloc (.cells #[a, b, c, d] t)).cell? ((⟨w.heap.size, 0, none⟩ : Addr).add j) = some u := by
  intro j u h
  rw [Go.WideShapes.add_plain]
  match j with
  | 0 => simp at h; subst h; simp
  | 1 => simp at h; subst h; simp
  | 2 => simp at h; subst h; simp
  | 3 => simp at h; subst h; simp
  | j + 4 => simp at h
theorem At3.other {w : World} {b : Nat} {x y z : Value} (h : At3 w b x y z) (p : Addr) (hp : b ≠ p.block) (v : Value) : At3 (w.setCell p v) b x y z := by
  obtain ⟨h0, h1, h2, h3, h4⟩ := h
  have hne : ∀ o, p ≠ (⟨b, o, none⟩ : Addr) := fun o e => hp (by rw [e])
  exact ⟨by simpa using h0, by rw [World.cell?_setCell_other _ _ _ _ (hne _)]; exact h1, by rw [World.cell?_setCell_other _ _ _ _ (hne _)]; exact h2, by rw [World.cell?_setCell_other _ _ _ _ (hne _)]; exact h3, fun o => by simpa using h4 o⟩
theorem At3.grown {w w' : World} {b : Nat} {x y z : Value} (h : At3 w b x y z) {row : Option Nat} (hg : w.grownBy w' row) (hne : some b ≠ row) : At3 w' b x y z := by
  obtain ⟨h0, h1, h2, h3, h4⟩ := h
  exact ⟨Nat.lt_of_lt_of_le h0 hg.size, hg.cell h1 hne, hg.cell h2 hne, hg.cell h3 hne, fun o => by rw [← h4 o]; exact grown_frozen hg h0 hne⟩
end Go.Proofs.YtibkbhglcmpeaaaDoor

/- Plain arrays, the document's functions walked: Tidy. -/
namespace Go.Proofs.YtibkbhglcmpeaaaDoor
open Go.RowKit Fl
set_option linter.unusedVariables false
set_option maxRecDepth 100000

theorem Kept.grown {ok : Nat → Prop} {w w' : World} {row : Option Nat} (h : w.grownBy w' row) (hne : ∀ b, ok b → some b ≠ row) : Kept ok w w' := fun a v o hv => h.cell hv (hne _ o)
end Go.Proofs.YtibkbhglcmpeaaaDoor

/- Package value, walked: numbers, letters. -/
namespace Go.Proofs.YtibkbhglcmpeaaaDoor
open Go.RowKit Fl
set_option linter.unusedVariables false
set_option maxRecDepth 100000

/-- A vector, or why there is none. -/
def VecOr (c : Int) (V : VV) (w : World) (e : Ending) (w' : World) : Prop := ∃ u, e = .returned (.tuple #[.agg #[u], .int .i64 c]) ∧ (c = 0 → IsV w' (fun b => w.heap.size ≤ b) u V) ∧ (c ≠ 0 → u = .nilIface) ∧ Below w.heap.size w w'
theorem VecOr.no {c : Int} {V : VV} {w w' : World} (hc : c ≠ 0) (hb : Below w.heap.size w w') : VecOr c V w (.returned (.tuple #[.agg #[.nilIface], .int .i64 c])) w' := ⟨_, rfl, fun h => absurd h hc, fun _ => rfl, hb⟩
end Go.Proofs.YtibkbhglcmpeaaaDoor

/- Package value, walked: boxes. -/
namespace Go.Proofs.YtibkbhglcmpeaaaDoor
open Go.RowKit Fl
set_option linter.unusedVariables false
set_option maxRecDepth 100000

/-- An array, or why there is none. -/
def ArrOr (c : Int) (A : List Int × VV) (w : World) (e : Ending) (w' : World) : Prop := ∃ sh u, e = .returned (.tuple #[.agg #[sh, u], .int .i64 c]) ∧ (c = 0 → IsArr w' (fun b => w.heap.size ≤ b) sh u A) ∧ (c ≠ 0 → sh = .slice none 0 0 ∧ u = .nilIface) ∧ Below w.heap.size w w'
theorem ArrOr.no {c : Int} {A : List Int × VV} {w w' : World} (hc : c ≠ 0) (hb : Below w.heap.size w w') : ArrOr c A w (.returned (.tuple #[.agg #[.slice none 0 0, .nilIface], .int .i64 c])) w' := ⟨_, _, rfl, fun h => absurd h hc, fun _ => ⟨rfl, rfl⟩, hb⟩
theorem IsArr.keep {w w' : World} {ok ok' : Nat → Prop} {sh u : Value} {p : List Int × VV} (hk : Kept ok w w') (hm : ∀ b, b < w.heap.size → ok b → ok' b) (h : IsArr w ok sh u p) : IsArr w' ok' sh u p := ⟨h.1.keep hk hm, h.2.keep hk hm⟩
theorem IsArr.grow {w w' : World} {ok : Nat → Prop} {sh u : Value} {p : List Int × VV} (h : IsArr w ok sh u p) (hb : Below w.heap.size w w') : IsArr w' ok sh u p := h.keep (Kept.below hb) (fun _ _ h => h)
theorem IsArr.wide {w : World} {ok ok' : Nat → Prop} {sh u : Value} {p : List Int × VV} (h : IsArr w ok sh u p) (hm : ∀ b, b < w.heap.size → ok b → ok' b) : IsArr w ok' sh u p := h.keep (Kept.refl _ _) hm
/-- The cells of arrays that a call makes. -/
theorem Arrs.of_own {w : World} {base : Nat} {ok : Nat → Prop} {g n : Nat} {A B : Nat → Value} {l : List (List Int × VV)} (h : w.ownsRow base 39 2 (.slice (some ⟨g, 0, none⟩) n n) n (pairL n A B)) (hn : l.length = n) (hm : n ≤ 2000000)
    (hl : ∀ i p, l[i]? = some p → IsArr w ok (A i) (B i) p) (hg : ok g) : Arrs w ok (.slice (some ⟨g, 0, none⟩) n n) l := by
  subst hn
  refine ⟨_, _, A, B, rfl, Nat.le_refl _, by unfold maxLen; omega, fun i hi => ⟨g, 0, rfl, hg, ?_, ?_⟩, fun i hi => (hl i _ (List.getElem?_eq_getElem hi)).1, fun i hi => (hl i _ (List.getElem?_eq_getElem hi)).2⟩
  · rw [Nat.zero_add, owns_cell2 h (i * 2) (by rw [pairL_len]; omega), pairL_fst]
  · rw [Nat.zero_add, owns_cell2 h (i * 2 + 1) (by rw [pairL_len]; omega), pairL_snd]
theorem IsArr.go {w w' : World} {ok : Nat → Prop} {sh u : Value} {p : List Int × VV} (h : IsArr w ok sh u p) (hB : Below w.heap.size w w') : Hid (IsArr w' ok sh u p) := Lib.hid (h.grow hB)
end Go.Proofs.YtibkbhglcmpeaaaDoor

/- Package value, walked: elements, ofWithin, Of. -/
namespace Go.Proofs.YtibkbhglcmpeaaaDoor
open Go.RowKit Fl
set_option linter.unusedVariables false
set_option maxRecDepth 100000

end Go.Proofs.YtibkbhglcmpeaaaDoor

/- Package value, walked: goodWithin, Good. -/
namespace Go.Proofs.YtibkbhglcmpeaaaDoor
open Go.RowKit Fl
set_option linter.unusedVariables false
set_option maxRecDepth 100000

theorem Arrs.at {w : World} {ok : Nat → Prop} {ao : Option Addr} {n cap k : Nat} {l : List (List Int × VV)} {p : List Int × VV} (h : Arrs w ok (.slice ao n cap) l) (hx : l[k]? = some p) :
    ∃ b off so sc u, ao = some ⟨b, off, none⟩ ∧ ok b ∧ w.cell? ⟨b, off + k * 2, none⟩ = some (.slice so p.1.length sc) ∧ w.cell? ⟨b, off + k * 2 + 1, none⟩ = some u ∧ IsArr w ok (.slice so p.1.length sc) u p := by
  obtain ⟨ao', cap', f, g, e, h1, h2, hc, hs, hv⟩ := h
  cases e
  obtain ⟨hk, e⟩ := List.getElem?_eq_some_iff.1 hx
  obtain ⟨b, off, e2, hb, c0, c1⟩ := hc k hk
  have h3 := hs k hk
  have h4 := hv k hk
  rw [e] at h3 h4
  obtain ⟨so, sc, e3, _⟩ := h3.opened
  rw [e3] at h3 c0
  exact ⟨b, off, so, sc, g k, e2, hb, c0, c1, h3, h4⟩
theorem Arrs.len {w : World} {ok : Nat → Prop} {v : Value} {l : List (List Int × VV)} (h : Arrs w ok v l) : ∃ ao cap, v = .slice ao l.length cap ∧ l.length ≤ cap ∧ cap ≤ maxLen := by
  obtain ⟨ao, cap, f, g, e, h1, h2, _⟩ := h
  exact ⟨ao, cap, e, h1, h2⟩
end Go.Proofs.YtibkbhglcmpeaaaDoor

/- Package value, walked: item. -/
namespace Go.Proofs.YtibkbhglcmpeaaaDoor
open Go.RowKit Fl
set_option linter.unusedVariables false
set_option maxRecDepth 100000

/-- A box that a call makes. -/
theorem IsB.one {w : World} {ok : Nat → Prop} {T : PA} {so io : Option Addr} {sc ic : Nat} (h : IsP w ok (.agg #[.slice so T.s.length sc, .slice io T.l.length ic, .int .i64 T.f]) T) (t : TypeId) :
    IsB (w.alloc (.cells #[.slice so T.s.length sc, .slice io T.l.length ic, .int .i64 T.f] t)) (fun b => ok b ∨ w.heap.size ≤ b) (.slice (some ⟨w.heap.size, 0, none⟩) 1 1) [T] := by
  refine ⟨_, 1, fun _ => .slice so T.s.length sc, fun _ => .slice io T.l.length ic, fun _ => .int .i64 T.f, rfl, by simp, by unfold maxLen; omega, fun j hj => ?_, fun j r hr => ?_⟩
  · obtain rfl : j = 0 := by simp at hj; omega
    obtain ⟨_, m0, m1, m2, _⟩ := At3.new w (.slice so T.s.length sc) (.slice io T.l.length ic) (.int .i64 T.f) t
    exact ⟨_, 0, rfl, .inr (Nat.le_refl _), m0, m1, m2⟩
  · have : r = T := by
      match j with
      | 0 => simpa using hr.symm
      | j + 1 => simp at hr
    subst this
    exact h.keep (Kept.below (below_new _ _)) (fun b _ h => .inl h)
end Go.Proofs.YtibkbhglcmpeaaaDoor

/- Package value, walked: Plain. -/
namespace Go.Proofs.YtibkbhglcmpeaaaDoor
open Go.RowKit Fl
set_option linter.unusedVariables false
set_option maxRecDepth 100000

end Go.Proofs.YtibkbhglcmpeaaaDoor

/- Plain arrays, the document's functions walked: Depth. -/
namespace Go.Proofs.YtibkbhglcmpeaaaDoor
open Go.RowKit Fl
set_option linter.unusedVariables false
set_option maxRecDepth 100000

end Go.Proofs.YtibkbhglcmpeaaaDoor

/- Package value, walked: Rank, Single, Depth. -/
namespace Go.Proofs.YtibkbhglcmpeaaaDoor
open Go.RowKit Fl
set_option linter.unusedVariables false
set_option maxRecDepth 100000

end Go.Proofs.YtibkbhglcmpeaaaDoor

/- Arrays and plain arrays, plain: what is made of a plain array is good, and told as it was. -/
namespace Go.Proofs.YtibkbhglcmpeaaaDoor
open Fl
set_option linter.unusedVariables false
set_option maxRecDepth 100000

end Go.Proofs.YtibkbhglcmpeaaaDoor

/- Package value's law: awake. -/
namespace Go.Proofs.YtibkbhglcmpeaaaDoor
open Go.RowKit Fl
set_option linter.unusedVariables false
set_option maxRecDepth 100000

end Go.Proofs.YtibkbhglcmpeaaaDoor

/- Package value's laws: Of; a region parted by what holds behind it. -/
namespace Go.Proofs.YtibkbhglcmpeaaaDoor
open Go.RowKit Fl
set_option linter.unusedVariables false
set_option maxRecDepth 100000

end Go.Proofs.YtibkbhglcmpeaaaDoor

/- Package value, walked: Num, Char, Box, List. -/
namespace Go.Proofs.YtibkbhglcmpeaaaDoor
open Go.RowKit Fl
set_option linter.unusedVariables false
set_option maxRecDepth 100000

end Go.Proofs.YtibkbhglcmpeaaaDoor

/- The reference's Num. -/
namespace Go.Proofs.YtibkbhglcmpeaaaDoor
open Go.RowKit Fl
set_option linter.unusedVariables false
set_option maxRecDepth 100000

end Go.Proofs.YtibkbhglcmpeaaaDoor

/- The reference's Nums. -/
namespace Go.Proofs.YtibkbhglcmpeaaaDoor
open Go.RowKit Fl
set_option linter.unusedVariables false
set_option maxRecDepth 100000

end Go.Proofs.YtibkbhglcmpeaaaDoor

/- Plain arrays of one element, and of numbers: what is wrong with them, their arrays, tidied. -/
namespace Go.Proofs.YtibkbhglcmpeaaaDoor
open Go.RowKit Fl
set_option linter.unusedVariables false
set_option maxRecDepth 100000

/-- A list of one item that a call makes. -/
theorem Its.one {w : World} {ok : Nat → Prop} (x : PI) {bx : Value} (hb : IsB w ok bx x.2.2.2) : Its (w.alloc (.cells #[.int .i64 x.1, .float .f64 x.2.1, .int .i32 x.2.2.1, bx] 32)) (fun b => ok b ∨ w.heap.size ≤ b) (.slice (some ⟨w.heap.size, 0, none⟩) 1 1) [x] := by
  have hc := cell_four_new w (.int .i64 x.1) (.float .f64 x.2.1) (.int .i32 x.2.2.1) bx 32
  refine ⟨_, _, fun _ => bx, rfl, Nat.le_refl _, by unfold maxLen; omega, fun i y hy => ?_, fun i y hy => ?_⟩
  · cases i with
    | succ i => simp at hy
    | zero =>
      obtain rfl : x = y := by simpa using hy
      exact ⟨_, _, rfl, Or.inr (Nat.le_refl _), hc 0 _ rfl, hc 1 _ rfl, hc 2 _ rfl, hc 3 _ rfl⟩
  · cases i with
    | succ i => simp at hy
    | zero =>
      obtain rfl : x = y := by simpa using hy
      exact (hb.grow (below_new _ _)).wide (fun b _ h => Or.inl h)
end Go.Proofs.YtibkbhglcmpeaaaDoor

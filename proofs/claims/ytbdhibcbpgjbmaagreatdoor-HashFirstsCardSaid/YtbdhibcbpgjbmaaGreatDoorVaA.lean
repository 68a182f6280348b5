/- Plain arrays: what they are, and what they are in memory; how an argument that is one is opened. -/
import Derived.Test.YtbdhibcbpgjbmaaGreatDoorVeP
import Derived.Deep.Slices
import Derived.Deep.Fields
import Derived.ChangeSame
namespace Go.Proofs.YtbdhibcbpgjbmaaGreatDoor
set_option maxRecDepth 100000
open Go.RowKit Go.ChangeShapes Go.WideShapes
set_option linter.unusedVariables false

/-- A plain array: its shape, its items (kind, number, character, box), its class. -/
inductive PA where
 | mk (s : List Int) (l : List (Int × Nat × Int × List PA)) (f : Int)
abbrev PI := Int × Nat × Int × List PA
def PA.s : PA → List Int | .mk s _ _ => s
def PA.l : PA → List PI | .mk _ l _ => l
def PA.f : PA → Int | .mk _ _ f => f
instance : Inhabited PA := ⟨.mk [] [] 0⟩
theorem PA.eta (p : PA) : p = .mk p.s p.l p.f := by cases p; rfl
theorem PA.ext {p q : PA} (h1 : p.s = q.s) (h2 : p.l = q.l) (h3 : p.f = q.f) : p = q := by
 cases p; cases q; cases h1; cases h2; cases h3; rfl

/-- Boxes lie in one another at most d deep; floats are words. -/
def lo : Nat → PA → Prop
 | 0, _ => False
 | d + 1, p => ∀ x ∈ p.l, x.2.1 < 18446744073709551616 ∧ ∀ q ∈ x.2.2.2, lo d q
theorem lo_mono {d : Nat} : ∀ {p : PA}, lo d p → ∀ {e : Nat}, d ≤ e → lo e p := by
 induction d with
 | zero => intro p h; exact h.elim
 | succ d ih =>
  intro p h e he
  obtain ⟨e, rfl⟩ : ∃ e', e = e' + 1 := ⟨e - 1, by omega⟩
  exact fun x hx => ⟨(h x hx).1, fun q hq => ih ((h x hx).2 q hq) (by omega)⟩

/-- u is the plain array p. -/
inductive IsP (w : World) (ok : Nat → Prop) : Value → PA → Prop
 | mk {sh : Value} {s : List Int} {l : List PI} {f : Int} {ao : Option Addr} {cap : Nat} (bo : Nat → Option Addr) (bc : Nat → Nat) (X Y Z : Nat → Nat → Value)
   (hs : Slc w ok sh s.length (ints s)) (h1 : l.length ≤ cap) (h2 : cap ≤ maxLen)
   (hi : ∀ i x, l[i]? = some x → ∃ b off, ao = some ⟨b, off, Option.none⟩ ∧ ok b ∧ w.cell? ⟨b, off + i * 4, Option.none⟩ = some (.int .i64 x.1) ∧ w.cell? ⟨b, off + i * 4 + 1, Option.none⟩ = some (.float .f64 x.2.1) ∧
    w.cell? ⟨b, off + i * 4 + 2, Option.none⟩ = some (.int .i32 x.2.2.1) ∧ w.cell? ⟨b, off + i * 4 + 3, Option.none⟩ = some (.slice (bo i) x.2.2.2.length (bc i)))
   (hb : ∀ i x, l[i]? = some x → x.2.2.2.length ≤ bc i ∧ bc i ≤ maxLen)
   (hc : ∀ i x, l[i]? = some x → ∀ k, k < x.2.2.2.length → ∃ b off, bo i = some ⟨b, off, Option.none⟩ ∧ ok b ∧ w.cell? ⟨b, off + k * 3, Option.none⟩ = some (X i k) ∧ w.cell? ⟨b, off + k * 3 + 1, Option.none⟩ = some (Y i k) ∧ w.cell? ⟨b, off + k * 3 + 2, Option.none⟩ = some (Z i k))
   (hp : ∀ i x, l[i]? = some x → ∀ k q, x.2.2.2[k]? = some q → IsP w ok (.agg #[X i k, Y i k, Z i k]) q) :
   IsP w ok (.agg #[sh, .slice ao l.length cap, .int .i64 f]) (.mk s l f)

/-- v is a list of plain arrays. -/
def IsB (w : World) (ok : Nat → Prop) (v : Value) (q : List PA) : Prop :=
 ∃ (ao : Option Addr) (cap : Nat) (X Y Z : Nat → Value), v = .slice ao q.length cap ∧ q.length ≤ cap ∧ cap ≤ maxLen ∧
  (∀ k, k < q.length → ∃ b off, ao = some ⟨b, off, Option.none⟩ ∧ ok b ∧ w.cell? ⟨b, off + k * 3, Option.none⟩ = some (X k) ∧ w.cell? ⟨b, off + k * 3 + 1, Option.none⟩ = some (Y k) ∧ w.cell? ⟨b, off + k * 3 + 2, Option.none⟩ = some (Z k)) ∧
  ∀ k p, q[k]? = some p → IsP w ok (.agg #[X k, Y k, Z k]) p
/-- v is a list of items. -/
def Its (w : World) (ok : Nat → Prop) (v : Value) (l : List PI) : Prop :=
 ∃ (ao : Option Addr) (cap : Nat) (B : Nat → Value), v = .slice ao l.length cap ∧ l.length ≤ cap ∧ cap ≤ maxLen ∧
  (∀ i x, l[i]? = some x → ∃ b off, ao = some ⟨b, off, Option.none⟩ ∧ ok b ∧ w.cell? ⟨b, off + i * 4, Option.none⟩ = some (.int .i64 x.1) ∧ w.cell? ⟨b, off + i * 4 + 1, Option.none⟩ = some (.float .f64 x.2.1) ∧
    w.cell? ⟨b, off + i * 4 + 2, Option.none⟩ = some (.int .i32 x.2.2.1) ∧ w.cell? ⟨b, off + i * 4 + 3, Option.none⟩ = some (B i)) ∧
  ∀ i x, l[i]? = some x → IsB w ok (B i) x.2.2.2
theorem IsP.keep {w w' : World} {ok ok' : Nat → Prop} {u : Value} {p : PA} (hk : Kept ok w w') (hm : ∀ b, b < w.heap.size → ok b → ok' b) (h : IsP w ok u p) : IsP w' ok' u p := by
 induction h with
 | mk bo bc X Y Z hs h1 h2 hi hb hc hp ih =>
  refine .mk bo bc X Y Z (hs.keep hk hm) h1 h2 (fun i x hx => ?_) hb (fun i x hx k hkk => ?_) ih
  ·obtain ⟨b, off, e, hb, c0, c1, c2, c3⟩ := hi i x hx
   exact ⟨b, off, e, hm b (World.block_lt_of_cell? w _ c0) hb, hk _ _ hb c0, hk _ _ hb c1, hk _ _ hb c2, hk _ _ hb c3⟩
  ·obtain ⟨b, off, e, hb, c0, c1, c2⟩ := hc i x hx k hkk
   exact ⟨b, off, e, hm b (World.block_lt_of_cell? w _ c0) hb, hk _ _ hb c0, hk _ _ hb c1, hk _ _ hb c2⟩
theorem IsB.keep {w w' : World} {ok ok' : Nat → Prop} {u : Value} {q : List PA} (hk : Kept ok w w') (hm : ∀ b, b < w.heap.size → ok b → ok' b) (h : IsB w ok u q) : IsB w' ok' u q := by
 obtain ⟨ao, cap, X, Y, Z, e, h1, h2, hc, hp⟩ := h
 refine ⟨ao, cap, X, Y, Z, e, h1, h2, fun k hkk => ?_, fun k p hx => (hp k p hx).keep hk hm⟩
 obtain ⟨b, off, e, hb, c0, c1, c2⟩ := hc k hkk
 exact ⟨b, off, e, hm b (World.block_lt_of_cell? w _ c0) hb, hk _ _ hb c0, hk _ _ hb c1, hk _ _ hb c2⟩
theorem Its.keep {w w' : World} {ok ok' : Nat → Prop} {u : Value} {l : List PI} (hk : Kept ok w w') (hm : ∀ b, b < w.heap.size → ok b → ok' b) (h : Its w ok u l) : Its w' ok' u l := by
 obtain ⟨ao, cap, B, e, h1, h2, hc, hp⟩ := h
 refine ⟨ao, cap, B, e, h1, h2, fun i x hx => ?_, fun k p hx => (hp k p hx).keep hk hm⟩
 obtain ⟨b, off, e, hb, c0, c1, c2, c3⟩ := hc i x hx
 exact ⟨b, off, e, hm b (World.block_lt_of_cell? w _ c0) hb, hk _ _ hb c0, hk _ _ hb c1, hk _ _ hb c2, hk _ _ hb c3⟩
theorem IsP.grow {w w' : World} {ok : Nat → Prop} {u : Value} {p : PA} (h : IsP w ok u p) (hb : Below w.heap.size w w') : IsP w' ok u p := h.keep (Kept.below hb) (fun _ _ h => h)
theorem IsB.grow {w w' : World} {ok : Nat → Prop} {u : Value} {p : List PA} (h : IsB w ok u p) (hb : Below w.heap.size w w') : IsB w' ok u p := h.keep (Kept.below hb) (fun _ _ h => h)
theorem Its.grow {w w' : World} {ok : Nat → Prop} {u : Value} {p : List PI} (h : Its w ok u p) (hb : Below w.heap.size w w') : Its w' ok u p := h.keep (Kept.below hb) (fun _ _ h => h)
theorem IsP.wide {w : World} {ok ok' : Nat → Prop} {u : Value} {p : PA} (h : IsP w ok u p) (hm : ∀ b, b < w.heap.size → ok b → ok' b) : IsP w ok' u p := h.keep (Kept.refl _ _) hm
theorem IsB.wide {w : World} {ok ok' : Nat → Prop} {u : Value} {p : List PA} (h : IsB w ok u p) (hm : ∀ b, b < w.heap.size → ok b → ok' b) : IsB w ok' u p := h.keep (Kept.refl _ _) hm
theorem Its.wide {w : World} {ok ok' : Nat → Prop} {u : Value} {p : List PI} (h : Its w ok u p) (hm : ∀ b, b < w.heap.size → ok b → ok' b) : Its w ok' u p := h.keep (Kept.refl _ _) hm
theorem IsP.lt {w : World} {ok : Nat → Prop} {u : Value} {p : PA} (h : IsP w ok u p) : IsP w (fun b => ok b ∧ b < w.heap.size) u p := h.wide (fun _ hb ho => ⟨ho, hb⟩)
theorem Its.lt {w : World} {ok : Nat → Prop} {u : Value} {p : List PI} (h : Its w ok u p) : Its w (fun b => ok b ∧ b < w.heap.size) u p := h.wide (fun _ hb ho => ⟨ho, hb⟩)
theorem IsB.lt {w : World} {ok : Nat → Prop} {u : Value} {p : List PA} (h : IsB w ok u p) : IsB w (fun b => ok b ∧ b < w.heap.size) u p := h.wide (fun _ hb ho => ⟨ho, hb⟩)

/-- A plain array opened. -/
theorem IsP.opened {w : World} {ok : Nat → Prop} {u : Value} {p : PA} (h : IsP w ok u p) :
  ∃ so sc io ic, u = .agg #[.slice so p.s.length sc, .slice io p.l.length ic, .int .i64 p.f] ∧ Slc w ok (.slice so p.s.length sc) p.s.length (ints p.s) ∧ Its w ok (.slice io p.l.length ic) p.l := by
 cases h with
 | @mk sh s l f ao cap bo bc X Y Z hs h1 h2 hi hb hc hp =>
  obtain ⟨so, sc, rfl, _⟩ := hs.opened
  refine ⟨so, sc, ao, cap, rfl, hs, ao, cap, fun i => .slice (bo i) ((l[i]?.map (fun x => x.2.2.2.length)).getD 0) (bc i), rfl, h1, h2, fun i x hx => ?_, fun i x hx => ?_⟩
  ·have hx : l[i]? = some x := hx
   obtain ⟨b, off, e, hb, c0, c1, c2, c3⟩ := hi i x hx
   exact ⟨b, off, e, hb, c0, c1, c2, by simp only [c3, hx]; rfl⟩
  ·have hx : l[i]? = some x := hx
   refine ⟨bo i, bc i, X i, Y i, Z i, by simp only [hx]; rfl, (hb i x hx).1, (hb i x hx).2, hc i x hx, hp i x hx⟩
theorem IsP.of {w : World} {ok : Nat → Prop} {sh it : Value} {s : List Int} {l : List PI} {f : Int} (hs : Slc w ok sh s.length (ints s)) (hi : Its w ok it l) : IsP w ok (.agg #[sh, it, .int .i64 f]) (.mk s l f) := by
 classical
 obtain ⟨ao, cap, B, rfl, h1, h2, hc, hp⟩ := hi
 have hB : ∀ i, ∃ (t : Option Addr × Nat × (Nat → Value) × (Nat → Value) × (Nat → Value)), ∀ x, l[i]? = some x → B i = .slice t.1 x.2.2.2.length t.2.1 ∧ x.2.2.2.length ≤ t.2.1 ∧ t.2.1 ≤ maxLen ∧
   (∀ k, k < x.2.2.2.length → ∃ b off, t.1 = some ⟨b, off, Option.none⟩ ∧ ok b ∧ w.cell? ⟨b, off + k * 3, Option.none⟩ = some (t.2.2.1 k) ∧ w.cell? ⟨b, off + k * 3 + 1, Option.none⟩ = some (t.2.2.2.1 k) ∧ w.cell? ⟨b, off + k * 3 + 2, Option.none⟩ = some (t.2.2.2.2 k)) ∧
   ∀ k p, x.2.2.2[k]? = some p → IsP w ok (.agg #[t.2.2.1 k, t.2.2.2.1 k, t.2.2.2.2 k]) p := by
  intro i
  cases hx : l[i]? with
  | none => exact ⟨(Option.none, 0, fun _ => undef, fun _ => undef, fun _ => undef), fun x h => by cases h⟩
  | some x =>
   obtain ⟨bo, bc, X, Y, Z, e, a1, a2, a3, a4⟩ := hp i x hx
   exact ⟨(bo, bc, X, Y, Z), fun y hy => by cases hy; exact ⟨e, a1, a2, a3, a4⟩⟩
 have T := fun i => Classical.choose_spec (hB i)
 refine .mk (fun i => (Classical.choose (hB i)).1) (fun i => (Classical.choose (hB i)).2.1) (fun i => (Classical.choose (hB i)).2.2.1) (fun i => (Classical.choose (hB i)).2.2.2.1) (fun i => (Classical.choose (hB i)).2.2.2.2) hs h1 h2 (fun i x hx => ?_) (fun i x hx => ⟨(T i x hx).2.1, (T i x hx).2.2.1⟩) (fun i x hx => (T i x hx).2.2.2.1) (fun i x hx => (T i x hx).2.2.2.2)
 obtain ⟨b, off, e, hb, c0, c1, c2, c3⟩ := hc i x hx
 exact ⟨b, off, e, hb, c0, c1, c2, c3.trans (congrArg some (T i x hx).1)⟩
/-- An item of a list. -/
theorem Its.at {w : World} {ok : Nat → Prop} {ao : Option Addr} {n cap : Nat} {l : List PI} {i : Nat} {x : PI} (h : Its w ok (.slice ao n cap) l) (hx : l[i]? = some x) :
  ∃ b off bo bc, ao = some ⟨b, off, Option.none⟩ ∧ ok b ∧ w.cell? ⟨b, off + i * 4, Option.none⟩ = some (.int .i64 x.1) ∧ w.cell? ⟨b, off + i * 4 + 1, Option.none⟩ = some (.float .f64 x.2.1) ∧
    w.cell? ⟨b, off + i * 4 + 2, Option.none⟩ = some (.int .i32 x.2.2.1) ∧ w.cell? ⟨b, off + i * 4 + 3, Option.none⟩ = some (.slice bo x.2.2.2.length bc) ∧ IsB w ok (.slice bo x.2.2.2.length bc) x.2.2.2 := by
 obtain ⟨ao', cap', B, e, h1, h2, hc, hp⟩ := h
 cases e
 obtain ⟨b, off, e, hb, c0, c1, c2, c3⟩ := hc i x hx
 have hB := hp i x hx
 obtain ⟨bo, bc, X, Y, Z, e2, _⟩ := id hB
 rw [e2] at c3 hB
 exact ⟨b, off, bo, bc, e, hb, c0, c1, c2, c3, hB⟩
/-- A plain array of a list. -/
theorem IsB.at {w : World} {ok : Nat → Prop} {ao : Option Addr} {n cap : Nat} {q : List PA} {k : Nat} {p : PA} (h : IsB w ok (.slice ao n cap) q) (hx : q[k]? = some p) :
  ∃ b off so sc io ic, ao = some ⟨b, off, Option.none⟩ ∧ ok b ∧ w.cell? ⟨b, off + k * 3, Option.none⟩ = some (.slice so p.s.length sc) ∧ w.cell? ⟨b, off + k * 3 + 1, Option.none⟩ = some (.slice io p.l.length ic) ∧
    w.cell? ⟨b, off + k * 3 + 2, Option.none⟩ = some (.int .i64 p.f) ∧ IsP w ok (.agg #[.slice so p.s.length sc, .slice io p.l.length ic, .int .i64 p.f]) p := by
 obtain ⟨ao', cap', X, Y, Z, e, h1, h2, hc, hp⟩ := h
 cases e
 obtain ⟨b, off, e, hb, c0, c1, c2⟩ := hc k (List.getElem?_eq_some_iff.1 hx).1
 have hP := hp k p hx
 obtain ⟨so, sc, io, ic, e2, _⟩ := hP.opened
 rw [e2] at hP
 simp only [Value.agg.injEq, Array.mk.injEq, List.cons.injEq, and_true] at e2
 obtain ⟨e3, e4, e5⟩ := e2
 rw [e3] at c0; rw [e4] at c1; rw [e5] at c2
 exact ⟨b, off, so, sc, io, ic, e, hb, c0, c1, c2, hP⟩
theorem Its.len {w : World} {ok : Nat → Prop} {v : Value} {l : List PI} (h : Its w ok v l) : ∃ ao cap, v = .slice ao l.length cap ∧ l.length ≤ cap ∧ cap ≤ maxLen := by
 obtain ⟨ao, cap, B, e, h1, h2, _⟩ := h; exact ⟨ao, cap, e, h1, h2⟩
theorem IsB.len {w : World} {ok : Nat → Prop} {v : Value} {q : List PA} (h : IsB w ok v q) : ∃ ao cap, v = .slice ao q.length cap ∧ q.length ≤ cap ∧ cap ≤ maxLen := by
 obtain ⟨ao, cap, X, Y, Z, e, h1, h2, _⟩ := h; exact ⟨ao, cap, e, h1, h2⟩
theorem Its.nil (w : World) (ok : Nat → Prop) : Its w ok (.slice Option.none 0 0) [] := ⟨_, _, fun _ => undef, rfl, Nat.le_refl _, by unfold maxLen; omega, fun i x h => by simp at h, fun i x h => by simp at h⟩
theorem IsB.nil (w : World) (ok : Nat → Prop) : IsB w ok (.slice Option.none 0 0) [] := ⟨_, _, fun _ => undef, fun _ => undef, fun _ => undef, rfl, Nat.le_refl _, by unfold maxLen; omega, fun i h => absurd h (by simp), fun i x h => by simp at h⟩
theorem IsP.nil (w : World) (ok : Nat → Prop) : IsP w ok (.agg #[.slice Option.none 0 0, .slice Option.none 0 0, .int .i64 0]) (.mk [] [] 0) := IsP.of (Slc.nil _ _) (Its.nil _ _)
theorem IsP.go {w w' : World} {ok : Nat → Prop} {u : Value} {p : PA} (h : IsP w ok u p) (hB : Below w.heap.size w w') : Hid (IsP w' ok u p) := Lib.hid (h.grow hB)
theorem IsB.go {w w' : World} {ok : Nat → Prop} {u : Value} {p : List PA} (h : IsB w ok u p) (hB : Below w.heap.size w w') : Hid (IsB w' ok u p) := Lib.hid (h.grow hB)
theorem Its.go {w w' : World} {ok : Nat → Prop} {u : Value} {p : List PI} (h : Its w ok u p) (hB : Below w.heap.size w w') : Hid (Its w' ok u p) := Lib.hid (h.grow hB)
end Go.Proofs.YtbdhibcbpgjbmaaGreatDoor

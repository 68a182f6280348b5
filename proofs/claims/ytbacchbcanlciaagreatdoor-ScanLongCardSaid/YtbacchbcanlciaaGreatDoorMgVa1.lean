/- Merged: VaA, VaC, VaM, VaD, VaE, VaG, VaH, VaI, VaJ, VaK, VaN, VaO, VaP, VaF, VaQ, VaR, VaS, VaW, VbA, VbC, VbD, VbE. -/
import Derived.Deep.Slices
import Derived.Deep.Fields
import Derived.ChangeSame
import Derived.Deep.LoopGhost
import Derived.Test.YtbacchbcanlciaaGreatDoorMgVe1
import Derived.Test.YtbacchbcanlciaaGreatDoorMgNu1
import Derived.Test.YtbacchbcanlciaaGreatDoorMgSh1
import Derived.Test.YtbacchbcanlciaaGreatDoorMgBv1
import Derived.Test.YtbacchbcanlciaaGreatDoorMgSq1
namespace Go.Proofs.YtbacchbcanlciaaGreatDoor
set_option maxRecDepth 100000
open Go.RowKit Go.ChangeShapes Go.WideShapes
set_option linter.unusedVariables false

inductive PA where
 | mk (s : List Int) (l : List (Int × Nat × Int × List PA)) (f : Int)
abbrev PI := Int × Nat × Int × List PA
def PA.s : PA → List Int | .mk s _ _ => s
def PA.l : PA → List PI | .mk _ l _ => l
def PA.f : PA → Int | .mk _ _ f => f
instance : Inhabited PA := ⟨.mk [] [] 0⟩
theorem PA.ext {p q : PA} (h1 : p.s = q.s) (h2 : p.l = q.l) (h3 : p.f = q.f) : p = q := by
 cases p; cases q; cases h1; cases h2; cases h3; rfl

def lo : Nat → PA → Prop
 | 0, _ => False
 | d + 1, p => ∀ x ∈ p.l, x.2.1 < 18446744073709551616 ∧ ∀ q ∈ x.2.2.2, lo d q
inductive IsP (w : World) (ok : Nat → Prop) : Value → PA → Prop
 | mk {sh : Value} {s : List Int} {l : List PI} {f : Int} {ao : Option Addr} {cap : Nat} (bo : Nat → Option Addr) (bc : Nat → Nat) (X Y Z : Nat → Nat → Value)
   (hs : Slc w ok sh s.length (ints s)) (h1 : l.length ≤ cap) (h2 : cap ≤ maxLen)
   (hi : ∀ i x, l[i]? = some x → ∃ b off, ao = some ⟨b, off, Option.none⟩ ∧ ok b ∧ w.cell? ⟨b, off + i * 4, Option.none⟩ = some (.int .i64 x.1) ∧ w.cell? ⟨b, off + i * 4 + 1, Option.none⟩ = some (.float .f64 x.2.1) ∧
    w.cell? ⟨b, off + i * 4 + 2, Option.none⟩ = some (.int .i32 x.2.2.1) ∧ w.cell? ⟨b, off + i * 4 + 3, Option.none⟩ = some (.slice (bo i) x.2.2.2.length (bc i)))
   (hb : ∀ i x, l[i]? = some x → x.2.2.2.length ≤ bc i ∧ bc i ≤ maxLen)
   (hc : ∀ i x, l[i]? = some x → ∀ k, k < x.2.2.2.length → ∃ b off, bo i = some ⟨b, off, Option.none⟩ ∧ ok b ∧ w.cell? ⟨b, off + k * 3, Option.none⟩ = some (X i k) ∧ w.cell? ⟨b, off + k * 3 + 1, Option.none⟩ = some (Y i k) ∧ w.cell? ⟨b, off + k * 3 + 2, Option.none⟩ = some (Z i k))
   (hp : ∀ i x, l[i]? = some x → ∀ k q, x.2.2.2[k]? = some q → IsP w ok (.agg #[X i k, Y i k, Z i k]) q) :
   IsP w ok (.agg #[sh, .slice ao l.length cap, .int .i64 f]) (.mk s l f)

def IsB (w : World) (ok : Nat → Prop) (v : Value) (q : List PA) : Prop :=
 ∃ (ao : Option Addr) (cap : Nat) (X Y Z : Nat → Value), v = .slice ao q.length cap ∧ q.length ≤ cap ∧ cap ≤ maxLen ∧
  (∀ k, k < q.length → ∃ b off, ao = some ⟨b, off, Option.none⟩ ∧ ok b ∧ w.cell? ⟨b, off + k * 3, Option.none⟩ = some (X k) ∧ w.cell? ⟨b, off + k * 3 + 1, Option.none⟩ = some (Y k) ∧ w.cell? ⟨b, off + k * 3 + 2, Option.none⟩ = some (Z k)) ∧
  ∀ k p, q[k]? = some p → IsP w ok (.agg #[X k, Y k, Z k]) p
def Its (w : World) (ok : Nat → Prop) (v : Value) (l : List PI) : Prop :=
 ∃ (ao : Option Addr) (cap : Nat) (B : Nat → Value), v = .slice ao l.length cap ∧ l.length ≤ cap ∧ cap ≤ maxLen ∧
  (∀ i x, l[i]? = some x → ∃ b off, ao = some ⟨b, off, Option.none⟩ ∧ ok b ∧ w.cell? ⟨b, off + i * 4, Option.none⟩ = some (.int .i64 x.1) ∧ w.cell? ⟨b, off + i * 4 + 1, Option.none⟩ = some (.float .f64 x.2.1) ∧
    w.cell? ⟨b, off + i * 4 + 2, Option.none⟩ = some (.int .i32 x.2.2.1) ∧ w.cell? ⟨b, off + i * 4 + 3, Option.none⟩ = some (B i)) ∧
  ∀ i x, l[i]? = some x → IsB w ok (B i) x.2.2.2
theorem IsP.keep {w w' : World} {ok ok' : Nat → Prop} {u : Value} {p : PA} (hk : Kept ok w w') (hm : ∀ b, b < w.heap.size → ok b → ok' b) (h : IsP w ok u p) : IsP w' ok' u p := by
 induction h with
 | mk bo bc X Y Z hs h1 h2 hi hb hc hp ih =>
  refine .mk bo bc X Y Z (hs.keep hk hm) h1 h2 (fun i x hx => ?_) hb (fun i x hx k hkk => ?_) ih
  ·obtain ⟨b, off, e, hb, c0, c1, c2, c3⟩ := hi i x hx
   exact ⟨b, off, e, hm b (World.block_lt_of_cell? w _ c0) hb, hk _ _ hb c0, hk _ _ hb c1, hk _ _ hb c2, hk _ _ hb c3⟩
  ·obtain ⟨b, off, e, hb, c0, c1, c2⟩ := hc i x hx k hkk
   exact ⟨b, off, e, hm b (World.block_lt_of_cell? w _ c0) hb, hk _ _ hb c0, hk _ _ hb c1, hk _ _ hb c2⟩
theorem IsB.keep {w w' : World} {ok ok' : Nat → Prop} {u : Value} {q : List PA} (hk : Kept ok w w') (hm : ∀ b, b < w.heap.size → ok b → ok' b) (h : IsB w ok u q) : IsB w' ok' u q := by
 obtain ⟨ao, cap, X, Y, Z, e, h1, h2, hc, hp⟩ := h
 refine ⟨ao, cap, X, Y, Z, e, h1, h2, fun k hkk => ?_, fun k p hx => (hp k p hx).keep hk hm⟩
 obtain ⟨b, off, e, hb, c0, c1, c2⟩ := hc k hkk
 exact ⟨b, off, e, hm b (World.block_lt_of_cell? w _ c0) hb, hk _ _ hb c0, hk _ _ hb c1, hk _ _ hb c2⟩
theorem Its.keep {w w' : World} {ok ok' : Nat → Prop} {u : Value} {l : List PI} (hk : Kept ok w w') (hm : ∀ b, b < w.heap.size → ok b → ok' b) (h : Its w ok u l) : Its w' ok' u l := by
 obtain ⟨ao, cap, B, e, h1, h2, hc, hp⟩ := h
 refine ⟨ao, cap, B, e, h1, h2, fun i x hx => ?_, fun k p hx => (hp k p hx).keep hk hm⟩
 obtain ⟨b, off, e, hb, c0, c1, c2, c3⟩ := hc i x hx
 exact ⟨b, off, e, hm b (World.block_lt_of_cell? w _ c0) hb, hk _ _ hb c0, hk _ _ hb c1, hk _ _ hb c2, hk _ _ hb c3⟩
theorem IsP.grow {w w' : World} {ok : Nat → Prop} {u : Value} {p : PA} (h : IsP w ok u p) (hb : Below w.heap.size w w') : IsP w' ok u p := h.keep (Kept.below hb) (fun _ _ h => h)
theorem IsB.grow {w w' : World} {ok : Nat → Prop} {u : Value} {p : List PA} (h : IsB w ok u p) (hb : Below w.heap.size w w') : IsB w' ok u p := h.keep (Kept.below hb) (fun _ _ h => h)
theorem Its.grow {w w' : World} {ok : Nat → Prop} {u : Value} {p : List PI} (h : Its w ok u p) (hb : Below w.heap.size w w') : Its w' ok u p := h.keep (Kept.below hb) (fun _ _ h => h)
theorem IsP.wide {w : World} {ok ok' : Nat → Prop} {u : Value} {p : PA} (h : IsP w ok u p) (hm : ∀ b, b < w.heap.size → ok b → ok' b) : IsP w ok' u p := h.keep (Kept.refl _ _) hm
theorem IsB.wide {w : World} {ok ok' : Nat → Prop} {u : Value} {p : List PA} (h : IsB w ok u p) (hm : ∀ b, b < w.heap.size → ok b → ok' b) : IsB w ok' u p := h.keep (Kept.refl _ _) hm
theorem Its.wide {w : World} {ok ok' : Nat → Prop} {u : Value} {p : List PI} (h : Its w ok u p) (hm : ∀ b, b < w.heap.size → ok b → ok' b) : Its w ok' u p := h.keep (Kept.refl _ _) hm
theorem IsP.lt {w : World} {ok : Nat → Prop} {u : Value} {p : PA} (h : IsP w ok u p) : IsP w (fun b => ok b ∧ b < w.heap.size) u p := h.wide (fun _ hb ho => ⟨ho, hb⟩)
theorem Its.lt {w : World} {ok : Nat → Prop} {u : Value} {p : List PI} (h : Its w ok u p) : Its w (fun b => ok b ∧ b < w.heap.size) u p := h.wide (fun _ hb ho => ⟨ho, hb⟩)
theorem IsB.lt {w : World} {ok : Nat → Prop} {u : Value} {p : List PA} (h : IsB w ok u p) : IsB w (fun b => ok b ∧ b < w.heap.size) u p := h.wide (fun _ hb ho => ⟨ho, hb⟩)

theorem IsP.opened {w : World} {ok : Nat → Prop} {u : Value} {p : PA} (h : IsP w ok u p) :
  ∃ so sc io ic, u = .agg #[.slice so p.s.length sc, .slice io p.l.length ic, .int .i64 p.f] ∧ Slc w ok (.slice so p.s.length sc) p.s.length (ints p.s) ∧ Its w ok (.slice io p.l.length ic) p.l := by
 cases h with
 | @mk sh s l f ao cap bo bc X Y Z hs h1 h2 hi hb hc hp =>
  obtain ⟨so, sc, rfl, _⟩ := hs.opened
  refine ⟨so, sc, ao, cap, rfl, hs, ao, cap, fun i => .slice (bo i) ((l[i]?.map (fun x => x.2.2.2.length)).getD 0) (bc i), rfl, h1, h2, fun i x hx => ?_, fun i x hx => ?_⟩
  ·have hx : l[i]? = some x := hx
   obtain ⟨b, off, e, hb, c0, c1, c2, c3⟩ := hi i x hx
   exact ⟨b, off, e, hb, c0, c1, c2, by simp only [c3, hx]; rfl⟩
  ·have hx : l[i]? = some x := hx
   refine ⟨bo i, bc i, X i, Y i, Z i, by simp only [hx]; rfl, (hb i x hx).1, (hb i x hx).2, hc i x hx, hp i x hx⟩
theorem IsP.of {w : World} {ok : Nat → Prop} {sh it : Value} {s : List Int} {l : List PI} {f : Int} (hs : Slc w ok sh s.length (ints s)) (hi : Its w ok it l) : IsP w ok (.agg #[sh, it, .int .i64 f]) (.mk s l f) := by
 classical
 obtain ⟨ao, cap, B, rfl, h1, h2, hc, hp⟩ := hi
 have hB : ∀ i, ∃ (t : Option Addr × Nat × (Nat → Value) × (Nat → Value) × (Nat → Value)), ∀ x, l[i]? = some x → B i = .slice t.1 x.2.2.2.length t.2.1 ∧ x.2.2.2.length ≤ t.2.1 ∧ t.2.1 ≤ maxLen ∧
   (∀ k, k < x.2.2.2.length → ∃ b off, t.1 = some ⟨b, off, Option.none⟩ ∧ ok b ∧ w.cell? ⟨b, off + k * 3, Option.none⟩ = some (t.2.2.1 k) ∧ w.cell? ⟨b, off + k * 3 + 1, Option.none⟩ = some (t.2.2.2.1 k) ∧ w.cell? ⟨b, off + k * 3 + 2, Option.none⟩ = some (t.2.2.2.2 k)) ∧
   ∀ k p, x.2.2.2[k]? = some p → IsP w ok (.agg #[t.2.2.1 k, t.2.2.2.1 k, t.2.2.2.2 k]) p := by
  intro i
  cases hx : l[i]? with
  | none => exact ⟨(Option.none, 0, fun _ => undef, fun _ => undef, fun _ => undef), fun x h => by cases h⟩
  | some x =>
   obtain ⟨bo, bc, X, Y, Z, e, a1, a2, a3, a4⟩ := hp i x hx
   exact ⟨(bo, bc, X, Y, Z), fun y hy => by cases hy; exact ⟨e, a1, a2, a3, a4⟩⟩
 have T := fun i => Classical.choose_spec (hB i)
 refine .mk (fun i => (Classical.choose (hB i)).1) (fun i => (Classical.choose (hB i)).2.1) (fun i => (Classical.choose (hB i)).2.2.1) (fun i => (Classical.choose (hB i)).2.2.2.1) (fun i => (Classical.choose (hB i)).2.2.2.2) hs h1 h2 (fun i x hx => ?_) (fun i x hx => ⟨(T i x hx).2.1, (T i x hx).2.2.1⟩) (fun i x hx => (T i x hx).2.2.2.1) (fun i x hx => (T i x hx).2.2.2.2)
 obtain ⟨b, off, e, hb, c0, c1, c2, c3⟩ := hc i x hx
 exact ⟨b, off, e, hb, c0, c1, c2, c3.trans (congrArg some (T i x hx).1)⟩
theorem Its.at {w : World} {ok : Nat → Prop} {ao : Option Addr} {n cap : Nat} {l : List PI} {i : Nat} {x : PI} (h : Its w ok (.slice ao n cap) l) (hx : l[i]? = some x) :
  ∃ b off bo bc, ao = some ⟨b, off, Option.none⟩ ∧ ok b ∧ w.cell? ⟨b, off + i * 4, Option.none⟩ = some (.int .i64 x.1) ∧ w.cell? ⟨b, off + i * 4 + 1, Option.none⟩ = some (.float .f64 x.2.1) ∧
    w.cell? ⟨b, off + i * 4 + 2, Option.none⟩ = some (.int .i32 x.2.2.1) ∧ w.cell? ⟨b, off + i * 4 + 3, Option.none⟩ = some (.slice bo x.2.2.2.length bc) ∧ IsB w ok (.slice bo x.2.2.2.length bc) x.2.2.2 := by
 obtain ⟨ao', cap', B, e, h1, h2, hc, hp⟩ := h
 cases e
 obtain ⟨b, off, e, hb, c0, c1, c2, c3⟩ := hc i x hx
 have hB := hp i x hx
 obtain ⟨bo, bc, X, Y, Z, e2, _⟩ := id hB
 rw [e2] at c3 hB
 exact ⟨b, off, bo, bc, e, hb, c0, c1, c2, c3, hB⟩
theorem IsB.at {w : World} {ok : Nat → Prop} {ao : Option Addr} {n cap : Nat} {q : List PA} {k : Nat} {p : PA} (h : IsB w ok (.slice ao n cap) q) (hx : q[k]? = some p) :
  ∃ b off so sc io ic, ao = some ⟨b, off, Option.none⟩ ∧ ok b ∧ w.cell? ⟨b, off + k * 3, Option.none⟩ = some (.slice so p.s.length sc) ∧ w.cell? ⟨b, off + k * 3 + 1, Option.none⟩ = some (.slice io p.l.length ic) ∧
    w.cell? ⟨b, off + k * 3 + 2, Option.none⟩ = some (.int .i64 p.f) ∧ IsP w ok (.agg #[.slice so p.s.length sc, .slice io p.l.length ic, .int .i64 p.f]) p := by
 obtain ⟨ao', cap', X, Y, Z, e, h1, h2, hc, hp⟩ := h
 cases e
 obtain ⟨b, off, e, hb, c0, c1, c2⟩ := hc k (List.getElem?_eq_some_iff.1 hx).1
 have hP := hp k p hx
 obtain ⟨so, sc, io, ic, e2, _⟩ := hP.opened
 rw [e2] at hP
 simp only [Value.agg.injEq, Array.mk.injEq, List.cons.injEq, and_true] at e2
 obtain ⟨e3, e4, e5⟩ := e2
 rw [e3] at c0; rw [e4] at c1; rw [e5] at c2
 exact ⟨b, off, so, sc, io, ic, e, hb, c0, c1, c2, hP⟩
theorem Its.len {w : World} {ok : Nat → Prop} {v : Value} {l : List PI} (h : Its w ok v l) : ∃ ao cap, v = .slice ao l.length cap ∧ l.length ≤ cap ∧ cap ≤ maxLen := by
 obtain ⟨ao, cap, B, e, h1, h2, _⟩ := h; exact ⟨ao, cap, e, h1, h2⟩
theorem IsB.len {w : World} {ok : Nat → Prop} {v : Value} {q : List PA} (h : IsB w ok v q) : ∃ ao cap, v = .slice ao q.length cap ∧ q.length ≤ cap ∧ cap ≤ maxLen := by
 obtain ⟨ao, cap, X, Y, Z, e, h1, h2, _⟩ := h; exact ⟨ao, cap, e, h1, h2⟩
theorem Its.nil (w : World) (ok : Nat → Prop) : Its w ok (.slice Option.none 0 0) [] := ⟨_, _, fun _ => undef, rfl, Nat.le_refl _, by unfold maxLen; omega, fun i x h => by simp at h, fun i x h => by simp at h⟩
theorem IsB.nil (w : World) (ok : Nat → Prop) : IsB w ok (.slice Option.none 0 0) [] := ⟨_, _, fun _ => undef, fun _ => undef, fun _ => undef, rfl, Nat.le_refl _, by unfold maxLen; omega, fun i h => absurd h (by simp), fun i x h => by simp at h⟩
theorem IsP.nil (w : World) (ok : Nat → Prop) : IsP w ok (.agg #[.slice Option.none 0 0, .slice Option.none 0 0, .int .i64 0]) (.mk [] [] 0) := IsP.of (Slc.nil _ _) (Its.nil _ _)
theorem IsP.go {w w' : World} {ok : Nat → Prop} {u : Value} {p : PA} (h : IsP w ok u p) (hB : Below w.heap.size w w') : Hid (IsP w' ok u p) := Lib.hid (h.grow hB)
theorem IsB.go {w w' : World} {ok : Nat → Prop} {u : Value} {p : List PA} (h : IsB w ok u p) (hB : Below w.heap.size w w') : Hid (IsB w' ok u p) := Lib.hid (h.grow hB)
theorem Its.go {w w' : World} {ok : Nat → Prop} {u : Value} {p : List PI} (h : Its w ok u p) (hB : Below w.heap.size w w') : Hid (Its w' ok u p) := Lib.hid (h.grow hB)
end Go.Proofs.YtbacchbcanlciaaGreatDoor

namespace Go.Proofs.YtbacchbcanlciaaGreatDoor
open Go.RowKit
set_option linter.unusedVariables false
set_option maxRecDepth 100000

def At3 (w : World) (b : Nat) (x y z : Value) : Prop := b < w.heap.size ∧ w.cell? ⟨b, 0, none⟩ = some x ∧ w.cell? ⟨b, 1, none⟩ = some y ∧ w.cell? ⟨b, 2, none⟩ = some z ∧ ∀ o, w.frozen? ⟨b, o, none⟩ = false
theorem At3.new (w : World) (x y z : Value) (t : TypeId) : At3 (w.alloc (.cells #[x, y, z] t)) w.heap.size x y z := ⟨by simp, by simp, by simp, by simp, fun o => by simp⟩
theorem At3.below {w w' : World} {b : Nat} {x y z : Value} (h : At3 w b x y z) (hb : Below w.heap.size w w') : At3 w' b x y z :=
 ⟨Nat.lt_of_lt_of_le h.1 hb.size, keep_below hb _ _ h.2.1, keep_below hb _ _ h.2.2.1, keep_below hb _ _ h.2.2.2.1, fun o => by rw [← h.2.2.2.2 o]; exact hb.frozen (p := ⟨b, o, none⟩) h.1⟩

theorem At3.go {w w' : World} {b : Nat} {x y z : Value} (h : At3 w b x y z) (hB : Below w.heap.size w w') : Hid (At3 w' b x y z) := Lib.hid (h.below hB)
end Go.Proofs.YtbacchbcanlciaaGreatDoor

namespace Go.Proofs.YtbacchbcanlciaaGreatDoor
set_option maxRecDepth 100000
open Fl
set_option linter.unusedVariables false

def hd (q : List PA) : PA := q[0]?.getD default
theorem ptake {α : Type} {l : List α} {k : Nat} {x : α} (h : l[k]? = some x) : l.take (k + 1) = l.take k ++ [x] := by
 obtain ⟨hk, e⟩ := List.getElem?_eq_some_iff.1 h
 rw [List.take_succ_eq_append_getElem hk, e]
instance instDecFnt7 (x : Nat) : Decidable (Fnt x) := by unfold Fnt; infer_instance
end Go.Proofs.YtbacchbcanlciaaGreatDoor

namespace Go.Proofs.YtbacchbcanlciaaGreatDoor
open Go.RowKit Fl
set_option linter.unusedVariables false
set_option maxRecDepth 100000
def IntIs (n : Int) (w : World) (e : Ending) (w' : World) : Prop := e = .returned (.int .i64 n) ∧ Below w.heap.size w w'
theorem IntIs.mk {n m : Int} {w w' : World} (h : m = n) (hb : Below w.heap.size w w') : IntIs n w (.returned (.int .i64 m)) w' := ⟨by rw [h], hb⟩

def Blk4 (w : World) (b : Nat) (x y z t : Value) : Prop := b < w.heap.size ∧ w.cell? ⟨b, 0, none⟩ = some x ∧ w.cell? ⟨b, 1, none⟩ = some y ∧ w.cell? ⟨b, 2, none⟩ = some z ∧ w.cell? ⟨b, 3, none⟩ = some t ∧ ∀ o, w.frozen? ⟨b, o, none⟩ = false
theorem Blk4.new (w : World) (x y z u : Value) (t : TypeId) : Blk4 (w.alloc (.cells #[x, y, z, u] t)) w.heap.size x y z u := ⟨by simp, by simp, by simp, by simp, by simp, fun o => by simp⟩
theorem Blk4.below {w w' : World} {b : Nat} {x y z t : Value} (h : Blk4 w b x y z t) (hb : Below w.heap.size w w') : Blk4 w' b x y z t :=
 ⟨Nat.lt_of_lt_of_le h.1 hb.size, keep_below hb _ _ h.2.1, keep_below hb _ _ h.2.2.1, keep_below hb _ _ h.2.2.2.1, keep_below hb _ _ h.2.2.2.2.1, fun o => by rw [← h.2.2.2.2.2 o]; exact hb.frozen (p := ⟨b, o, none⟩) h.1⟩

theorem Blk4.go {w w' : World} {b : Nat} {x y z t : Value} (h : Blk4 w b x y z t) (hB : Below w.heap.size w w') : Hid (Blk4 w' b x y z t) := Lib.hid (h.below hB)
end Go.Proofs.YtbacchbcanlciaaGreatDoor

namespace Go.Proofs.YtbacchbcanlciaaGreatDoor
open Go.RowKit Fl
set_option linter.unusedVariables false
set_option maxRecDepth 100000

def BoolIs (b : Bool) (w : World) (e : Ending) (w' : World) : Prop := e = .returned (.bool b) ∧ Below w.heap.size w w'
theorem BoolIs.mk {n m : Bool} {w w' : World} (h : m = n) (hb : Below w.heap.size w w') : BoolIs n w (.returned (.bool m)) w' := ⟨by rw [h], hb⟩
end Go.Proofs.YtbacchbcanlciaaGreatDoor

namespace Go.Proofs.YtbacchbcanlciaaGreatDoor
open Go.RowKit Fl
set_option linter.unusedVariables false
set_option maxRecDepth 100000

abbrev QI := Int × Nat × Int × Value
def Quad (w : World) (ok : Nat → Prop) (L : List QI) (l : List PI) : Prop :=
 L.length = l.length ∧ ∀ (i : Nat) (x : PI), l[i]? = some x → ∃ v, L[i]? = some (x.1, x.2.1, x.2.2.1, v) ∧ IsB w ok v x.2.2.2
theorem Quad.nil (w : World) (ok : Nat → Prop) : Quad w ok [] [] := ⟨rfl, fun i x h => by simp at h⟩
theorem Quad.keep {w w' : World} {ok ok' : Nat → Prop} {L : List QI} {l : List PI} (hk : Kept ok w w') (hm : ∀ b, b < w.heap.size → ok b → ok' b) (h : Quad w ok L l) : Quad w' ok' L l :=
 ⟨h.1, fun i x hx => by obtain ⟨v, h1, h2⟩ := h.2 i x hx; exact ⟨v, h1, h2.keep hk hm⟩⟩
theorem Quad.snoc {w : World} {ok : Nat → Prop} {L : List QI} {l : List PI} (h : Quad w ok L l) {x : PI} {v : Value} (hv : IsB w ok v x.2.2.2) : Quad w ok (L ++ [(x.1, x.2.1, x.2.2.1, v)]) (l ++ [x]) := by
 refine ⟨by simp [h.1], fun i y hy => ?_⟩
 by_cases hi : i < l.length
 ·rw [List.getElem?_append_left hi] at hy
  obtain ⟨u, h1, h2⟩ := h.2 i y hy
  exact ⟨u, by rw [List.getElem?_append_left (by rw [h.1]; exact hi)]; exact h1, h2⟩
 ·obtain ⟨h1, _⟩ := List.getElem?_eq_some_iff.1 hy
  have : i = l.length := by simp at h1; omega
  subst this
  rw [List.getElem?_append_right (Nat.le_refl _), Nat.sub_self] at hy
  cases Option.some.inj hy
  exact ⟨v, by rw [List.getElem?_append_right (by rw [h.1]; exact Nat.le_refl _), h.1, Nat.sub_self]; rfl, hv⟩
theorem At3.set1 {w : World} {b : Nat} {x y z : Value} (h : At3 w b x y z) (v : Value) : At3 (w.setCell ⟨b, 1, none⟩ v) b x v z := by
 obtain ⟨h0, h1, h2, h3, h4⟩ := h
 have hs : ∃ s, w.cell? ⟨b, 1, none⟩ = some s := ⟨_, h2⟩
 exact ⟨by simpa using h0, by rw [World.cell?_setCell_other _ _ _ _ (by simp)]; exact h1, World.cell?_setCell_same _ _ _ h2, by rw [World.cell?_setCell_other _ _ _ _ (by simp)]; exact h3, fun o => by simpa using h4 o⟩
theorem At3.set0 {w : World} {b : Nat} {x y z : Value} (h : At3 w b x y z) (v : Value) : At3 (w.setCell ⟨b, 0, none⟩ v) b v y z := by
 obtain ⟨h0, h1, h2, h3, h4⟩ := h
 exact ⟨by simpa using h0, World.cell?_setCell_same _ _ _ h1, by rw [World.cell?_setCell_other _ _ _ _ (by simp)]; exact h2, by rw [World.cell?_setCell_other _ _ _ _ (by simp)]; exact h3, fun o => by simpa using h4 o⟩
theorem At3.set2 {w : World} {b : Nat} {x y z : Value} (h : At3 w b x y z) (v : Value) : At3 (w.setCell ⟨b, 2, none⟩ v) b x y v := by
 obtain ⟨h0, h1, h2, h3, h4⟩ := h
 exact ⟨by simpa using h0, by rw [World.cell?_setCell_other _ _ _ _ (by simp)]; exact h1, by rw [World.cell?_setCell_other _ _ _ _ (by simp)]; exact h2, World.cell?_setCell_same _ _ _ h3, fun o => by simpa using h4 o⟩
theorem At3.other {w : World} {b : Nat} {x y z : Value} (h : At3 w b x y z) (p : Addr) (hp : b ≠ p.block) (v : Value) : At3 (w.setCell p v) b x y z := by
 obtain ⟨h0, h1, h2, h3, h4⟩ := h
 have hne : ∀ o, p ≠ (⟨b, o, none⟩ : Addr) := fun o e => hp (by rw [e])
 exact ⟨by simpa using h0, by rw [World.cell?_setCell_other _ _ _ _ (hne _)]; exact h1, by rw [World.cell?_setCell_other _ _ _ _ (hne _)]; exact h2, by rw [World.cell?_setCell_other _ _ _ _ (hne _)]; exact h3, fun o => by simpa using h4 o⟩
theorem At3.grown {w w' : World} {b : Nat} {x y z : Value} (h : At3 w b x y z) {row : Option Nat} (hg : w.grownBy w' row) (hne : some b ≠ row) : At3 w' b x y z := by
 obtain ⟨h0, h1, h2, h3, h4⟩ := h
 exact ⟨Nat.lt_of_lt_of_le h0 hg.size, hg.cell h1 hne, hg.cell h2 hne, hg.cell h3 hne, fun o => by rw [← h4 o]; exact grown_frozen hg h0 hne⟩
theorem Blk4.set1 {w : World} {b : Nat} {x y z t : Value} (h : Blk4 w b x y z t) (v : Value) : Blk4 (w.setCell ⟨b, 1, none⟩ v) b x v z t := by
 obtain ⟨h0, h1, h2, h3, h4, h5⟩ := h
 exact ⟨by simpa using h0, by rw [World.cell?_setCell_other _ _ _ _ (by simp)]; exact h1, World.cell?_setCell_same _ _ _ h2, by rw [World.cell?_setCell_other _ _ _ _ (by simp)]; exact h3, by rw [World.cell?_setCell_other _ _ _ _ (by simp)]; exact h4, fun o => by simpa using h5 o⟩
theorem Blk4.set2 {w : World} {b : Nat} {x y z t : Value} (h : Blk4 w b x y z t) (v : Value) : Blk4 (w.setCell ⟨b, 2, none⟩ v) b x y v t := by
 obtain ⟨h0, h1, h2, h3, h4, h5⟩ := h
 exact ⟨by simpa using h0, by rw [World.cell?_setCell_other _ _ _ _ (by simp)]; exact h1, by rw [World.cell?_setCell_other _ _ _ _ (by simp)]; exact h2, World.cell?_setCell_same _ _ _ h3, by rw [World.cell?_setCell_other _ _ _ _ (by simp)]; exact h4, fun o => by simpa using h5 o⟩
end Go.Proofs.YtbacchbcanlciaaGreatDoor

namespace Go.Proofs.YtbacchbcanlciaaGreatDoor
open Go.RowKit Fl
set_option linter.unusedVariables false
set_option maxRecDepth 100000

theorem Kept.grown {ok : Nat → Prop} {w w' : World} {row : Option Nat} (h : w.grownBy w' row) (hne : ∀ b, ok b → some b ≠ row) : Kept ok w w' := fun a v o hv => h.cell hv (hne _ o)
end Go.Proofs.YtbacchbcanlciaaGreatDoor

namespace Go.Proofs.YtbacchbcanlciaaGreatDoor
open Go.RowKit Fl
set_option linter.unusedVariables false
set_option maxRecDepth 100000

def VecOr (c : Int) (V : VV) (w : World) (e : Ending) (w' : World) : Prop := ∃ u, e = .returned (.tuple #[.agg #[u], .int .i64 c]) ∧ (c = 0 → IsV w' (fun b => w.heap.size ≤ b) u V) ∧ (c ≠ 0 → u = .nilIface) ∧ Below w.heap.size w w'
theorem VecOr.no {c : Int} {V : VV} {w w' : World} (hc : c ≠ 0) (hb : Below w.heap.size w w') : VecOr c V w (.returned (.tuple #[.agg #[.nilIface], .int .i64 c])) w' := ⟨_, rfl, fun h => absurd h hc, fun _ => rfl, hb⟩
end Go.Proofs.YtbacchbcanlciaaGreatDoor

namespace Go.Proofs.YtbacchbcanlciaaGreatDoor
open Go.RowKit Fl
set_option linter.unusedVariables false
set_option maxRecDepth 100000

def ArrOr (c : Int) (A : List Int × VV) (w : World) (e : Ending) (w' : World) : Prop := ∃ sh u, e = .returned (.tuple #[.agg #[sh, u], .int .i64 c]) ∧ (c = 0 → IsArr w' (fun b => w.heap.size ≤ b) sh u A) ∧ (c ≠ 0 → sh = .slice none 0 0 ∧ u = .nilIface) ∧ Below w.heap.size w w'
theorem ArrOr.no {c : Int} {A : List Int × VV} {w w' : World} (hc : c ≠ 0) (hb : Below w.heap.size w w') : ArrOr c A w (.returned (.tuple #[.agg #[.slice none 0 0, .nilIface], .int .i64 c])) w' := ⟨_, _, rfl, fun h => absurd h hc, fun _ => ⟨rfl, rfl⟩, hb⟩
theorem IsArr.keep {w w' : World} {ok ok' : Nat → Prop} {sh u : Value} {p : List Int × VV} (hk : Kept ok w w') (hm : ∀ b, b < w.heap.size → ok b → ok' b) (h : IsArr w ok sh u p) : IsArr w' ok' sh u p := ⟨h.1.keep hk hm, h.2.keep hk hm⟩
theorem IsArr.grow {w w' : World} {ok : Nat → Prop} {sh u : Value} {p : List Int × VV} (h : IsArr w ok sh u p) (hb : Below w.heap.size w w') : IsArr w' ok sh u p := h.keep (Kept.below hb) (fun _ _ h => h)
theorem IsArr.wide {w : World} {ok ok' : Nat → Prop} {sh u : Value} {p : List Int × VV} (h : IsArr w ok sh u p) (hm : ∀ b, b < w.heap.size → ok b → ok' b) : IsArr w ok' sh u p := h.keep (Kept.refl _ _) hm
theorem IsArr.go {w w' : World} {ok : Nat → Prop} {sh u : Value} {p : List Int × VV} (h : IsArr w ok sh u p) (hB : Below w.heap.size w w') : Hid (IsArr w' ok sh u p) := Lib.hid (h.grow hB)
end Go.Proofs.YtbacchbcanlciaaGreatDoor

namespace Go.Proofs.YtbacchbcanlciaaGreatDoor
open Go.RowKit Fl
set_option linter.unusedVariables false
set_option maxRecDepth 100000

end Go.Proofs.YtbacchbcanlciaaGreatDoor

namespace Go.Proofs.YtbacchbcanlciaaGreatDoor
open Go.RowKit Fl
set_option linter.unusedVariables false
set_option maxRecDepth 100000

theorem Arrs.at {w : World} {ok : Nat → Prop} {ao : Option Addr} {n cap k : Nat} {l : List (List Int × VV)} {p : List Int × VV} (h : Arrs w ok (.slice ao n cap) l) (hx : l[k]? = some p) :
  ∃ b off so sc u, ao = some ⟨b, off, none⟩ ∧ ok b ∧ w.cell? ⟨b, off + k * 2, none⟩ = some (.slice so p.1.length sc) ∧ w.cell? ⟨b, off + k * 2 + 1, none⟩ = some u ∧ IsArr w ok (.slice so p.1.length sc) u p := by
 obtain ⟨ao', cap', f, g, e, h1, h2, hc, hs, hv⟩ := h
 cases e
 obtain ⟨hk, e⟩ := List.getElem?_eq_some_iff.1 hx
 obtain ⟨b, off, e2, hb, c0, c1⟩ := hc k hk
 have h3 := hs k hk
 have h4 := hv k hk
 rw [e] at h3 h4
 obtain ⟨so, sc, e3, _⟩ := h3.opened
 rw [e3] at h3 c0
 exact ⟨b, off, so, sc, g k, e2, hb, c0, c1, h3, h4⟩
theorem Arrs.len {w : World} {ok : Nat → Prop} {v : Value} {l : List (List Int × VV)} (h : Arrs w ok v l) : ∃ ao cap, v = .slice ao l.length cap ∧ l.length ≤ cap ∧ cap ≤ maxLen := by
 obtain ⟨ao, cap, f, g, e, h1, h2, _⟩ := h
 exact ⟨ao, cap, e, h1, h2⟩
end Go.Proofs.YtbacchbcanlciaaGreatDoor

namespace Go.Proofs.YtbacchbcanlciaaGreatDoor
open Go.RowKit Fl
set_option linter.unusedVariables false
set_option maxRecDepth 100000

theorem IsB.one {w : World} {ok : Nat → Prop} {T : PA} {so io : Option Addr} {sc ic : Nat} (h : IsP w ok (.agg #[.slice so T.s.length sc, .slice io T.l.length ic, .int .i64 T.f]) T) (t : TypeId) :
  IsB (w.alloc (.cells #[.slice so T.s.length sc, .slice io T.l.length ic, .int .i64 T.f] t)) (fun b => ok b ∨ w.heap.size ≤ b) (.slice (some ⟨w.heap.size, 0, none⟩) 1 1) [T] := by
 refine ⟨_, 1, fun _ => .slice so T.s.length sc, fun _ => .slice io T.l.length ic, fun _ => .int .i64 T.f, rfl, by simp, by unfold maxLen; omega, fun j hj => ?_, fun j r hr => ?_⟩
 ·obtain rfl : j = 0 := by simp at hj; omega
  obtain ⟨_, m0, m1, m2, _⟩ := At3.new w (.slice so T.s.length sc) (.slice io T.l.length ic) (.int .i64 T.f) t
  exact ⟨_, 0, rfl, .inr (Nat.le_refl _), m0, m1, m2⟩
 ·have : r = T := by
   match j with
   | 0 => simpa using hr.symm
   | j + 1 => simp at hr
  subst this
  exact h.keep (Kept.below (below_new _ _)) (fun b _ h => .inl h)
theorem VV.boxs_len {V : VV} (h : V.cls = 2) : V.boxs.length = V.len := by cases V <;> simp_all [VV.cls, VV.boxs, VV.len]

end Go.Proofs.YtbacchbcanlciaaGreatDoor

namespace Go.Proofs.YtbacchbcanlciaaGreatDoor
open Go.RowKit Fl
set_option linter.unusedVariables false
set_option maxRecDepth 100000

end Go.Proofs.YtbacchbcanlciaaGreatDoor

namespace Go.Proofs.YtbacchbcanlciaaGreatDoor
open Go.RowKit Fl
set_option linter.unusedVariables false
set_option maxRecDepth 100000

end Go.Proofs.YtbacchbcanlciaaGreatDoor

namespace Go.Proofs.YtbacchbcanlciaaGreatDoor
open Go.RowKit Fl
set_option linter.unusedVariables false
set_option maxRecDepth 100000

end Go.Proofs.YtbacchbcanlciaaGreatDoor

namespace Go.Proofs.YtbacchbcanlciaaGreatDoor
open Fl
set_option linter.unusedVariables false
set_option maxRecDepth 100000

end Go.Proofs.YtbacchbcanlciaaGreatDoor

namespace Go.Proofs.YtbacchbcanlciaaGreatDoor
open Go.RowKit Fl
set_option linter.unusedVariables false
set_option maxRecDepth 100000

end Go.Proofs.YtbacchbcanlciaaGreatDoor

namespace Go.Proofs.YtbacchbcanlciaaGreatDoor
open Go.RowKit Fl
set_option linter.unusedVariables false
set_option maxRecDepth 100000

end Go.Proofs.YtbacchbcanlciaaGreatDoor

namespace Go.Proofs.YtbacchbcanlciaaGreatDoor
open Go.RowKit Fl
set_option linter.unusedVariables false
set_option maxRecDepth 100000

end Go.Proofs.YtbacchbcanlciaaGreatDoor

namespace Go.Proofs.YtbacchbcanlciaaGreatDoor
open Go.RowKit Fl
set_option linter.unusedVariables false
set_option maxRecDepth 100000

end Go.Proofs.YtbacchbcanlciaaGreatDoor

namespace Go.Proofs.YtbacchbcanlciaaGreatDoor
open Go.RowKit Fl
set_option linter.unusedVariables false
set_option maxRecDepth 100000

end Go.Proofs.YtbacchbcanlciaaGreatDoor

namespace Go.Proofs.YtbacchbcanlciaaGreatDoor
open Go.RowKit Fl
set_option linter.unusedVariables false
set_option maxRecDepth 100000

end Go.Proofs.YtbacchbcanlciaaGreatDoor

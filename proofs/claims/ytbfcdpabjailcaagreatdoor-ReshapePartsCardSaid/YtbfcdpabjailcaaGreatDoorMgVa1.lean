/- Merged: VaA, VaC, VaM, VaD, VaE, VaG, VaH, VaI, VaJ, VaK, VaN, VaO, VaP, VaF, VaQ, VaR, VaS, VaW, VbA, VbC, VbD, VbE, VbB, VbI, VaB. -/
import Derived.Deep.Slices
import Derived.Deep.Fields
import Derived.ChangeSame
import Derived.Deep.LoopGhost
import Derived.OpenShut
import Derived.Test.YtbfcdpabjailcaaGreatDoorMgVe1
import Derived.Test.YtbfcdpabjailcaaGreatDoorMgNu1
import Derived.Test.YtbfcdpabjailcaaGreatDoorMgSh1
import Derived.Test.YtbfcdpabjailcaaGreatDoorMgBv1
import Derived.Test.YtbfcdpabjailcaaGreatDoorMgSq1
/- Plain arrays: what they are, and what they are in memory; how an argument that is one is opened. -/
namespace Go.Proofs.YtbfcdpabjailcaaGreatDoor
set_option maxRecDepth 100000
open Go.RowKit Go.ChangeShapes Go.WideShapes
set_option linter.unusedVariables false

/-- A plain array: its shape, its items (kind, number, character, box), its class. -/
inductive PA where
  | mk (s : List Int) (l : List (Int × Nat × Int × List PA)) (f : Int)
abbrev PI := Int × Nat × Int × List PA
def PA.s : PA → List Int | .mk s _ _ => s
def PA.l : PA → List PI | .mk _ l _ => l
def PA.f : PA → Int | .mk _ _ f => f
instance : Inhabited PA := ⟨.mk [] [] 0⟩
theorem PA.ext {p q : PA} (h1 : p.s = q.s) (h2 : p.l = q.l) (h3 : p.f = q.f) : p = q := by
  cases p; cases q; cases h1; cases h2; cases h3; rfl

/-- Boxes lie in one another at most d deep; floats are words. -/
def lo : Nat → PA → Prop
  | 0, _ => False
  | d + 1, p => ∀ x ∈ p.l, x.2.1 < 18446744073709551616 ∧ ∀ q ∈ x.2.2.2, lo d q
theorem lo_mono {d : Nat} : ∀ {p : PA}, lo d p → ∀ {e : Nat}, d ≤ e → lo e p := by
  induction d with
  | zero => intro p h; exact h.elim
  | succ d ih =>
    intro p h e he
    obtain ⟨e, rfl⟩ : ∃ e', e = e' + 1 := ⟨e - 1, by omega⟩
    exact fun x hx => ⟨(h x hx).1, fun q hq => ih ((h x hx).2 q hq) (by omega)⟩

/-- u is the plain array p. -/
inductive IsP (w : World) (ok : Nat → Prop) : Value → PA → Prop
  | mk {sh : Value} {s : List Int} {l : List PI} {f : Int} {ao : Option Addr} {cap : Nat} (bo : Nat → Option Addr) (bc : Nat → Nat) (X Y Z : Nat → Nat → Value)
      (hs : Slc w ok sh s.length (ints s)) (h1 : l.length ≤ cap) (h2 : cap ≤ maxLen)
      (hi : ∀ i x, l[i]? = some x → ∃ b off, ao = some ⟨b, off, Option.none⟩ ∧ ok b ∧ w.cell? ⟨b, off + i * 4, Option.none⟩ = some (.int .i64 x.1) ∧ w.cell? ⟨b, off + i * 4 + 1, Option.none⟩ = some (.float .f64 x.2.1) ∧
        w.cell? ⟨b, off + i * 4 + 2, Option.none⟩ = some (.int .i32 x.2.2.1) ∧ w.cell? ⟨b, off + i * 4 + 3, Option.none⟩ = some (.slice (bo i) x.2.2.2.length (bc i)))
      (hb : ∀ i x, l[i]? = some x → x.2.2.2.length ≤ bc i ∧ bc i ≤ maxLen)
      (hc : ∀ i x, l[i]? = some x → ∀ k, k < x.2.2.2.length → ∃ b off, bo i = some ⟨b, off, Option.none⟩ ∧ ok b ∧ w.cell? ⟨b, off + k * 3, Option.none⟩ = some (X i k) ∧ w.cell? ⟨b, off + k * 3 + 1, Option.none⟩ = some (Y i k) ∧ w.cell? ⟨b, off + k * 3 + 2, Option.none⟩ = some (Z i k))
      (hp : ∀ i x, l[i]? = some x → ∀ k q, x.2.2.2[k]? = some q → IsP w ok (.agg #[X i k, Y i k, Z i k]) q) :
      IsP w ok (.agg #[sh, .slice ao l.length cap, .int .i64 f]) (.mk s l f)

/-- v is a list of plain arrays. -/
def IsB (w : World) (ok : Nat → Prop) (v : Value) (q : List PA) : Prop :=
  ∃ (ao : Option Addr) (cap : Nat) (X Y Z : Nat → Value), v = .slice ao q.length cap ∧ q.length ≤ cap ∧ cap ≤ maxLen ∧
    (∀ k, k < q.length → ∃ b off, ao = some ⟨b, off, Option.none⟩ ∧ ok b ∧ w.cell? ⟨b, off + k * 3, Option.none⟩ = some (X k) ∧ w.cell? ⟨b, off + k * 3 + 1, Option.none⟩ = some (Y k) ∧ w.cell? ⟨b, off + k * 3 + 2, Option.none⟩ = some (Z k)) ∧
    ∀ k p, q[k]? = some p → IsP w ok (.agg #[X k, Y k, Z k]) p
/-- v is a list of items. -/
def Its (w : World) (ok : Nat → Prop) (v : Value) (l : List PI) : Prop :=
  ∃ (ao : Option Addr) (cap : Nat) (B : Nat → Value), v = .slice ao l.length cap ∧ l.length ≤ cap ∧ cap ≤ maxLen ∧
    (∀ i x, l[i]? = some x → ∃ b off, ao = some ⟨b, off, Option.none⟩ ∧ ok b ∧ w.cell? ⟨b, off + i * 4, Option.none⟩ = some (.int .i64 x.1) ∧ w.cell? ⟨b, off + i * 4 + 1, Option.none⟩ = some (.float .f64 x.2.1) ∧
        w.cell? ⟨b, off + i * 4 + 2, Option.none⟩ = some (.int .i32 x.2.2.1) ∧ w.cell? ⟨b, off + i * 4 + 3, Option.none⟩ = some (B i)) ∧
    ∀ i x, l[i]? = some x → IsB w ok (B i) x.2.2.2
theorem IsP.keep {w w' : World} {ok ok' : Nat → Prop} {u : Value} {p : PA} (hk : Kept ok w w') (hm : ∀ b, b < w.heap.size → ok b → ok' b) (h : IsP w ok u p) : IsP w' ok' u p := by
  induction h with
  | mk bo bc X Y Z hs h1 h2 hi hb hc hp ih =>
    refine .mk bo bc X Y Z (hs.keep hk hm) h1 h2 (fun i x hx => ?_) hb (fun i x hx k hkk => ?_) ih
    · obtain ⟨b, off, e, hb, c0, c1, c2, c3⟩ := hi i x hx
      exact ⟨b, off, e, hm b (World.block_lt_of_cell? w _ c0) hb, hk _ _ hb c0, hk _ _ hb c1, hk _ _ hb c2, hk _ _ hb c3⟩
    · obtain ⟨b, off, e, hb, c0, c1, c2⟩ := hc i x hx k hkk
      exact ⟨b, off, e, hm b (World.block_lt_of_cell? w _ c0) hb, hk _ _ hb c0, hk _ _ hb c1, hk _ _ hb c2⟩
theorem IsB.keep {w w' : World} {ok ok' : Nat → Prop} {u : Value} {q : List PA} (hk : Kept ok w w') (hm : ∀ b, b < w.heap.size → ok b → ok' b) (h : IsB w ok u q) : IsB w' ok' u q := by
  obtain ⟨ao, cap, X, Y, Z, e, h1, h2, hc, hp⟩ := h
  refine ⟨ao, cap, X, Y, Z, e, h1, h2, fun k hkk => ?_, fun k p hx => (hp k p hx).keep hk hm⟩
  obtain ⟨b, off, e, hb, c0, c1, c2⟩ := hc k hkk
  exact ⟨b, off, e, hm b (World.block_lt_of_cell? w _ c0) hb, hk _ _ hb c0, hk _ _ hb c1, hk _ _ hb c2⟩
theorem Its.keep {w w' : World} {ok ok' : Nat → Prop} {u : Value} {l : List PI} (hk : Kept ok w w') (hm : ∀ b, b < w.heap.size → ok b → ok' b) (h : Its w ok u l) : Its w' ok' u l := by
  obtain ⟨ao, cap, B, e, h1, h2, hc, hp⟩ := h
  refine ⟨ao, cap, B, e, h1, h2, fun i x hx => ?_, fun k p hx => (hp k p hx).keep hk hm⟩
  obtain ⟨b, off, e, hb, c0, c1, c2, c3⟩ := hc i x hx
  exact ⟨b, off, e, hm b (World.block_lt_of_cell? w _ c0) hb, hk _ _ hb c0, hk _ _ hb c1, hk _ _ hb c2, hk _ _ hb c3⟩
theorem IsP.grow {w w' : World} {ok : Nat → Prop} {u : Value} {p : PA} (h : IsP w ok u p) (hb : Below w.heap.size w w') : IsP w' ok u p := h.keep (Kept.below hb) (fun _ _ h => h)
theorem IsB.grow {w w' : World} {ok : Nat → Prop} {u : Value} {p : List PA} (h : IsB w ok u p) (hb : Below w.heap.size w w') : IsB w' ok u p := h.keep (Kept.below hb) (fun _ _ h => h)
theorem Its.grow {w w' : World} {ok : Nat → Prop} {u : Value} {p : List PI} (h : Its w ok u p) (hb : Below w.heap.size w w') : Its w' ok u p := h.keep (Kept.below hb) (fun _ _ h => h)
theorem IsP.wide {w : World} {ok ok' : Nat → Prop} {u : Value} {p : PA} (h : IsP w ok u p) (hm : ∀ b, b < w.heap.size → ok b → ok' b) : IsP w ok' u p := h.keep (Kept.refl _ _) hm
theorem IsB.wide {w : World} {ok ok' : Nat → Prop} {u : Value} {p : List PA} (h : IsB w ok u p) (hm : ∀ b, b < w.heap.size → ok b → ok' b) : IsB w ok' u p := h.keep (Kept.refl _ _) hm
theorem Its.wide {w : World} {ok ok' : Nat → Prop} {u : Value} {p : List PI} (h : Its w ok u p) (hm : ∀ b, b < w.heap.size → ok b → ok' b) : Its w ok' u p := h.keep (Kept.refl _ _) hm
theorem IsP.lt {w : World} {ok : Nat → Prop} {u : Value} {p : PA} (h : IsP w ok u p) : IsP w (fun b => ok b ∧ b < w.heap.size) u p := h.wide (fun _ hb ho => ⟨ho, hb⟩)
theorem Its.lt {w : World} {ok : Nat → Prop} {u : Value} {p : List PI} (h : Its w ok u p) : Its w (fun b => ok b ∧ b < w.heap.size) u p := h.wide (fun _ hb ho => ⟨ho, hb⟩)
theorem IsB.lt {w : World} {ok : Nat → Prop} {u : Value} {p : List PA} (h : IsB w ok u p) : IsB w (fun b => ok b ∧ b < w.heap.size) u p := h.wide (fun _ hb ho => ⟨ho, hb⟩)

/-- A plain array opened. -/
theorem IsP.opened {w : World} {ok : Nat → Prop} {u : Value} {p : PA} (h : IsP w ok u p) :
    ∃ so sc io ic, u = .agg #[.slice so p.s.length sc, .slice io p.l.length ic, .int .i64 p.f] ∧ Slc w ok (.slice so p.s.length sc) p.s.length (ints p.s) ∧ Its w ok (.slice io p.l.length ic) p.l := by
  cases h with
  | @mk sh s l f ao cap bo bc X Y Z hs h1 h2 hi hb hc hp =>
    obtain ⟨so, sc, rfl, _⟩ := hs.opened
    refine ⟨so, sc, ao, cap, rfl, hs, ao, cap, fun i => .slice (bo i) ((l[i]?.map (fun x => x.2.2.2.length)).getD 0) (bc i), rfl, h1, h2, fun i x hx => ?_, fun i x hx => ?_⟩
    · have hx : l[i]? = some x := hx
      obtain ⟨b, off, e, hb, c0, c1, c2, c3⟩ := hi i x hx
      exact ⟨b, off, e, hb, c0, c1, c2, by simp only [c3, hx]; rfl⟩
    · have hx : l[i]? = some x := hx
      refine ⟨bo i, bc i, X i, Y i, Z i, by simp only [hx]; rfl, (hb i x hx).1, (hb i x hx).2, hc i x hx, hp i x hx⟩
theorem IsP.of {w : World} {ok : Nat → Prop} {sh it : Value} {s : List Int} {l : List PI} {f : Int} (hs : Slc w ok sh s.length (ints s)) (hi : Its w ok it l) : IsP w ok (.agg #[sh, it, .int .i64 f]) (.mk s l f) := by
  classical
  obtain ⟨ao, cap, B, rfl, h1, h2, hc, hp⟩ := hi
  have hB : ∀ i, ∃ (t : Option Addr × Nat × (Nat → Value) × (Nat → Value) × (Nat → Value)), ∀ x, l[i]? = some x → B i = .slice t.1 x.2.2.2.length t.2.1 ∧ x.2.2.2.length ≤ t.2.1 ∧ t.2.1 ≤ maxLen ∧
      (∀ k, k < x.2.2.2.length → ∃ b off, t.1 = some ⟨b, off, Option.none⟩ ∧ ok b ∧ w.cell? ⟨b, off + k * 3, Option.none⟩ = some (t.2.2.1 k) ∧ w.cell? ⟨b, off + k * 3 + 1, Option.none⟩ = some (t.2.2.2.1 k) ∧ w.cell? ⟨b, off + k * 3 + 2, Option.none⟩ = some (t.2.2.2.2 k)) ∧
      ∀ k p, x.2.2.2[k]? = some p → IsP w ok (.agg #[t.2.2.1 k, t.2.2.2.1 k, t.2.2.2.2 k]) p := by
    intro i
    cases hx : l[i]? with
    | none => exact ⟨(Option.none, 0, fun _ => undef, fun _ => undef, fun _ => undef), fun x h => by cases h⟩
    | some x =>
      obtain ⟨bo, bc, X, Y, Z, e, a1, a2, a3, a4⟩ := hp i x hx
      exact ⟨(bo, bc, X, Y, Z), fun y hy => by cases hy; exact ⟨e, a1, a2, a3, a4⟩⟩
  have T := fun i => Classical.choose_spec (hB i)
  refine .mk (fun i => (Classical.choose (hB i)).1) (fun i => (Classical.choose (hB i)).2.1) (fun i => (Classical.choose (hB i)).2.2.1) (fun i => (Classical.choose (hB i)).2.2.2.1) (fun i => (Classical.choose (hB i)).2.2.2.2) hs h1 h2 (fun i x hx => ?_) (fun i x hx => ⟨(T i x hx).2.1, (T i x hx).2.2.1⟩) (fun i x hx => (T i x hx).2.2.2.1) (fun i x hx => (T i x hx).2.2.2.2)
  obtain ⟨b, off, e, hb, c0, c1, c2, c3⟩ := hc i x hx
  exact ⟨b, off, e, hb, c0, c1, c2, c3.trans (congrArg some (T i x hx).1)⟩
/-- An item of a list. -/
theorem Its.at {w : World} {ok : Nat → Prop} {ao : Option Addr} {n cap : Nat} {l : List PI} {i : Nat} {x : PI} (h : Its w ok (.slice ao n cap) l) (hx : l[i]? = some x) :
    ∃ b off bo bc, ao = some ⟨b, off, Option.none⟩ ∧ ok b ∧ w.cell? ⟨b, off + i * 4, Option.none⟩ = some (.int .i64 x.1) ∧ w.cell? ⟨b, off + i * 4 + 1, Option.none⟩ = some (.float .f64 x.2.1) ∧
        w.cell? ⟨b, off + i * 4 + 2, Option.none⟩ = some (.int .i32 x.2.2.1) ∧ w.cell? ⟨b, off + i * 4 + 3, Option.none⟩ = some (.slice bo x.2.2.2.length bc) ∧ IsB w ok (.slice bo x.2.2.2.length bc) x.2.2.2 := by
  obtain ⟨ao', cap', B, e, h1, h2, hc, hp⟩ := h
  cases e
  obtain ⟨b, off, e, hb, c0, c1, c2, c3⟩ := hc i x hx
  have hB := hp i x hx
  obtain ⟨bo, bc, X, Y, Z, e2, _⟩ := id hB
  rw [e2] at c3 hB
  exact ⟨b, off, bo, bc, e, hb, c0, c1, c2, c3, hB⟩
/-- A plain array of a list. -/
theorem IsB.at {w : World} {ok : Nat → Prop} {ao : Option Addr} {n cap : Nat} {q : List PA} {k : Nat} {p : PA} (h : IsB w ok (.slice ao n cap) q) (hx : q[k]? = some p) :
    ∃ b off so sc io ic, ao = some ⟨b, off, Option.none⟩ ∧ ok b ∧ w.cell? ⟨b, off + k * 3, Option.none⟩ = some (.slice so p.s.length sc) ∧ w.cell? ⟨b, off + k * 3 + 1, Option.none⟩ = some (.slice io p.l.length ic) ∧
        w.cell? ⟨b, off + k * 3 + 2, Option.none⟩ = some (.int .i64 p.f) ∧ IsP w ok (.agg #[.slice so p.s.length sc, .slice io p.l.length ic, .int .i64 p.f]) p := by
  obtain ⟨ao', cap', X, Y, Z, e, h1, h2, hc, hp⟩ := h
  cases e
  obtain ⟨b, off, e, hb, c0, c1, c2⟩ := hc k (List.getElem?_eq_some_iff.1 hx).1
  have hP := hp k p hx
  obtain ⟨so, sc, io, ic, e2, _⟩ := hP.opened
  rw [e2] at hP
  simp only [Value.agg.injEq, Array.mk.injEq, List.cons.injEq, and_true] at e2
  obtain ⟨e3, e4, e5⟩ := e2
  rw [e3] at c0; rw [e4] at c1; rw [e5] at c2
  exact ⟨b, off, so, sc, io, ic, e, hb, c0, c1, c2, hP⟩
theorem Its.len {w : World} {ok : Nat → Prop} {v : Value} {l : List PI} (h : Its w ok v l) : ∃ ao cap, v = .slice ao l.length cap ∧ l.length ≤ cap ∧ cap ≤ maxLen := by
  obtain ⟨ao, cap, B, e, h1, h2, _⟩ := h; exact ⟨ao, cap, e, h1, h2⟩
theorem IsB.len {w : World} {ok : Nat → Prop} {v : Value} {q : List PA} (h : IsB w ok v q) : ∃ ao cap, v = .slice ao q.length cap ∧ q.length ≤ cap ∧ cap ≤ maxLen := by
  obtain ⟨ao, cap, X, Y, Z, e, h1, h2, _⟩ := h; exact ⟨ao, cap, e, h1, h2⟩
theorem Its.nil (w : World) (ok : Nat → Prop) : Its w ok (.slice Option.none 0 0) [] := ⟨_, _, fun _ => undef, rfl, Nat.le_refl _, by unfold maxLen; omega, fun i x h => by simp at h, fun i x h => by simp at h⟩
theorem IsB.nil (w : World) (ok : Nat → Prop) : IsB w ok (.slice Option.none 0 0) [] := ⟨_, _, fun _ => undef, fun _ => undef, fun _ => undef, rfl, Nat.le_refl _, by unfold maxLen; omega, fun i h => absurd h (by simp), fun i x h => by simp at h⟩
theorem IsP.nil (w : World) (ok : Nat → Prop) : IsP w ok (.agg #[.slice Option.none 0 0, .slice Option.none 0 0, .int .i64 0]) (.mk [] [] 0) := IsP.of (Slc.nil _ _) (Its.nil _ _)
theorem IsP.go {w w' : World} {ok : Nat → Prop} {u : Value} {p : PA} (h : IsP w ok u p) (hB : Below w.heap.size w w') : Hid (IsP w' ok u p) := Lib.hid (h.grow hB)
theorem IsB.go {w w' : World} {ok : Nat → Prop} {u : Value} {p : List PA} (h : IsB w ok u p) (hB : Below w.heap.size w w') : Hid (IsB w' ok u p) := Lib.hid (h.grow hB)
theorem Its.go {w w' : World} {ok : Nat → Prop} {u : Value} {p : List PI} (h : Its w ok u p) (hB : Below w.heap.size w w') : Hid (Its w' ok u p) := Lib.hid (h.grow hB)
end Go.Proofs.YtbfcdpabjailcaaGreatDoor

/- Plain arrays, the document's functions walked: Count. -/
namespace Go.Proofs.YtbfcdpabjailcaaGreatDoor
open Go.RowKit
set_option linter.unusedVariables false
set_option maxRecDepth 100000

/-- A block of three cells. -/
def At3 (w : World) (b : Nat) (x y z : Value) : Prop := b < w.heap.size ∧ w.cell? ⟨b, 0, none⟩ = some x ∧ w.cell? ⟨b, 1, none⟩ = some y ∧ w.cell? ⟨b, 2, none⟩ = some z ∧ ∀ o, w.frozen? ⟨b, o, none⟩ = false
theorem At3.new (w : World) (x y z : Value) (t : TypeId) : At3 (w.alloc (.cells #[x, y, z] t)) w.heap.size x y z := ⟨by simp, by simp, by simp, by simp, fun o => by simp⟩
theorem At3.below {w w' : World} {b : Nat} {x y z : Value} (h : At3 w b x y z) (hb : Below w.heap.size w w') : At3 w' b x y z :=
  ⟨Nat.lt_of_lt_of_le h.1 hb.size, keep_below hb _ _ h.2.1, keep_below hb _ _ h.2.2.1, keep_below hb _ _ h.2.2.2.1, fun o => by rw [← h.2.2.2.2 o]; exact hb.frozen (p := ⟨b, o, none⟩) h.1⟩

def AnyInt (w : World) (e : Ending) (w' : World) : Prop := ∃ n, e = .returned (.int .i64 n) ∧ Below w.heap.size w w'
set_option maxHeartbeats 2000000 in
theorem pcount_calls (d : Nat) : ∀ (ok : Nat → Prop) (p : PA) (u : Value) (most : Int) (w : World), lo d p → IsP w ok u p →
    Calls Tryz.prog 16 #[u, .int .i64 most] w (AnyInt w) := by
  induction d with
  | zero => intro ok p u most w h; exact h.elim
  | succ d ih =>
    intro ok p u most w hl hp
    obtain ⟨so, sc, io, ic, rfl, hs, hit⟩ := hp.opened
    have HL := Lib.hid hl
    have HI := Lib.hid hit
    obtain ⟨_, _, e1, e2, e3⟩ := hit.len
    cases e1
    unfold maxLen at e3
    clear hl hit hs hp
    have HIH := Lib.hid ih
    clear ih
    obtain ⟨W1, hW1⟩ : ∃ W1, W1 = w.alloc (.cells #[.slice so p.s.length sc, .slice io p.l.length ic, .int .i64 p.f] 25) := ⟨_, rfl⟩
    have HA := Lib.hid (show At3 W1 w.heap.size _ _ _ by rw [hW1]; exact At3.new w _ _ _ _)
    have HB1 := Lib.hid (show Below w.heap.size w W1 by rw [hW1]; exact below_new _ _)
    obtain ⟨_, a0, a1, a2, _⟩ := HA.out
    go_enter Tryz.func16, Tryz.ntmps16
    go_wp2_with fail
    rw [← hW1]
    clear hW1
    go_loopw [5, 6] (fun n i wr => ∃ (k : Nat) (m : Int), k ≤ p.l.length ∧ i = .int .i64 k ∧ n = .int .i64 m ∧ Below W1.heap.size W1 wr) (fun _ i _ => p.l.length - (intOf i).toNat)
    case atStart => exact ⟨0, _, by omega, rfl, rfl, Below.refl _ _⟩
    case round =>
      obtain ⟨k, m, hk, rfl, rfl, hB⟩ := hrel
      obtain ⟨_, b0, b1, b2, _⟩ := HA.out.below hB
      have HB := Lib.hid hB
      clear hB
      by_cases hlt : k < p.l.length
      · by_cases hm : m ≤ most
        · have hx := List.getElem?_eq_getElem hlt
          obtain ⟨x, hxx⟩ : ∃ x, x = p.l[k] := ⟨_, rfl⟩
          rw [← hxx] at hx
          clear hxx
          have HX := Lib.hid hx
          obtain ⟨b, off, bo, bc, rfl, _, c0, c1, c2, c3, hbx⟩ := ((HI.out.grow HB1.out).grow HB.out).at hx
          obtain ⟨_, _, e1, e4, e5⟩ := hbx.len
          cases e1
          unfold maxLen at e5
          have HBX := Lib.hid hbx
          have C3 := Lib.hid c3
          have A1 := Lib.hid b1
          have hlox := Lib.hid (HL.out x (List.mem_of_getElem? hx)).2
          clear hx hbx c0 c1 c2 c3 a0 a1 a2 b0 b1 b2
          have a1 := A1.out
          have c3 := C3.out
          go_wp2_with fail
          go_loopw [5, 7] (fun n i wr2 => ∃ (q : Nat) (m : Int), q ≤ x.2.2.2.length ∧ i = .int .i64 q ∧ n = .int .i64 m ∧ Below wr.heap.size wr wr2) (fun _ i _ => x.2.2.2.length - (intOf i).toNat)
          case atStart => exact ⟨0, _, by omega, rfl, rfl, Below.refl _ _⟩
          case round =>
            obtain ⟨q, m2, hq, rfl, rfl, hB2⟩ := hrel
            have d1 := keep_below hB2 _ _ A1.out
            have d3 := keep_below hB2 _ _ C3.out
            have HB2 := Lib.hid hB2
            clear hB2 a1 c3
            by_cases hlq : q < x.2.2.2.length
            · by_cases hm2 : m2 ≤ most
              · have hy := List.getElem?_eq_getElem hlq
                obtain ⟨y, hyy⟩ : ∃ y, y = x.2.2.2[q] := ⟨_, rfl⟩
                rw [← hyy] at hy
                clear hyy
                obtain ⟨b', off', so', sc', io', ic', rfl, _, g0, g1, g2, hP⟩ := (HBX.out.grow HB2.out).at hy
                have HP := Lib.hid hP
                have hly := Lib.hid (hlox.out y (List.mem_of_getElem? hy))
                clear hy hP
                go_wp2_with fail
                refine (HIH.out ok y _ most _ hly.out HP.out).mono ?_
                rintro e w2 ⟨n2, rfl, hB3⟩
                have HB3 := Lib.hid (HB2.out.trans (hB3.mono HB2.out.size))
                clear hB3 d1 d3
                go_wp2_with fail
                go_roundw
                case rel => exact ⟨q + 1, _, by omega, by go_num, rfl, HB3.out⟩
                case measure => simp [intOf]; omega
              · go_wp2_with fail
                go_roundw
                case rel => exact ⟨k + 1, _, by omega, by go_num, rfl, HB.out.trans (HB2.out.mono HB.out.size)⟩
                case measure => simp [intOf]; omega
            · go_wp2_with fail
              go_roundw
              case rel => exact ⟨k + 1, _, by omega, by go_num, rfl, HB.out.trans (HB2.out.mono HB.out.size)⟩
              case measure => simp [intOf]; omega
        · go_wp2_with fail
          go_ret
          first | exact ⟨_, rfl, HB1.out.trans (HB.out.mono HB1.out.size)⟩ | exact HB1.out.trans (HB.out.mono HB1.out.size)
      · go_wp2_with fail
        go_ret
        first | exact ⟨_, rfl, HB1.out.trans (HB.out.mono HB1.out.size)⟩ | exact HB1.out.trans (HB.out.mono HB1.out.size)
theorem At3.go {w w' : World} {b : Nat} {x y z : Value} (h : At3 w b x y z) (hB : Below w.heap.size w w') : Hid (At3 w' b x y z) := Lib.hid (h.below hB)
end Go.Proofs.YtbfcdpabjailcaaGreatDoor

/- Plain arrays, plain: what is wrong with one; tidied; its depth. -/
namespace Go.Proofs.YtbfcdpabjailcaaGreatDoor
set_option maxRecDepth 100000
open Fl
set_option linter.unusedVariables false

def hd (q : List PA) : PA := q[0]?.getD default
theorem hd_at {q : List PA} {y : PA} (h : q[0]? = some y) : hd q = y := by unfold hd; rw [h]; rfl
/-- The first that is not 0. -/
def fe (f : PI → Int) : List PI → Int
  | [] => 0
  | x :: l => if f x ≠ 0 then f x else fe f l
theorem fe_append (f : PI → Int) (l m : List PI) (h : fe f l = 0) : fe f (l ++ m) = fe f m := by
  induction l with
  | nil => rfl
  | cons x l ih =>
    simp only [fe, List.cons_append] at h ⊢
    by_cases hx : f x = 0
    · simp only [hx, ne_eq, not_true_eq_false, if_false] at h ⊢; exact ih h
    · rw [if_pos hx] at h; exact absurd h hx
theorem ptake {α : Type} {l : List α} {k : Nat} {x : α} (h : l[k]? = some x) : l.take (k + 1) = l.take k ++ [x] := by
  obtain ⟨hk, e⟩ := List.getElem?_eq_some_iff.1 h
  rw [List.take_succ_eq_append_getElem hk, e]
theorem fe_take {f : PI → Int} {l : List PI} {k : Nat} {x : PI} (h : l[k]? = some x) (h0 : fe f (l.take k) = 0) (hx : f x = 0) : fe f (l.take (k + 1)) = 0 := by
  rw [ptake h, fe_append _ _ _ h0]; simp [fe, hx]
theorem fe_hit {f : PI → Int} {l : List PI} {k : Nat} {x : PI} (h : l[k]? = some x) (h0 : fe f (l.take k) = 0) (hx : f x ≠ 0) : fe f l = f x := by
  obtain ⟨hk, e⟩ := List.getElem?_eq_some_iff.1 h
  have : l = l.take k ++ (x :: l.drop (k + 1)) := by rw [← e, ← List.drop_eq_getElem_cons hk, List.take_append_drop]
  rw [this, fe_append _ _ _ h0]
  simp [fe, hx]
theorem fe_zero {f : PI → Int} {l : List PI} (h : fe f l = 0) : ∀ x ∈ l, f x = 0 := by
  induction l with
  | nil => intro x hx; simp at hx
  | cons y l ih =>
    simp only [fe] at h
    by_cases hy : f y = 0
    · simp only [hy, ne_eq, not_true_eq_false, if_false] at h
      intro x hx
      rcases List.mem_cons.1 hx with rfl | hx
      · exact hy
      · exact ih h x hx
    · rw [if_pos hy] at h; exact absurd h hy
/-- What is wrong with an item. -/
def itE (c : PA → Int) (f : Int) (x : PI) : Int := if x.1 ≠ f ∨ (x.1 = 2 ∧ x.2.2.2.length ≠ 1) then 1 else if x.1 = 2 then c (hd x.2.2.2) else 0
instance instDecFnt7 (x : Nat) : Decidable (Fnt x) := by unfold Fnt; infer_instance
def finI (x : PI) : Bool := decide (x.1 ≠ 0 ∨ Fnt x.2.1)
/-- What is wrong with a plain array. -/
def chk : Nat → PA → Int
  | 0, _ => 1
  | d + 1, p => if p.f < 0 ∨ 2 < p.f then 1 else if (prodR p.s 1048576).2 ≠ 0 then (prodR p.s 1048576).2 else if (prodR p.s 1048576).1 ≠ (p.l.length : Int) then 23 else
      if fe (itE (chk d) p.f) p.l ≠ 0 then fe (itE (chk d) p.f) p.l else if p.l.all finI = true then 0 else 1
theorem chk_f {d : Nat} {p : PA} (h : p.f < 0 ∨ 2 < p.f) : chk (d + 1) p = 1 := by simp only [chk]; rw [if_pos h]
theorem chk_s {d : Nat} {p : PA} (h : ¬ (p.f < 0 ∨ 2 < p.f)) (h1 : (prodR p.s 1048576).2 ≠ 0) : chk (d + 1) p = (prodR p.s 1048576).2 := by simp only [chk]; rw [if_neg h, if_pos h1]
theorem chk_n {d : Nat} {p : PA} (h : ¬ (p.f < 0 ∨ 2 < p.f)) (h1 : (prodR p.s 1048576).2 = 0) (h2 : (prodR p.s 1048576).1 ≠ (p.l.length : Int)) : chk (d + 1) p = 23 := by simp only [chk]; rw [if_neg h, if_neg (by simpa using h1), if_pos h2]
theorem chk_e {d : Nat} {p : PA} (h : ¬ (p.f < 0 ∨ 2 < p.f)) (h1 : (prodR p.s 1048576).2 = 0) (h2 : (prodR p.s 1048576).1 = (p.l.length : Int)) : chk (d + 1) p = if fe (itE (chk d) p.f) p.l ≠ 0 then fe (itE (chk d) p.f) p.l else if p.l.all finI = true then 0 else 1 := by simp only [chk]; rw [if_neg h, if_neg (by simpa using h1), if_neg (by simpa using h2)]
theorem prodR_le (s : List Int) : 0 ≤ (prodR s 1048576).1 ∧ (prodR s 1048576).1 ≤ 1048576 := by
  have := nzp_pos s
  unfold prodR
  split <;> (try split) <;> (try split) <;> (try split) <;> (try split) <;> simp_all <;> omega
theorem prodR_len {s : List Int} {n : Nat} (h : prodR s 1048576 = ((n : Int), 0)) : s.length ≤ 8 ∧ n ≤ 1048576 := by
  have := prodR_le s
  rw [h] at this
  refine ⟨?_, by simp at this; omega⟩
  apply Nat.le_of_not_lt
  intro h8
  unfold prodR at h
  rw [if_pos h8] at h
  simp at h
/-- All is well with a plain array. -/
def wellP (d : Nat) (p : PA) : Prop := 0 ≤ p.f ∧ p.f ≤ 2 ∧ prodR p.s 1048576 = ((p.l.length : Int), 0) ∧ ∀ x ∈ p.l, x.1 = p.f ∧ (x.1 = 2 → ∃ q, x.2.2.2 = [q] ∧ chk d q = 0) ∧ (x.1 = 0 → Fnt x.2.1)
theorem chk_well {d : Nat} {p : PA} : chk (d + 1) p = 0 ↔ wellP d p := by
  unfold wellP
  constructor
  · intro h
    by_cases h0 : p.f < 0 ∨ 2 < p.f
    · rw [chk_f h0] at h; cases h
    by_cases h1 : (prodR p.s 1048576).2 = 0
    rotate_left
    · rw [chk_s h0 h1] at h; exact absurd h h1
    by_cases h2 : (prodR p.s 1048576).1 = (p.l.length : Int)
    rotate_left
    · rw [chk_n h0 h1 h2] at h; cases h
    rw [chk_e h0 h1 h2] at h
    by_cases h3 : fe (itE (chk d) p.f) p.l = 0
    rotate_left
    · rw [if_pos h3] at h; exact absurd h h3
    rw [if_neg (by simpa using h3)] at h
    by_cases h4 : p.l.all finI = true
    rotate_left
    · rw [if_neg h4] at h; cases h
    refine ⟨by omega, by omega, by rw [← h2, ← h1], fun x hx => ?_⟩
    have hi := fe_zero h3 x hx
    have hf := List.all_eq_true.1 h4 x hx
    unfold itE at hi
    by_cases c1 : x.1 ≠ p.f ∨ (x.1 = 2 ∧ x.2.2.2.length ≠ 1)
    · rw [if_pos c1] at hi; cases hi
    rw [if_neg c1] at hi
    simp only [not_or, not_and, Decidable.not_not, ne_eq] at c1
    refine ⟨c1.1, fun c2 => ?_, fun c0 => ?_⟩
    · have hl := c1.2 c2
      rw [if_pos c2] at hi
      obtain ⟨q, hq⟩ := List.length_eq_one_iff.1 hl
      refine ⟨q, hq, ?_⟩
      rw [hq] at hi; exact hi
    · have := of_decide_eq_true hf
      rcases this with h | h
      · exact absurd c0 h
      · exact h
  · rintro ⟨h1, h2, h3, h4⟩
    have e1 : (prodR p.s 1048576).2 = 0 := by rw [h3]
    have e2 : (prodR p.s 1048576).1 = (p.l.length : Int) := by rw [h3]
    rw [chk_e (by omega) e1 e2]
    have e3 : fe (itE (chk d) p.f) p.l = 0 := by
      have : ∀ l : List PI, (∀ x ∈ l, itE (chk d) p.f x = 0) → fe (itE (chk d) p.f) l = 0 := by
        intro l
        induction l with
        | nil => intro _; rfl
        | cons x l ih =>
          intro h
          have hx := h x (List.mem_cons_self ..)
          simp only [fe, hx, ne_eq, not_true_eq_false, if_false]
          exact ih fun y hy => h y (List.mem_cons_of_mem _ hy)
      refine this _ fun x hx => ?_
      obtain ⟨a, b, c⟩ := h4 x hx
      unfold itE
      by_cases c2 : x.1 = 2
      · obtain ⟨q, hq, hq2⟩ := b c2
        rw [if_neg (by rw [hq]; simp [a]), if_pos c2, hq]; exact hq2
      · rw [if_neg (by simp [a]; intro h; omega), if_neg c2]
    rw [if_neg (by simpa using e3), if_pos]
    apply List.all_eq_true.2
    intro x hx
    apply decide_eq_true
    by_cases c0 : x.1 = 0
    · exact .inr ((h4 x hx).2.2 c0)
    · exact .inl c0
theorem all_take {f : PI → Bool} {l : List PI} {k : Nat} {x : PI} (h : l[k]? = some x) : (l.take (k + 1)).all f = ((l.take k).all f && f x) := by
  rw [ptake h]; simp
theorem itE_kind {c : PA → Int} {f : Int} {x : PI} (h : x.1 ≠ f) : itE c f x = 1 := by unfold itE; exact if_pos (.inl h)
theorem itE_len {c : PA → Int} {f : Int} {x : PI} (h : x.1 = 2) (h2 : x.2.2.2.length ≠ 1) : itE c f x = 1 := by unfold itE; exact if_pos (.inr ⟨h, h2⟩)
theorem itE_box {c : PA → Int} {f : Int} {x : PI} {q : PA} (h : x.1 = f) (h1 : x.1 = 2) (h2 : x.2.2.2 = [q]) : itE c f x = c q := by
  unfold itE; rw [if_neg (by rw [h2]; simp [h]), if_pos h1, h2]; rfl
theorem itE_other {c : PA → Int} {f : Int} {x : PI} (h : x.1 = f) (h1 : x.1 ≠ 2) : itE c f x = 0 := by
  unfold itE; rw [if_neg (by simp only [not_or, not_and]; exact ⟨fun e => e h, fun e => absurd e h1⟩), if_neg h1]
theorem chk_hit {d k : Nat} {p : PA} {x : PI} {v : Int} (h : ¬ (p.f < 0 ∨ 2 < p.f)) (h1 : (prodR p.s 1048576).2 = 0) (h2 : (prodR p.s 1048576).1 = (p.l.length : Int)) (hx : p.l[k]? = some x) (h0 : fe (itE (chk d) p.f) (p.l.take k) = 0)
    (hv : itE (chk d) p.f x = v) (hv0 : v ≠ 0) : chk (d + 1) p = v := by
  rw [chk_e h h1 h2, fe_hit hx h0 (by rw [hv]; exact hv0), hv, if_pos hv0]
theorem chk_end {d : Nat} {p : PA} (h : ¬ (p.f < 0 ∨ 2 < p.f)) (h1 : (prodR p.s 1048576).2 = 0) (h2 : (prodR p.s 1048576).1 = (p.l.length : Int)) (h0 : fe (itE (chk d) p.f) p.l = 0) : chk (d + 1) p = if p.l.all finI = true then 0 else 1 := by
  rw [chk_e h h1 h2, if_neg (by simpa using h0)]
theorem finI_box {x : PI} (h : x.1 ≠ 0) : finI x = true := decide_eq_true (.inl h)
theorem finI_fin {x : PI} (h : Fnt x.2.1) : finI x = true := decide_eq_true (.inr h)
theorem finI_non {x : PI} (h : x.1 = 0) (h2 : ¬ Fnt x.2.1) : finI x = false := decide_eq_false (by simp [h, h2])
end Go.Proofs.YtbfcdpabjailcaaGreatDoor

/- Plain arrays, the document's functions walked: check, Check. -/
namespace Go.Proofs.YtbfcdpabjailcaaGreatDoor
open Go.RowKit Fl
set_option linter.unusedVariables false
set_option maxRecDepth 100000
def IntIs (n : Int) (w : World) (e : Ending) (w' : World) : Prop := e = .returned (.int .i64 n) ∧ Below w.heap.size w w'
theorem IntIs.mk {n m : Int} {w w' : World} (h : m = n) (hb : Below w.heap.size w w') : IntIs n w (.returned (.int .i64 m)) w' := ⟨by rw [h], hb⟩

/-- A block of four cells. -/
def Blk4 (w : World) (b : Nat) (x y z t : Value) : Prop := b < w.heap.size ∧ w.cell? ⟨b, 0, none⟩ = some x ∧ w.cell? ⟨b, 1, none⟩ = some y ∧ w.cell? ⟨b, 2, none⟩ = some z ∧ w.cell? ⟨b, 3, none⟩ = some t ∧ ∀ o, w.frozen? ⟨b, o, none⟩ = false
theorem Blk4.new (w : World) (x y z u : Value) (t : TypeId) : Blk4 (w.alloc (.cells #[x, y, z, u] t)) w.heap.size x y z u := ⟨by simp, by simp, by simp, by simp, by simp, fun o => by simp⟩
theorem Blk4.below {w w' : World} {b : Nat} {x y z t : Value} (h : Blk4 w b x y z t) (hb : Below w.heap.size w w') : Blk4 w' b x y z t :=
  ⟨Nat.lt_of_lt_of_le h.1 hb.size, keep_below hb _ _ h.2.1, keep_below hb _ _ h.2.2.1, keep_below hb _ _ h.2.2.2.1, keep_below hb _ _ h.2.2.2.2.1, fun o => by rw [← h.2.2.2.2.2 o]; exact hb.frozen (p := ⟨b, o, none⟩) h.1⟩

set_option maxHeartbeats 4000000 in
theorem check_calls (d : Nat) : ∀ (ok : Nat → Prop) (p : PA) (u : Value) (n : Nat) (w : World), d ≤ 1000 → lo n p → IsP w ok u p →
    Calls Tryz.prog 34 #[u, .int .i64 (d : Int)] w (IntIs (chk d p) w) := by
  induction d with
  | zero =>
    intro ok p u n w _ hl hp
    obtain ⟨so, sc, io, ic, rfl, hs, hit⟩ := hp.opened
    clear hs hit hp hl
    go_enter Tryz.func34, Tryz.ntmps34
    go_wp2_with fail
    go_ret
    exact IntIs.mk rfl (below_new _ _)
  | succ d ih =>
    intro ok p u n w hd hl hp
    obtain ⟨n, rfl⟩ : ∃ n', n = n' + 1 := by cases n with | zero => exact hl.elim | succ n => exact ⟨n, rfl⟩
    obtain ⟨so, sc, io, ic, rfl, hs, hit⟩ := hp.opened
    have HL := Lib.hid hl
    have HI := Lib.hid hit
    have HS := Lib.hid hs
    obtain ⟨_, _, _, e2, e3, _⟩ := hs.opened
    rename_i x0 x1
    obtain ⟨_, _, e1, e4, e5⟩ := hit.len
    cases e1
    unfold maxLen at e3 e5
    have hsl : p.s.length ≤ 9223372036854775807 := by omega
    clear hl hit hs hp
    have HIH := Lib.hid ih
    clear ih
    obtain ⟨W1, hW1⟩ : ∃ W1, W1 = w.alloc (.cells #[.slice so p.s.length sc, .slice io p.l.length ic, .int .i64 p.f] 25) := ⟨_, rfl⟩
    have HA := Lib.hid (show At3 W1 w.heap.size _ _ _ by rw [hW1]; exact At3.new w _ _ _ _)
    have HB1 := Lib.hid (show Below w.heap.size w W1 by rw [hW1]; exact below_new _ _)
    obtain ⟨_, a0, a1, a2, _⟩ := HA.out
    have hd0 : ((d : Int) + 1 == 0) = false := by simp; omega
    by_cases hf : p.f < 0 ∨ 2 < p.f
    · have HC := Lib.hid (chk_f (d := d) hf)
      rcases hf with hf | hf
      · go_enter Tryz.func34, Tryz.ntmps34
        go_wp2_with fail
        go_ret
        exact IntIs.mk HC.out.symm (by rw [← hW1]; exact HB1.out)
      · have hf2 : ¬ p.f < 0 := by omega
        go_enter Tryz.func34, Tryz.ntmps34
        go_wp2_with fail
        go_ret
        exact IntIs.mk HC.out.symm (by rw [← hW1]; exact HB1.out)
    · have HF := Lib.hid hf
      have hf1 : ¬ p.f < 0 := by omega
      have hf2 : ¬ 2 < p.f := by omega
      clear hf
      have HPR := Lib.hid (rproduct_calls _ p.s 1048576 W1 (HS.out.below HB1.out) hsl)
      obtain ⟨c, hc⟩ : ∃ c, c = (prodR p.s 1048576).1 := ⟨_, rfl⟩
      obtain ⟨er, her⟩ : ∃ er, er = (prodR p.s 1048576).2 := ⟨_, rfl⟩
      rw [← hc, ← her] at HPR
      have HCN := Lib.hid hc
      have HER := Lib.hid her
      have HER0 := HER
      clear hc her
      go_enter Tryz.func34, Tryz.ntmps34
      go_wp2_with fail
      rw [← hW1]
      refine HPR.out.mono ?_
      rintro e w2 ⟨rfl, rfl⟩
      clear hW1
      by_cases her : er = 0
      rotate_left
      · have HC := Lib.hid (chk_s (d := d) HF.out (by rw [← HER.out]; exact her))
        rw [← HER.out] at HC
        go_wp2_with fail
        go_ret
        exact IntIs.mk HC.out.symm HB1.out
      have HZ := Lib.hid her
      subst her
      by_cases hcn : c = (p.l.length : Int)
      rotate_left
      · have HC := Lib.hid (chk_n (d := d) HF.out HER.out.symm (by rw [← HCN.out]; exact hcn))
        go_wp2_with fail
        go_ret
        exact IntIs.mk HC.out.symm HB1.out
      have HC := Lib.hid (chk_e (d := d) HF.out HER.out.symm (by rw [← HCN.out]; exact hcn))
      subst hcn
      go_wp2_with fail
      go_loopw [7, 8] (fun gv i wr => ∃ (k : Nat) (g : Bool), k ≤ p.l.length ∧ i = .int .i64 k ∧ gv = .bool g ∧ g = (p.l.take k).all finI ∧ fe (itE (chk d) p.f) (p.l.take k) = 0 ∧ Below W1.heap.size W1 wr) (fun _ i _ => p.l.length - (intOf i).toNat)
      case atStart => exact ⟨0, true, by omega, rfl, rfl, rfl, rfl, Below.refl _ _⟩
      case round =>
        obtain ⟨k, g, hk, rfl, rfl, hg, hfe, hB⟩ := hrel
        obtain ⟨_, b0, b1, b2, _⟩ := HA.out.below hB
        have HB := Lib.hid hB
        have HG := Lib.hid hg
        have HFE := Lib.hid hfe
        clear hB hg hfe
        by_cases hlt : k < p.l.length
        · have hx := List.getElem?_eq_getElem hlt
          obtain ⟨x, hxx⟩ : ∃ x, x = p.l[k] := ⟨_, rfl⟩
          rw [← hxx] at hx
          clear hxx
          have HX := Lib.hid hx
          obtain ⟨b, off, bo, bc, rfl, _, c0, c1, c2, c3, hbx⟩ := ((HI.out.grow HB1.out).grow HB.out).at hx
          obtain ⟨_, _, e1, e4, e6⟩ := hbx.len
          cases e1
          unfold maxLen at e6
          have hlox := HL.out x (List.mem_of_getElem? hx)
          have hw := Lib.hid hlox.1
          have HLX := Lib.hid hlox.2
          obtain ⟨kd, nm, ch, bx⟩ := x
          simp only at c0 c1 c2 c3 e4
          have HBX := Lib.hid hbx
          simp only at HBX
          clear hx hbx hlox a0 a1 a2
          obtain ⟨W2, hW2⟩ : ∃ W2, W2 = wr.alloc (.cells #[.int .i64 kd, .float .f64 nm, .int .i32 ch, .slice bo bx.length bc] 48) := ⟨_, rfl⟩
          have HA4 := Lib.hid (show Blk4 W2 wr.heap.size _ _ _ _ by rw [hW2]; exact Blk4.new wr _ _ _ _ _)
          have HB2 := Lib.hid (show Below W1.heap.size W1 W2 by rw [hW2]; exact HB.out.alloc HB.out.size _)
          have HBw := Lib.hid (HB1.out.trans (HB2.out.mono HB1.out.size))
          obtain ⟨_, d0, d1, d2, d3, _⟩ := HA4.out
          have hsf := run_store_float
          have HBn := Lib.hid (show Below wr.heap.size wr W2 by rw [hW2]; exact below_new _ _)
          have hfold := hW2.symm
          clear hW2
          obtain ⟨_, g0, g1, g2, _⟩ := HA.out.below HB2.out
          by_cases hkf : kd = p.f
          rotate_left
          · have HC2 := Lib.hid (chk_hit HF.out HER.out.symm HCN.out.symm HX.out HFE.out (itE_kind hkf) (by decide))
            have hne : (kd != p.f) = true := by simpa using hkf
            clear hkf
            go_wp2_with fail
            go_ret
            exact IntIs.mk HC2.out.symm HBw.out
          have hne : (kd != p.f) = false := by simpa using hkf
          have HKF := Lib.hid hkf
          clear hkf
          by_cases hk2 : kd = 2
          · have HK2 := Lib.hid hk2
            subst hk2
            by_cases hb1 : bx.length = 1
            rotate_left
            · have HC2 := Lib.hid (chk_hit HF.out HER.out.symm HCN.out.symm HX.out HFE.out (itE_len rfl hb1) (by decide))
              have hne2 : ((bx.length : Int) != 1) = true := by simpa using (show (bx.length : Int) ≠ 1 by omega)
              clear hb1
              go_wp2_with fail
              go_ret
              exact IntIs.mk HC2.out.symm HBw.out
            obtain ⟨q, hq⟩ := List.length_eq_one_iff.1 hb1
            have HQE := Lib.hid hq
            have hlen0 : 0 < bx.length := by omega
            have hne2 : ((bx.length : Int) != 1) = false := by simpa using (show (bx.length : Int) = 1 by omega)
            obtain ⟨b', off', so', sc', io', ic', rfl, _, f0, f1, f2, hP⟩ := (HBX.out.grow HBn.out).at (k := 0) (by rw [HQE.out]; rfl : bx[0]? = some q)
            have HP := Lib.hid hP
            have hlq := Lib.hid (HLX.out q (by show q ∈ bx; rw [HQE.out]; simp))
            have hdd : Hid ((d : Int) + 1 - 1 = d) := Lib.hid (by omega)
            clear hP hb1 hq
            simp only [Nat.zero_mul, Nat.add_zero] at f0 f1 f2
            obtain ⟨er, her⟩ : ∃ er, er = chk d q := ⟨_, rfl⟩
            have HQ := Lib.hid (HIH.out ok q _ n _ (by omega) hlq.out HP.out)
            rw [← her] at HQ
            have HER := Lib.hid her
            clear her
            go_wp2_with fail
            refine HQ.out.mono ?_
            rintro e w3 ⟨rfl, hB3⟩
            obtain ⟨_, d0, d1, d2, d3, _⟩ := HA4.out.below hB3
            have HB3 := Lib.hid (HB2.out.trans (hB3.mono HB2.out.size))
            have HBw3 := Lib.hid (HB1.out.trans (HB3.out.mono HB1.out.size))
            clear hB3 f0 f1 f2 hfold
            by_cases he0 : er = 0
            · have hne3 : (er != 0) = false := by simpa using he0
              have HT := Lib.hid (fe_take HX.out HFE.out (by rw [itE_box (x := (2, nm, ch, bx)) HKF.out rfl HQE.out, ← HER.out]; exact he0))
              have HGG := Lib.hid (show g = (p.l.take (k + 1)).all finI by rw [all_take HX.out, ← HG.out, finI_box (x := (2, nm, ch, bx)) (by show (2 : Int) ≠ 0; decide)]; simp)
              clear he0
              cases g
              all_goals
                go_wp2_with fail
                go_roundw
                case rel => exact ⟨k + 1, _, by omega, by go_num, rfl, HGG.out, HT.out, HB3.out⟩
                case measure => simp [intOf]; omega
            · have HC2 := Lib.hid (chk_hit HF.out HER0.out.symm HCN.out.symm HX.out HFE.out (itE_box (x := (2, nm, ch, bx)) HKF.out rfl HQE.out) (by rw [← HER.out]; exact he0))
              rw [← HER.out] at HC2
              have hne3 : (er != 0) = true := by simpa using he0
              clear he0
              go_wp2_with fail
              go_ret
              exact IntIs.mk HC2.out.symm HBw3.out
          · have HT := Lib.hid (fe_take HX.out HFE.out (itE_other HKF.out hk2))
            have h2e : (kd == 2) = false := by simpa using hk2
            clear hk2
            by_cases hk0 : kd = 0
            · subst hk0
              by_cases hfin : Fnt nm
              · have HGG := Lib.hid (show g = (p.l.take (k + 1)).all finI by rw [all_take HX.out, ← HG.out, finI_fin hfin]; simp)
                have HFN := Lib.hid hfin
                clear hfin
                cases g
                · go_wp2_with fail
                  go_roundw
                  case rel => exact ⟨k + 1, _, by omega, by go_num, rfl, HGG.out, HT.out, HB2.out⟩
                  case measure => simp [intOf]; omega
                · go_wp2_with fail
                  refine (rfinite_fin nm _ HFN.out).mono ?_
                  rintro e w' ⟨rfl, rfl⟩
                  go_wp2_with fail
                  go_roundw
                  case rel => exact ⟨k + 1, _, by omega, by go_num, rfl, HGG.out, HT.out, HB2.out⟩
                  case measure => simp [intOf]; omega
              · have HGG := Lib.hid (show false = (p.l.take (k + 1)).all finI by rw [all_take HX.out, ← HG.out, finI_non rfl hfin]; simp)
                have HFN := Lib.hid hfin
                clear hfin
                cases g
                · go_wp2_with fail
                  go_roundw
                  case rel => exact ⟨k + 1, _, by omega, by go_num, rfl, HGG.out, HT.out, HB2.out⟩
                  case measure => simp [intOf]; omega
                · go_wp2_with fail
                  refine (rfinite_non nm _ hw.out HFN.out).mono ?_
                  rintro e w' ⟨rfl, rfl⟩
                  go_wp2_with fail
                  go_roundw
                  case rel => exact ⟨k + 1, _, by omega, by go_num, rfl, HGG.out, HT.out, HB2.out⟩
                  case measure => simp [intOf]; omega
            · have HGG := Lib.hid (show g = (p.l.take (k + 1)).all finI by rw [all_take HX.out, ← HG.out, finI_box hk0]; simp)
              have h0e : (kd != 0) = true := by simpa using hk0
              clear hk0
              cases g
              all_goals
                go_wp2_with fail
                go_roundw
                case rel => exact ⟨k + 1, _, by omega, by go_num, rfl, HGG.out, HT.out, HB2.out⟩
                case measure => simp [intOf]; omega
        · have hkl : k = p.l.length := by omega
          have HC2 := Lib.hid (chk_end (d := d) HF.out HER.out.symm HCN.out.symm (by have := HFE.out; rwa [hkl, List.take_length] at this))
          have HG2 := Lib.hid (show g = p.l.all finI by have := HG.out; rwa [hkl, List.take_length] at this)
          rw [← HG2.out] at HC2
          have HBw := Lib.hid (HB1.out.trans (HB.out.mono HB1.out.size))
          clear hkl
          cases g
          all_goals
            go_wp2_with fail
            go_ret
            exact IntIs.mk HC2.out.symm HBw.out
theorem vCheck_calls (ok : Nat → Prop) (p : PA) (u : Value) (n : Nat) (w : World) (hl : lo n p) (hp : IsP w ok u p) : Calls Tryz.prog 17 #[u] w (IntIs (chk 40 p) w) := by
  have HL := Lib.hid hl
  have HP := Lib.hid hp
  obtain ⟨so, sc, io, ic, rfl, hs, hit⟩ := hp.opened
  clear hl hit hs hp
  have HQ := Lib.hid (check_calls 40 ok p _ n (w.alloc (.cells #[.slice so p.s.length sc, .slice io p.l.length ic, .int .i64 p.f] 25)) (by omega) HL.out (HP.out.grow (below_new _ _)))
  have HBB := Lib.hid (below_new w (.cells #[.slice so p.s.length sc, .slice io p.l.length ic, .int .i64 p.f] 25))
  obtain ⟨c, hc⟩ : ∃ c, c = chk 40 p := ⟨_, rfl⟩
  rw [← hc] at HQ ⊢
  clear hc
  go_enter Tryz.func17, Tryz.ntmps17
  go_wp2_with fail
  refine HQ.out.mono ?_
  rintro e w3 ⟨rfl, hB3⟩
  have HB3 := Lib.hid (HBB.out.trans (hB3.mono HBB.out.size))
  clear hB3
  go_wp2_with fail
  go_ret
  exact IntIs.mk rfl HB3.out
theorem Blk4.go {w w' : World} {b : Nat} {x y z t : Value} (h : Blk4 w b x y z t) (hB : Below w.heap.size w w') : Hid (Blk4 w' b x y z t) := Lib.hid (h.below hB)
end Go.Proofs.YtbfcdpabjailcaaGreatDoor

/- Plain arrays, the document's functions walked: Ints, Item, Same. -/
namespace Go.Proofs.YtbfcdpabjailcaaGreatDoor
open Go.RowKit Fl
set_option linter.unusedVariables false
set_option maxRecDepth 100000

set_option maxHeartbeats 1000000 in
theorem pints_calls (v1 v2 : Value) (xs ys : List Int) (w : World) (h1 : Sl w v1 xs.length (ints xs)) (h2 : Sl w v2 ys.length (ints ys)) (hm : xs.length ≤ maxLen) :
    Calls Tryz.prog 43 #[v1, v2] w fun e w' => e = .returned (.bool (xs == ys)) ∧ Below w.heap.size w w' := by
  unfold maxLen at hm
  obtain ⟨_, ao, cap, rfl, hc1⟩ := h1
  obtain ⟨_, ao2, cap2, rfl, hc2⟩ := h2
  have HC1 := Lib.hid hc1
  have HC2 := Lib.hid hc2
  clear hc1 hc2
  by_cases hlen : xs.length = ys.length
  · obtain ⟨n, hn⟩ : ∃ n, n = xs.length := ⟨_, rfl⟩
    have hn2 : ys.length = n := by omega
    rw [hn2, ← hn]
    rw [← hn] at hm
    have HN := Lib.hid hn
    have HN2 := Lib.hid hn2
    have hb : ((n : Int) != (n : Int)) = false := by simp
    clear hn hn2 hlen
    go_enter Tryz.func43, Tryz.ntmps43
    go_wp2
    go_loopw [5] (fun i wr => ∃ k q : Nat, k ≤ n ∧ i = .int .i64 k ∧ wr = w.drewN q ∧ xs.take k = ys.take k) (fun i _ => n - (intOf i).toNat)
    case atStart => exact ⟨0, 0, by omega, rfl, rfl, rfl⟩
    case round =>
      obtain ⟨k, q, hk, rfl, rfl, htk⟩ := hrel
      have HT := Lib.hid htk
      clear htk
      by_cases hlt : k < n
      · have hx : k < xs.length := by have := HN.out; omega
        have hy : k < ys.length := by have := HN2.out; omega
        obtain ⟨b, off, rfl, hcx⟩ := HC1.out k (by rw [ints_len]; exact hx)
        obtain ⟨b2, off2, rfl, hcy⟩ := HC2.out k (by rw [ints_len]; exact hy)
        rw [ints_get] at hcx hcy
        have HX := Lib.hid hx
        have HY := Lib.hid hy
        have hi0 : (0 : Int) ≤ (k : Int) := by omega
        by_cases he : xs[k] = ys[k]
        · have HE := Lib.hid he
          have hne : (xs[k] != ys[k]) = false := by simp [he]
          clear he
          go_wp2
          go_quiet (fail)
          go_wp2
          go_roundw
          case rel => exact ⟨k + 1, q + nq, by omega, by go_num, by first | rfl | rw [World.drewN_drewN], take_step HX.out HY.out HT.out HE.out⟩
          case measure => simp [intOf]; omega
        · have HE := Lib.hid (ne_at hx hy he)
          have hne : (xs[k] != ys[k]) = true := by simpa using he
          clear he
          go_wp2
          go_quiet (fail)
          go_wp2
          go_ret
          exact ⟨ret_b HE.out.symm, by first | exact Below.drewN' (Below.drewN' (Below.refl _ _) _) _ | exact Below.drewN' (Below.refl _ _) _⟩
      · have hkn : k = n := by omega
        have HE := Lib.hid (eq_all (xs := xs) (ys := ys) (k := k) (by have := HN.out; omega) (by have := HN2.out; omega) HT.out)
        clear hkn
        go_wp2
        go_ret
        exact ⟨ret_b HE.out.symm, Below.drewN' (Below.refl _ _) _⟩
  · have HE := Lib.hid (ne_len hlen)
    have hb : ((xs.length : Int) != (ys.length : Int)) = true := by simp; omega
    clear hlen
    go_enter Tryz.func43, Tryz.ntmps43
    go_wp2
    go_ret
    exact ⟨ret_b HE.out.symm, Below.refl _ _⟩


/-- Numbers compared to the bit. -/
theorem pbits_calls (x y : Nat) (w : World) (hx : Num x) (hy : Num y) : Calls Tryz.prog 69 #[.float .f64 x, .float .f64 y] w fun e w' => e = .returned (.bool (x == y)) ∧ w = w' := by
  by_cases h : x = y
  · subst h
    have := bits_same x w hx
    simpa using this
  · have hv : V x ≠ V y := fun e => h (V_inj hx hy e)
    have ho := ord_ne hx.1 hy.1 hv
    have hb : Hid ((x == y) = false) := Lib.hid (by simpa using h)
    clear h hv hx hy
    rcases ho with ho | ho
    all_goals
      have ho' : FloatKind.f64.format.order x y = _ := ho
      clear ho
      rw [hb.out]
      go_enter Tryz.func69, Tryz.ntmps69
      go_wp2
      go_ret
      exact ⟨rfl, rfl⟩

/-- Numbers of all items are numbers; boxes at most d deep. -/
def nice : Nat → PA → Prop
  | 0, _ => False
  | d + 1, p => ∀ x ∈ p.l, Num x.2.1 ∧ ∀ q ∈ x.2.2.2, nice d q
noncomputable def pq (p q : PA) : Bool := @decide (p = q) (Classical.propDecidable _)
noncomputable def iq (x y : PI) : Bool := @decide (x = y) (Classical.propDecidable _)
theorem pq_yes {p q : PA} (h : p = q) : pq p q = true := by unfold pq; exact @decide_eq_true _ (Classical.propDecidable _) h
theorem pq_no {p q : PA} (h : p ≠ q) : pq p q = false := by unfold pq; exact @decide_eq_false _ (Classical.propDecidable _) h
theorem iq_yes {p q : PI} (h : p = q) : iq p q = true := by unfold iq; exact @decide_eq_true _ (Classical.propDecidable _) h
theorem iq_no {p q : PI} (h : p ≠ q) : iq p q = false := by unfold iq; exact @decide_eq_false _ (Classical.propDecidable _) h
theorem pq_true {p q : PA} (h : pq p q = true) : p = q := by
  apply Classical.byContradiction; intro hn; rw [pq_no hn] at h; cases h
theorem pq_false {p q : PA} (h : pq p q = false) : p ≠ q := by
  intro hn; rw [pq_yes hn] at h; cases h
theorem iq_true {p q : PI} (h : iq p q = true) : p = q := by
  apply Classical.byContradiction; intro hn; rw [iq_no hn] at h; cases h
theorem iq_false {p q : PI} (h : iq p q = false) : p ≠ q := by
  intro hn; rw [iq_yes hn] at h; cases h
def BoolIs (b : Bool) (w : World) (e : Ending) (w' : World) : Prop := e = .returned (.bool b) ∧ Below w.heap.size w w'
theorem BoolIs.mk {n m : Bool} {w w' : World} (h : m = n) (hb : Below w.heap.size w w') : BoolIs n w (.returned (.bool m)) w' := ⟨by rw [h], hb⟩
theorem differ_at {α : Type} {xs ys : List α} {k : Nat} {x y : α} (h1 : xs[k]? = some x) (h2 : ys[k]? = some y) (h : x ≠ y) : xs ≠ ys := by
  intro e; subst e; rw [h1] at h2; exact h (Option.some.inj h2)
theorem take_eq_step {α : Type} {xs ys : List α} {k : Nat} {x y : α} (h1 : xs[k]? = some x) (h2 : ys[k]? = some y) (h : xs.take k = ys.take k) (e : x = y) : xs.take (k + 1) = ys.take (k + 1) := by
  subst e; rw [ptake h1, ptake h2, h]
theorem take_eq_all {α : Type} {xs ys : List α} {k : Nat} (h1 : xs.length ≤ k) (h2 : ys.length ≤ k) (h : xs.take k = ys.take k) : xs = ys := by
  rwa [List.take_of_length_le h1, List.take_of_length_le h2] at h

/-- Same, at depth d. -/
def SameAt (d : Nat) : Prop := ∀ (ok ok2 : Nat → Prop) (p q : PA) (u v : Value) (m : Nat) (w : World), nice d p → nice m q → IsP w ok u p → IsP w ok2 v q → Calls Tryz.prog 25 #[u, v] w (BoolIs (pq p q) w)

set_option maxHeartbeats 4000000 in
theorem pitem_calls (d : Nat) (ih : SameAt d) (ok ok2 : Nat → Prop) (x y : PI) (bo bo2 : Option Addr) (bc bc2 m : Nat) (w : World) (hnx : Num x.2.1) (hny : Num y.2.1) (hx : ∀ q ∈ x.2.2.2, nice d q) (hy : ∀ q ∈ y.2.2.2, nice m q)
    (hbx : IsB w ok (.slice bo x.2.2.2.length bc) x.2.2.2) (hby : IsB w ok2 (.slice bo2 y.2.2.2.length bc2) y.2.2.2) :
    Calls Tryz.prog 44 #[.agg #[.int .i64 x.1, .float .f64 x.2.1, .int .i32 x.2.2.1, .slice bo x.2.2.2.length bc], .agg #[.int .i64 y.1, .float .f64 y.2.1, .int .i32 y.2.2.1, .slice bo2 y.2.2.2.length bc2]] w (BoolIs (iq x y) w) := by
  have HIH := Lib.hid ih
  have HX := Lib.hid hx
  have HY := Lib.hid hy
  have HBX := Lib.hid hbx
  have HBY := Lib.hid hby
  obtain ⟨_, _, e, e1, e2⟩ := hbx.len
  cases e
  obtain ⟨_, _, e, e3, e4⟩ := hby.len
  cases e
  unfold maxLen at e2 e4
  clear hx hy hbx hby ih
  obtain ⟨k1, n1, c1, b1⟩ := x
  obtain ⟨k2, n2, c2, b2⟩ := y
  simp only at HX HY HBX HBY e1 e3 hnx hny ⊢
  obtain ⟨W1, hW1⟩ : ∃ W1, W1 = (w.alloc (.cells #[.int .i64 k1, .float .f64 n1, .int .i32 c1, .slice bo b1.length bc] 48)).alloc (.cells #[.int .i64 k2, .float .f64 n2, .int .i32 c2, .slice bo2 b2.length bc2] 48) := ⟨_, rfl⟩
  have HBn := Lib.hid (show Below w.heap.size w W1 by rw [hW1]; exact ((Below.refl _ _).alloc (Nat.le_refl _) _).alloc (by simp) _)
  have HA := Lib.hid (show Blk4 W1 w.heap.size _ _ _ _ by rw [hW1]; exact (Blk4.new w (.int .i64 k1) (.float .f64 n1) (.int .i32 c1) (.slice bo b1.length bc) 48).below (below_new _ _))
  have HA2 := Lib.hid (show Blk4 W1 (w.heap.size + 1) _ _ _ _ by rw [hW1]; have := Blk4.new (w.alloc (.cells #[.int .i64 k1, .float .f64 n1, .int .i32 c1, .slice bo b1.length bc] 48)) (.int .i64 k2) (.float .f64 n2) (.int .i32 c2) (.slice bo2 b2.length bc2) 48; simpa using this)
  have HQ := Lib.hid (pbits_calls n1 n2 W1 hnx hny)
  clear hnx hny
  obtain ⟨_, p0, p1, p2, p3, _⟩ := HA.out
  obtain ⟨_, q0, q1, q2, q3, _⟩ := HA2.out
  have hfold := hW1.symm
  clear hW1
  by_cases h1 : k1 = k2
  rotate_left
  · have HC := Lib.hid (iq_no (p := (k1, n1, c1, b1)) (q := (k2, n2, c2, b2)) (fun e => h1 (by cases e; rfl)))
    have hne : (k1 != k2) = true := by simpa using h1
    clear h1
    go_enter Tryz.func44, Tryz.ntmps44
    go_wp2_with fail
    go_ret
    exact BoolIs.mk HC.out.symm HBn.out
  by_cases h2 : c1 = c2
  rotate_left
  · have HC := Lib.hid (iq_no (p := (k1, n1, c1, b1)) (q := (k2, n2, c2, b2)) (fun e => h2 (by cases e; rfl)))
    have hne : (k1 != k2) = false := by simpa using h1
    have hne2 : (c1 != c2) = true := by simpa using h2
    clear h1 h2
    go_enter Tryz.func44, Tryz.ntmps44
    go_wp2_with fail
    go_ret
    exact BoolIs.mk HC.out.symm HBn.out
  have hne : (k1 != k2) = false := by simpa using h1
  have hne2 : (c1 != c2) = false := by simpa using h2
  by_cases h3 : n1 = n2
  rotate_left
  · have HC := Lib.hid (iq_no (p := (k1, n1, c1, b1)) (q := (k2, n2, c2, b2)) (fun e => h3 (by cases e; rfl)))
    have HN := Lib.hid (show (n1 == n2) = false by simpa using h3)
    rw [HN.out] at HQ
    clear h1 h2 h3
    go_enter Tryz.func44, Tryz.ntmps44
    go_wp2_with fail
    refine HQ.out.mono ?_
    rintro e w' ⟨rfl, rfl⟩
    go_wp2_with fail
    go_ret
    exact BoolIs.mk HC.out.symm HBn.out
  have HN := Lib.hid (show (n1 == n2) = true by simpa using h3)
  rw [HN.out] at HQ
  by_cases h4 : b1.length = b2.length
  rotate_left
  · have HC := Lib.hid (iq_no (p := (k1, n1, c1, b1)) (q := (k2, n2, c2, b2)) (fun e => h4 (by cases e; rfl)))
    have hne4 : ((b1.length : Int) != (b2.length : Int)) = true := by simp; omega
    clear h1 h2 h3 h4
    go_enter Tryz.func44, Tryz.ntmps44
    go_wp2_with fail
    refine HQ.out.mono ?_
    rintro e w' ⟨rfl, rfl⟩
    go_wp2_with fail
    go_ret
    exact BoolIs.mk HC.out.symm HBn.out
  have hne4 : ((b1.length : Int) != (b2.length : Int)) = false := by simp; omega
  have HE := Lib.hid (And.intro h1 (And.intro h2 (And.intro h3 h4)))
  clear h1 h2 h3 h4
  go_enter Tryz.func44, Tryz.ntmps44
  go_wp2_with fail
  refine HQ.out.mono ?_
  rintro e w' ⟨rfl, rfl⟩
  clear hfold
  go_wp2_with fail
  go_loopw [5] (fun i wr => ∃ k : Nat, k ≤ b1.length ∧ i = .int .i64 k ∧ b1.take k = b2.take k ∧ Below W1.heap.size W1 wr) (fun i _ => b1.length - (intOf i).toNat)
  case atStart => exact ⟨0, by omega, rfl, rfl, Below.refl _ _⟩
  case round =>
    obtain ⟨k, hk, rfl, htk, hB⟩ := hrel
    have HT := Lib.hid htk
    have HB := Lib.hid hB
    have p3 := (HA.out.below hB).2.2.2.2.1
    have q3 := (HA2.out.below hB).2.2.2.2.1
    clear htk hB
    by_cases hlt : k < b1.length
    · have hlt2 : k < b2.length := by have := HE.out.2.2.2; omega
      have g1 := List.getElem?_eq_getElem hlt
      have g2 := List.getElem?_eq_getElem hlt2
      obtain ⟨r1, hr1⟩ : ∃ r, r = b1[k] := ⟨_, rfl⟩
      obtain ⟨r2, hr2⟩ : ∃ r, r = b2[k] := ⟨_, rfl⟩
      rw [← hr1] at g1
      rw [← hr2] at g2
      clear hr1 hr2
      obtain ⟨b, off, so, sc, io, ic, rfl, _, f0, f1, f2, hP⟩ := (HBX.out.grow HBn.out).at g1
      obtain ⟨b', off', so', sc', io', ic', rfl, _, f0', f1', f2', hP'⟩ := (HBY.out.grow HBn.out).at g2
      have HF := Lib.hid (And.intro f0 (And.intro f1 f2))
      have HF' := Lib.hid (And.intro f0' (And.intro f1' f2'))
      have G1 := Lib.hid g1
      have G2 := Lib.hid g2
      obtain ⟨t, ht⟩ : ∃ t, pq r1 r2 = t := ⟨_, rfl⟩
      have HS := Lib.hid (show ∀ wx, Below W1.heap.size W1 wx → Calls Tryz.prog 25 #[.agg #[.slice so r1.s.length sc, .slice io r1.l.length ic, .int .i64 r1.f], .agg #[.slice so' r2.s.length sc', .slice io' r2.l.length ic', .int .i64 r2.f]] wx fun e w' => e = .returned (.bool t) ∧ Below wx.heap.size wx w' from fun wx hx2 => by
        have := HIH.out ok ok2 r1 r2 _ _ m wx (HX.out r1 (List.mem_of_getElem? g1)) (HY.out r2 (List.mem_of_getElem? g2)) (hP.grow hx2) (hP'.grow hx2)
        rwa [ht] at this)
      have HTT := Lib.hid ht
      clear hP hP' g1 g2 f0 f1 f2 f0' f1' f2' ht p0 p1 p2 q0 q1 q2
      go_wp2_with fail
      refine region_grow W1 (by kernel_rfl) (by kernel_rfl) HB.out ?_
      intro Ω _ WW hW hI
      have HW' := Lib.hid hW
      have HI' := Lib.hid hI
      clear p3 q3
      have p3 := fun y => ((HA.out.below (hW y)).2.2.2.2.1)
      have q3 := fun y => ((HA2.out.below (hW y)).2.2.2.2.1)
      have f0 := fun y => keep_below (hW y) _ _ HF.out.1
      have f1 := fun y => keep_below (hW y) _ _ HF.out.2.1
      have f2 := fun y => keep_below (hW y) _ _ HF.out.2.2
      have f0' := fun y => keep_below (hW y) _ _ HF'.out.1
      have f1' := fun y => keep_below (hW y) _ _ HF'.out.2.1
      have f2' := fun y => keep_below (hW y) _ _ HF'.out.2.2
      clear hW hI
      repeat (go_big_quiet_step ((go_at_call 25; exact Calls.quiet_grow HW'.out HI'.out (HS.out _ (HW'.out _)))))
      refine wpQuiet_nil ?_
      rintro w3 ⟨y, rfl⟩
      clear p3 q3 f0 f1 f2 f0' f1' f2'
      cases t
      · have HC := Lib.hid (iq_no (p := (k1, n1, c1, b1)) (q := (k2, n2, c2, b2)) (fun e => differ_at G1.out G2.out (pq_false HTT.out) (by cases e; rfl)))
        go_wp2_with fail
        go_ret
        exact BoolIs.mk HC.out.symm (HBn.out.trans ((HW'.out y).mono HBn.out.size))
      · have HT2 := Lib.hid (take_eq_step G1.out G2.out HT.out (pq_true HTT.out))
        go_wp2_with fail
        go_roundw
        case rel => exact ⟨k + 1, by omega, by go_num, HT2.out, HW'.out y⟩
        case measure => simp [intOf]; omega
    · have HC := Lib.hid (iq_yes (p := (k1, n1, c1, b1)) (q := (k2, n2, c2, b2)) (by
        obtain ⟨a1, a2, a3, a4⟩ := HE.out
        have := take_eq_all (by omega) (by omega) HT.out
        rw [a1, a2, a3, this]))
      go_wp2_with fail
      go_ret
      exact BoolIs.mk HC.out.symm (HBn.out.trans (HB.out.mono HBn.out.size))

theorem PA.ne_f {p q : PA} (h : p.f ≠ q.f) : p ≠ q := fun e => h (by rw [e])
theorem PA.ne_s {p q : PA} (h : p.s ≠ q.s) : p ≠ q := fun e => h (by rw [e])
theorem PA.ne_l {p q : PA} (h : p.l ≠ q.l) : p ≠ q := fun e => h (by rw [e])

set_option maxHeartbeats 4000000 in
theorem psame_step (d : Nat) (ih : SameAt d) : SameAt (d + 1) := by
  intro ok ok2 p q u v m w hnp hnq hp hq
  obtain ⟨m, rfl⟩ : ∃ m', m = m' + 1 := by cases m with | zero => exact hnq.elim | succ n => exact ⟨n, rfl⟩
  obtain ⟨so, sc, io, ic, rfl, hs, hit⟩ := hp.opened
  obtain ⟨so2, sc2, io2, ic2, rfl, hs2, hit2⟩ := hq.opened
  have HIH := Lib.hid ih
  have HNP := Lib.hid hnp
  have HNQ := Lib.hid hnq
  have HI := Lib.hid hit
  have HI2 := Lib.hid hit2
  obtain ⟨_, _, e, e1, e2⟩ := hit.len
  cases e
  obtain ⟨_, _, e, e3, e4⟩ := hit2.len
  cases e
  obtain ⟨_, _, e, e5, e6, _⟩ := hs.opened
  cases e
  have hsl : p.s.length ≤ maxLen := by omega
  unfold maxLen at e2 e4
  obtain ⟨W1, hW1⟩ : ∃ W1, W1 = (w.alloc (.cells #[.slice so p.s.length sc, .slice io p.l.length ic, .int .i64 p.f] 25)).alloc (.cells #[.slice so2 q.s.length sc2, .slice io2 q.l.length ic2, .int .i64 q.f] 25) := ⟨_, rfl⟩
  have HBn := Lib.hid (show Below w.heap.size w W1 by rw [hW1]; exact ((Below.refl _ _).alloc (Nat.le_refl _) _).alloc (by simp) _)
  have HA := Lib.hid (show At3 W1 w.heap.size _ _ _ by rw [hW1]; exact (At3.new w (.slice so p.s.length sc) (.slice io p.l.length ic) (.int .i64 p.f) 25).below (below_new _ _))
  have HA2 := Lib.hid (show At3 W1 (w.heap.size + 1) _ _ _ by rw [hW1]; have := At3.new (w.alloc (.cells #[.slice so p.s.length sc, .slice io p.l.length ic, .int .i64 p.f] 25)) (.slice so2 q.s.length sc2) (.slice io2 q.l.length ic2) (.int .i64 q.f) 25; simpa using this)
  have HQ := Lib.hid (pints_calls _ _ p.s q.s W1 (hs.below HBn.out).1.sl (hs2.below HBn.out).1.sl hsl)
  clear hnp hnq hp hq hit hit2 hs hs2 ih
  obtain ⟨_, p0, p1, p2, _⟩ := HA.out
  obtain ⟨_, q0, q1, q2, _⟩ := HA2.out
  have hfold := hW1.symm
  clear hW1
  by_cases h1 : p.f = q.f
  rotate_left
  · have HC := Lib.hid (pq_no (PA.ne_f h1))
    have hne : (p.f != q.f) = true := by simpa using h1
    clear h1
    go_enter Tryz.func25, Tryz.ntmps25
    go_wp2_with fail
    go_ret
    exact BoolIs.mk HC.out.symm HBn.out
  have hne : (p.f != q.f) = false := by simpa using h1
  by_cases h2 : p.s = q.s
  rotate_left
  · have HC := Lib.hid (pq_no (PA.ne_s h2))
    have HN := Lib.hid (show (p.s == q.s) = false by simpa using h2)
    rw [HN.out] at HQ
    clear h1 h2
    go_enter Tryz.func25, Tryz.ntmps25
    go_wp2_with fail
    refine HQ.out.mono ?_
    rintro e w1 ⟨rfl, hB⟩
    have HB := Lib.hid (HBn.out.trans (hB.mono HBn.out.size))
    clear hB
    go_wp2_with fail
    go_ret
    exact BoolIs.mk HC.out.symm HB.out
  have HN := Lib.hid (show (p.s == q.s) = true by simpa using h2)
  rw [HN.out] at HQ
  by_cases h4 : p.l.length = q.l.length
  rotate_left
  · have HC := Lib.hid (pq_no (PA.ne_l (p := p) (q := q) (fun e => h4 (by rw [e]))))
    have hne4 : ((p.l.length : Int) != (q.l.length : Int)) = true := by simp; omega
    clear h1 h2 h4
    go_enter Tryz.func25, Tryz.ntmps25
    go_wp2_with fail
    refine HQ.out.mono ?_
    rintro e w1 ⟨rfl, hB⟩
    obtain ⟨_, p0, p1, p2, _⟩ := HA.out.below hB
    obtain ⟨_, q0, q1, q2, _⟩ := HA2.out.below hB
    have HB := Lib.hid (HBn.out.trans (hB.mono HBn.out.size))
    clear hB
    go_wp2_with fail
    go_ret
    exact BoolIs.mk HC.out.symm HB.out
  have hne4 : ((p.l.length : Int) != (q.l.length : Int)) = false := by simp; omega
  have HE := Lib.hid (And.intro h1 (And.intro h2 h4))
  clear h1 h2 h4
  go_enter Tryz.func25, Tryz.ntmps25
  go_wp2_with fail
  refine HQ.out.mono ?_
  rintro e w1 ⟨rfl, hB⟩
  have HBm := Lib.hid hB
  have HAm := Lib.hid (HA.out.below hB)
  have HAm2 := Lib.hid (HA2.out.below hB)
  clear hB p0 p1 p2 q0 q1 q2
  obtain ⟨_, p0, p1, p2, _⟩ := HAm.out
  obtain ⟨_, q0, q1, q2, _⟩ := HAm2.out
  clear hfold
  go_wp2_with fail
  go_loopw [5] (fun i wr => ∃ k : Nat, k ≤ p.l.length ∧ i = .int .i64 k ∧ p.l.take k = q.l.take k ∧ Below w1.heap.size w1 wr) (fun i _ => p.l.length - (intOf i).toNat)
  case atStart => exact ⟨0, by omega, rfl, rfl, Below.refl _ _⟩
  case round =>
    obtain ⟨k, hk, rfl, htk, hB⟩ := hrel
    have HT := Lib.hid htk
    have HB := Lib.hid hB
    have p1 := (HAm.out.below hB).2.2.1
    have q1 := (HAm2.out.below hB).2.2.1
    clear htk hB
    by_cases hlt : k < p.l.length
    · have hlt2 : k < q.l.length := by have := HE.out.2.2; omega
      have g1 := List.getElem?_eq_getElem hlt
      have g2 := List.getElem?_eq_getElem hlt2
      obtain ⟨r1, hr1⟩ : ∃ r, r = p.l[k] := ⟨_, rfl⟩
      obtain ⟨r2, hr2⟩ : ∃ r, r = q.l[k] := ⟨_, rfl⟩
      rw [← hr1] at g1
      rw [← hr2] at g2
      clear hr1 hr2
      obtain ⟨b, off, bo, bc, rfl, _, f0, f1, f2, f3, hP⟩ := ((HI.out.grow HBn.out).grow HBm.out).at g1
      obtain ⟨b', off', bo', bc', rfl, _, f0', f1', f2', f3', hP'⟩ := ((HI2.out.grow HBn.out).grow HBm.out).at g2
      have HF := Lib.hid (And.intro f0 (And.intro f1 (And.intro f2 f3)))
      have HF' := Lib.hid (And.intro f0' (And.intro f1' (And.intro f2' f3')))
      have G1 := Lib.hid g1
      have G2 := Lib.hid g2
      obtain ⟨t, ht⟩ : ∃ t, iq r1 r2 = t := ⟨_, rfl⟩
      have HS := Lib.hid (show ∀ wx, Below w1.heap.size w1 wx → Calls Tryz.prog 44 #[.agg #[.int .i64 r1.1, .float .f64 r1.2.1, .int .i32 r1.2.2.1, .slice bo r1.2.2.2.length bc], .agg #[.int .i64 r2.1, .float .f64 r2.2.1, .int .i32 r2.2.2.1, .slice bo' r2.2.2.2.length bc']] wx fun e w' => e = .returned (.bool t) ∧ Below wx.heap.size wx w' from fun wx hx2 => by
        have h1 := HNP.out r1 (List.mem_of_getElem? g1)
        have h2 := HNQ.out r2 (List.mem_of_getElem? g2)
        have := pitem_calls d HIH.out ok ok2 r1 r2 bo bo' bc bc' m wx h1.1 h2.1 h1.2 h2.2 (hP.grow hx2) (hP'.grow hx2)
        rwa [ht] at this)
      have HTT := Lib.hid ht
      clear hP hP' g1 g2 f0 f1 f2 f3 f0' f1' f2' f3' ht p0 p2 q0 q2
      go_wp2_with fail
      refine region_grow w1 (by kernel_rfl) (by kernel_rfl) HB.out ?_
      intro Ω _ WW hW hI
      have HW' := Lib.hid hW
      have HI' := Lib.hid hI
      clear p1 q1
      have p1 := fun y => ((HAm.out.below (hW y)).2.2.1)
      have q1 := fun y => ((HAm2.out.below (hW y)).2.2.1)
      have f0 := fun y => keep_below (hW y) _ _ HF.out.1
      have f1 := fun y => keep_below (hW y) _ _ HF.out.2.1
      have f2 := fun y => keep_below (hW y) _ _ HF.out.2.2.1
      have f3 := fun y => keep_below (hW y) _ _ HF.out.2.2.2
      have f0' := fun y => keep_below (hW y) _ _ HF'.out.1
      have f1' := fun y => keep_below (hW y) _ _ HF'.out.2.1
      have f2' := fun y => keep_below (hW y) _ _ HF'.out.2.2.1
      have f3' := fun y => keep_below (hW y) _ _ HF'.out.2.2.2
      clear hW hI
      repeat (go_big_quiet_step ((go_at_call 44; exact Calls.quiet_grow HW'.out HI'.out (HS.out _ (HW'.out _)))))
      refine wpQuiet_nil ?_
      rintro w3 ⟨y, rfl⟩
      have HBW := Lib.hid (HBn.out.trans ((HBm.out.trans ((HW'.out y).mono HBm.out.size)).mono HBn.out.size))
      clear p1 q1 f0 f1 f2 f3 f0' f1' f2' f3'
      cases t
      · have HC := Lib.hid (pq_no (PA.ne_l (differ_at G1.out G2.out (iq_false HTT.out))))
        go_wp2_with fail
        go_ret
        exact BoolIs.mk HC.out.symm HBW.out
      · have HT2 := Lib.hid (take_eq_step G1.out G2.out HT.out (iq_true HTT.out))
        go_wp2_with fail
        go_roundw
        case rel => exact ⟨k + 1, by omega, by go_num, HT2.out, HW'.out y⟩
        case measure => simp [intOf]; omega
    · have HC := Lib.hid (pq_yes (p := p) (q := q) (by
        obtain ⟨a1, a2, a3⟩ := HE.out
        exact PA.ext a2 (take_eq_all (by omega) (by omega) HT.out) a1))
      go_wp2_with fail
      go_ret
      exact BoolIs.mk HC.out.symm (HBn.out.trans ((HBm.out.trans (HB.out.mono HBm.out.size)).mono HBn.out.size))
theorem psame_calls (d : Nat) : SameAt d := by
  induction d with
  | zero => intro ok ok2 p q u v m w h; exact h.elim
  | succ d ih => exact psame_step d ih
end Go.Proofs.YtbfcdpabjailcaaGreatDoor

/- Rows of items that a call makes itself. -/
namespace Go.Proofs.YtbfcdpabjailcaaGreatDoor
open Go.RowKit Fl
set_option linter.unusedVariables false
set_option maxRecDepth 100000

abbrev QI := Int × Nat × Int × Value
def quadV (t : QI) : List Value := [.int .i64 t.1, .float .f64 t.2.1, .int .i32 t.2.2.1, t.2.2.2]
def flatI (L : List QI) : List Value := L.flatMap quadV
theorem flatI_len (L : List QI) : (flatI L).length = L.length * 4 := by
  induction L with
  | nil => rfl
  | cons t L ih => simp only [flatI, List.flatMap_cons, List.length_append] at ih ⊢; rw [ih]; simp [quadV]; omega
theorem flatI_snoc (L : List QI) (t : QI) : flatI (L ++ [t]) = flatI L ++ quadV t := by simp [flatI]
theorem flatI_at {L : List QI} {i : Nat} {t : QI} (h : L[i]? = some t) : (flatI L)[i * 4]? = some (.int .i64 t.1) ∧ (flatI L)[i * 4 + 1]? = some (.float .f64 t.2.1) ∧ (flatI L)[i * 4 + 2]? = some (.int .i32 t.2.2.1) ∧ (flatI L)[i * 4 + 3]? = some t.2.2.2 := by
  obtain ⟨hk, e⟩ := List.getElem?_eq_some_iff.1 h
  have hl : L = L.take i ++ ([t] ++ L.drop (i + 1)) := by rw [← e]; simp
  have hlen : (flatI (L.take i)).length = i * 4 := by rw [flatI_len, List.length_take]; omega
  have hf : flatI L = flatI (L.take i) ++ (quadV t ++ flatI (L.drop (i + 1))) := by
    conv => lhs; rw [hl]
    simp [flatI]
  rw [hf]
  refine ⟨?_, ?_, ?_, ?_⟩
  · rw [List.getElem?_append_right (by omega), hlen]; simp [quadV]
  · rw [List.getElem?_append_right (by omega), hlen, Nat.add_sub_cancel_left]; rfl
  · rw [List.getElem?_append_right (by omega), hlen, Nat.add_sub_cancel_left]; rfl
  · rw [List.getElem?_append_right (by omega), hlen, Nat.add_sub_cancel_left]; rfl
/-- L are the cells of the items l. -/
def Quad (w : World) (ok : Nat → Prop) (L : List QI) (l : List PI) : Prop :=
  L.length = l.length ∧ ∀ (i : Nat) (x : PI), l[i]? = some x → ∃ v, L[i]? = some (x.1, x.2.1, x.2.2.1, v) ∧ IsB w ok v x.2.2.2
theorem Quad.nil (w : World) (ok : Nat → Prop) : Quad w ok [] [] := ⟨rfl, fun i x h => by simp at h⟩
theorem Quad.keep {w w' : World} {ok ok' : Nat → Prop} {L : List QI} {l : List PI} (hk : Kept ok w w') (hm : ∀ b, b < w.heap.size → ok b → ok' b) (h : Quad w ok L l) : Quad w' ok' L l :=
  ⟨h.1, fun i x hx => by obtain ⟨v, h1, h2⟩ := h.2 i x hx; exact ⟨v, h1, h2.keep hk hm⟩⟩
theorem Quad.snoc {w : World} {ok : Nat → Prop} {L : List QI} {l : List PI} (h : Quad w ok L l) {x : PI} {v : Value} (hv : IsB w ok v x.2.2.2) : Quad w ok (L ++ [(x.1, x.2.1, x.2.2.1, v)]) (l ++ [x]) := by
  refine ⟨by simp [h.1], fun i y hy => ?_⟩
  by_cases hi : i < l.length
  · rw [List.getElem?_append_left hi] at hy
    obtain ⟨u, h1, h2⟩ := h.2 i y hy
    exact ⟨u, by rw [List.getElem?_append_left (by rw [h.1]; exact hi)]; exact h1, h2⟩
  · obtain ⟨h1, _⟩ := List.getElem?_eq_some_iff.1 hy
    have : i = l.length := by simp at h1; omega
    subst this
    rw [List.getElem?_append_right (Nat.le_refl _), Nat.sub_self] at hy
    cases Option.some.inj hy
    exact ⟨v, by rw [List.getElem?_append_right (by rw [h.1]; exact Nat.le_refl _), h.1, Nat.sub_self]; rfl, hv⟩
theorem Its.of_own {w : World} {base n : Nat} {ok : Nat → Prop} {v : Value} {L : List QI} {l : List PI} (h : w.ownsRow base 48 4 v n (flatI L)) (hq : Quad w ok L l) : Its w (fun b => ok b ∨ base ≤ b) v l := by
  have hn : n = l.length := by have := h.1; rw [flatI_len, hq.1] at this; omega
  subst hn
  have hB : ∀ (i : Nat) (x : PI), l[i]? = some x → IsB w (fun b => ok b ∨ base ≤ b) ((L[i]?.map (fun t => t.2.2.2)).getD undef) x.2.2.2 := by
    intro i x hx
    obtain ⟨u, h1, h2⟩ := hq.2 i x hx
    rw [h1]
    exact h2.wide (fun _ _ h => .inl h)
  rcases h.2 with ⟨rfl, hl0⟩ | ⟨g, cap, cur, rfl, hb, hg, hnc, hcm, hcs, htake⟩
  · have : l = [] := List.eq_nil_of_length_eq_zero hl0
    subst this
    exact Its.nil _ _
  · refine ⟨_, cap, fun i => (L[i]?.map (fun t => t.2.2.2)).getD undef, rfl, hnc, hcm, fun i x hx => ?_, hB⟩
    obtain ⟨u, h1, h2⟩ := hq.2 i x hx
    obtain ⟨c0, c1, c2, c3⟩ := flatI_at h1
    have hi := (List.getElem?_eq_some_iff.1 hx).1
    refine ⟨g, 0, rfl, .inr hb, ?_, ?_, ?_, ?_⟩
    · rw [Nat.zero_add, h.cellAt (i * 4) (by omega)]; exact c0
    · rw [Nat.zero_add, h.cellAt (i * 4 + 1) (by omega)]; exact c1
    · rw [Nat.zero_add, h.cellAt (i * 4 + 2) (by omega)]; exact c2
    · rw [Nat.zero_add, h.cellAt (i * 4 + 3) (by omega), c3]; simp only [h1, Option.map_some, Option.getD_some]
theorem info_item : (Tryz.prog.info? 48).map (fun i => (i.zero, i.size, i.bytes)) = some (some (.agg #[.int .i64 0, .float .f64 0, .int .i32 0, .slice none 0 0]), 4, 48) := by kernel_rfl
theorem cell_four_new (w : World) (a b c d : Value) (t : TypeId) : ∀ j u, [a, b, c, d][j]? = some u → (w.alloc (.cells #[a, b, c, d] t)).cell? ((⟨w.heap.size, 0, none⟩ : Addr).add j) = some u := by
  intro j u h
  rw [Go.WideShapes.add_plain]
  match j with
  | 0 => simp at h; subst h; simp
  | 1 => simp at h; subst h; simp
  | 2 => simp at h; subst h; simp
  | 3 => simp at h; subst h; simp
  | j + 4 => simp at h
theorem At3.set1 {w : World} {b : Nat} {x y z : Value} (h : At3 w b x y z) (v : Value) : At3 (w.setCell ⟨b, 1, none⟩ v) b x v z := by
  obtain ⟨h0, h1, h2, h3, h4⟩ := h
  have hs : ∃ s, w.cell? ⟨b, 1, none⟩ = some s := ⟨_, h2⟩
  exact ⟨by simpa using h0, by rw [World.cell?_setCell_other _ _ _ _ (by simp)]; exact h1, World.cell?_setCell_same _ _ _ h2, by rw [World.cell?_setCell_other _ _ _ _ (by simp)]; exact h3, fun o => by simpa using h4 o⟩
theorem At3.set0 {w : World} {b : Nat} {x y z : Value} (h : At3 w b x y z) (v : Value) : At3 (w.setCell ⟨b, 0, none⟩ v) b v y z := by
  obtain ⟨h0, h1, h2, h3, h4⟩ := h
  exact ⟨by simpa using h0, World.cell?_setCell_same _ _ _ h1, by rw [World.cell?_setCell_other _ _ _ _ (by simp)]; exact h2, by rw [World.cell?_setCell_other _ _ _ _ (by simp)]; exact h3, fun o => by simpa using h4 o⟩
theorem At3.set2 {w : World} {b : Nat} {x y z : Value} (h : At3 w b x y z) (v : Value) : At3 (w.setCell ⟨b, 2, none⟩ v) b x y v := by
  obtain ⟨h0, h1, h2, h3, h4⟩ := h
  exact ⟨by simpa using h0, by rw [World.cell?_setCell_other _ _ _ _ (by simp)]; exact h1, by rw [World.cell?_setCell_other _ _ _ _ (by simp)]; exact h2, World.cell?_setCell_same _ _ _ h3, fun o => by simpa using h4 o⟩
theorem At3.other {w : World} {b : Nat} {x y z : Value} (h : At3 w b x y z) (p : Addr) (hp : b ≠ p.block) (v : Value) : At3 (w.setCell p v) b x y z := by
  obtain ⟨h0, h1, h2, h3, h4⟩ := h
  have hne : ∀ o, p ≠ (⟨b, o, none⟩ : Addr) := fun o e => hp (by rw [e])
  exact ⟨by simpa using h0, by rw [World.cell?_setCell_other _ _ _ _ (hne _)]; exact h1, by rw [World.cell?_setCell_other _ _ _ _ (hne _)]; exact h2, by rw [World.cell?_setCell_other _ _ _ _ (hne _)]; exact h3, fun o => by simpa using h4 o⟩
theorem At3.grown {w w' : World} {b : Nat} {x y z : Value} (h : At3 w b x y z) {row : Option Nat} (hg : w.grownBy w' row) (hne : some b ≠ row) : At3 w' b x y z := by
  obtain ⟨h0, h1, h2, h3, h4⟩ := h
  exact ⟨Nat.lt_of_lt_of_le h0 hg.size, hg.cell h1 hne, hg.cell h2 hne, hg.cell h3 hne, fun o => by rw [← h4 o]; exact grown_frozen hg h0 hne⟩
theorem Blk4.set1 {w : World} {b : Nat} {x y z t : Value} (h : Blk4 w b x y z t) (v : Value) : Blk4 (w.setCell ⟨b, 1, none⟩ v) b x v z t := by
  obtain ⟨h0, h1, h2, h3, h4, h5⟩ := h
  exact ⟨by simpa using h0, by rw [World.cell?_setCell_other _ _ _ _ (by simp)]; exact h1, World.cell?_setCell_same _ _ _ h2, by rw [World.cell?_setCell_other _ _ _ _ (by simp)]; exact h3, by rw [World.cell?_setCell_other _ _ _ _ (by simp)]; exact h4, fun o => by simpa using h5 o⟩
theorem Blk4.set2 {w : World} {b : Nat} {x y z t : Value} (h : Blk4 w b x y z t) (v : Value) : Blk4 (w.setCell ⟨b, 2, none⟩ v) b x y v t := by
  obtain ⟨h0, h1, h2, h3, h4, h5⟩ := h
  exact ⟨by simpa using h0, by rw [World.cell?_setCell_other _ _ _ _ (by simp)]; exact h1, by rw [World.cell?_setCell_other _ _ _ _ (by simp)]; exact h2, World.cell?_setCell_same _ _ _ h3, by rw [World.cell?_setCell_other _ _ _ _ (by simp)]; exact h4, fun o => by simpa using h5 o⟩
theorem Blk4.set3 {w : World} {b : Nat} {x y z t : Value} (h : Blk4 w b x y z t) (v : Value) : Blk4 (w.setCell ⟨b, 3, none⟩ v) b x y z v := by
  obtain ⟨h0, h1, h2, h3, h4, h5⟩ := h
  exact ⟨by simpa using h0, by rw [World.cell?_setCell_other _ _ _ _ (by simp)]; exact h1, by rw [World.cell?_setCell_other _ _ _ _ (by simp)]; exact h2, by rw [World.cell?_setCell_other _ _ _ _ (by simp)]; exact h3, World.cell?_setCell_same _ _ _ h4, fun o => by simpa using h5 o⟩
end Go.Proofs.YtbfcdpabjailcaaGreatDoor

/- Plain arrays, the document's functions walked: Tidy. -/
namespace Go.Proofs.YtbfcdpabjailcaaGreatDoor
open Go.RowKit Fl
set_option linter.unusedVariables false
set_option maxRecDepth 100000

def tidyI (t : PA → PA) (x : PI) : PI := (x.1, if x.1 = 0 then ze x.2.1 else 0, if x.1 = 1 then x.2.2.1 else 0, if x.1 = 2 then [t (Go.Proofs.YtbfcdpabjailcaaGreatDoor.hd x.2.2.2)] else [])
/-- Tidied: each item with what its kind has alone. -/
def tidyP : Nat → PA → PA
  | 0, _ => default
  | d + 1, p => .mk p.s (p.l.map (tidyI (tidyP d))) p.f
def PlainIs (q : PA) (ok : Nat → Prop) (w : World) (e : Ending) (w' : World) : Prop := ∃ u, e = .returned u ∧ IsP w' (fun b => (ok b ∧ b < w.heap.size) ∨ w.heap.size ≤ b) u q ∧ Below w.heap.size w w'

theorem Slc.ltw {w : World} {ok : Nat → Prop} {s : Value} {n : Nat} {xs : List Value} (h : Slc w ok s n xs) : Slc w (fun b => ok b ∧ b < w.heap.size) s n xs := h.keep (Kept.refl _ _) (fun b h1 h2 => ⟨h2, h1⟩)
theorem Kept.grown {ok : Nat → Prop} {w w' : World} {row : Option Nat} (h : w.grownBy w' row) (hne : ∀ b, ok b → some b ≠ row) : Kept ok w w' := fun a v o hv => h.cell hv (hne _ o)
/-- A plain array handed back through a variable of its own. -/
theorem plain_done {wr : World} {ok : Nat → Prop} {sh v : Value} {s : List Int} {l : List PI} {f : Int} {r : Nat} (hs : Slc wr ok sh s.length (ints s)) (hi : Its wr ok v l) (hr : ¬ ok r) (x y z : Value) :
    IsP (((wr.setCell ⟨r, 0, none⟩ x).setCell ⟨r, 1, none⟩ y).setCell ⟨r, 2, none⟩ z) ok (.agg #[sh, v, .int .i64 f]) (.mk s l f) :=
  (IsP.of hs hi).keep (((Kept.setCell _ _ _ hr).trans (Kept.setCell _ _ _ hr)).trans (Kept.setCell _ _ _ hr)) (fun _ _ h => h)
/-- What holds at the head of a round of Tidy. -/
def TRel (w : World) (ok : Nat → Prop) (B : Nat) (x y z sh f : Value) (k : Nat) (v : Value) (L : List QI) (l : List PI) (wr : World) : Prop :=
  wr.ownsRow B 48 4 v k (flatI L) ∧ Quad wr (fun b => ((ok b ∧ b < w.heap.size) ∨ B ≤ b) ∧ v.ownBlock ≠ some b) L l ∧ At3 wr w.heap.size x y z ∧ At3 wr (w.heap.size + 1) (.slice none 0 0) (.slice none 0 0) (.int .i64 0) ∧ At3 wr (w.heap.size + 1 + 1) sh v f ∧ Below w.heap.size w wr
theorem TRel.step {w wr W3 w5 : World} {ok : Nat → Prop} {B k : Nat} {x y z sh f v v' bx : Value} {L : List QI} {l : List PI} {t : PI} {o : Obj} (h : TRel w ok B x y z sh f k v L l wr) (hB : w.heap.size + 1 + 1 < B) (h3 : Below wr.heap.size wr W3)
    (hb : IsB W3 (fun b => ((ok b ∧ b < w.heap.size) ∨ B ≤ b) ∧ v.ownBlock ≠ some b) bx t.2.2.2) (hown : w5.ownsRow B 48 4 v' (k + 1) (flatI L ++ quadV (t.1, t.2.1, t.2.2.1, bx))) (hg : (W3.alloc o).grownBy w5 v.ownBlock)
    (hk : ∀ j, v'.ownBlock = some j → v.ownBlock = some j ∨ (W3.alloc o).heap.size ≤ j) : TRel w ok B x y z sh f (k + 1) v' (L ++ [(t.1, t.2.1, t.2.2.1, bx)]) (l ++ [t]) (w5.setCell ⟨w.heap.size + 1 + 1, 1, none⟩ v') := by
  obtain ⟨h1, h2, h4, h5, h6, h7⟩ := h
  have hsz : w.heap.size ≤ wr.heap.size := h7.size
  have h34 : Below W3.heap.size W3 (W3.alloc o) := below_new _ _
  have hr4 : Below wr.heap.size wr (W3.alloc o) := h3.trans (h34.mono h3.size)
  have hnot : ∀ b, b < B → some b ≠ v.ownBlock := fun b hb e => by have := (h1.lt b e.symm).1; omega
  have hA : ∀ {b : Nat} {x y z : Value}, b < B → At3 wr b x y z → At3 w5 b x y z := fun hb ha => (ha.below hr4).grown hg (hnot _ hb)
  refine ⟨?_, ?_, ?_, ?_, ?_, ?_⟩
  · rw [flatI_snoc]
    exact ownsRow_setCell_below hown (by show w.heap.size + 1 + 1 < B; omega) _
  · refine Quad.keep (w := w5) (ok := fun b => ((ok b ∧ b < w.heap.size) ∨ B ≤ b) ∧ v'.ownBlock ≠ some b) (Kept.setCell _ _ _ (by
      rintro ⟨h | h, _⟩
      · have := h.2; simp at this; omega
      · simp at h; omega)) (fun b _ h => h) ?_
    refine Quad.keep (w := W3) (ok := fun b => ((ok b ∧ b < w.heap.size) ∨ B ≤ b) ∧ v.ownBlock ≠ some b) (Kept.trans (Kept.below h34) (Kept.grown hg (fun b hb e => hb.2 e.symm))) (fun b hb ho => ⟨ho.1, fun e => ?_⟩) ((h2.keep (Kept.below h3) (fun _ _ h => h)).snoc hb)
    rcases hk b e with e2 | e2
    · exact ho.2 e2
    · have := h34.size; omega
  · exact (hA (by omega) h4).other _ (by simp; omega) _
  · exact (hA (by omega) h5).other _ (by simp) _
  · exact (hA (by omega) h6).set1 _
  · refine Below.setCell ?_ (by show w.heap.size ≤ w.heap.size + 1 + 1; omega) _
    exact (h7.trans (hr4.mono hsz)).grown hg (by have := hr4.size; omega) (fun j hj => by have := (h1.lt j hj).1; omega)

set_option maxHeartbeats 4000000 in
theorem ptidy_calls (d : Nat) : ∀ (ok : Nat → Prop) (p : PA) (u : Value) (w : World), chk d p = 0 → IsP w ok u p → Calls Tryz.prog 7 #[u] w (PlainIs (tidyP d p) ok w) := by
  induction d with
  | zero => intro ok p u w hc; simp [chk] at hc
  | succ d ih =>
    intro ok p u w hc hp
    obtain ⟨so, sc, io, ic, rfl, hs, hit⟩ := hp.opened
    have HW := Lib.hid (chk_well.1 hc)
    have HI := Lib.hid hit.lt
    have HS := Lib.hid hs.ltw
    obtain ⟨_, _, e1, e4, e5⟩ := hit.len
    cases e1
    unfold maxLen at e5
    have HIH := Lib.hid ih
    have hpl := (prodR_len (chk_well.1 hc).2.2.1).2
    clear hit hs hp ih hc
    obtain ⟨i0, hi, hz0, hz1, hz2⟩ := info_parts info_item
    have HI0 := Lib.hid (And.intro hi (And.intro hz0 (And.intro hz1 hz2)))
    clear hi hz0 hz1 hz2
    have hsf := run_store_float
    obtain ⟨W1, hW1⟩ : ∃ W1, W1 = ((w.alloc (.cells #[.slice so p.s.length sc, .slice io p.l.length ic, .int .i64 p.f] 25)).alloc (.cells #[.slice none 0 0, .slice none 0 0, .int .i64 0] 25)).alloc (.cells #[.slice so p.s.length sc, .slice none 0 0, .int .i64 p.f] 25) := ⟨_, rfl⟩
    have HSW1 := Lib.hid (show w.heap.size + 1 + 1 < W1.heap.size by rw [hW1]; simp)
    have HR0 := Lib.hid (show TRel w ok W1.heap.size (.slice so p.s.length sc) (.slice io p.l.length ic) (.int .i64 p.f) (.slice so p.s.length sc) (.int .i64 p.f) 0 (.slice none 0 0) [] [] W1 by
      refine ⟨World.ownsRow_nil _ _ _ _, Quad.nil _ _, ?_, ?_, ?_, ?_⟩
      · rw [hW1]; exact ((At3.new w _ _ _ _).below (below_new _ _)).below (below_new _ _)
      · rw [hW1]; have := (At3.new (w.alloc (.cells #[.slice so p.s.length sc, .slice io p.l.length ic, .int .i64 p.f] 25)) (.slice none 0 0) (.slice none 0 0) (.int .i64 0) 25).below (below_new _ (.cells #[.slice so p.s.length sc, .slice none 0 0, .int .i64 p.f] 25)); simpa using this
      · rw [hW1]; have := At3.new ((w.alloc (.cells #[.slice so p.s.length sc, .slice io p.l.length ic, .int .i64 p.f] 25)).alloc (.cells #[.slice none 0 0, .slice none 0 0, .int .i64 0] 25)) (.slice so p.s.length sc) (.slice none 0 0) (.int .i64 p.f) 25; simpa using this
      · rw [hW1]; exact (((Below.refl _ _).alloc (Nat.le_refl _) _).alloc (by simp) _).alloc (by simp; omega) _)
    go_enter Tryz.func7, Tryz.ntmps7
    go_wp2_with fail
    rw [← hW1]
    clear hW1
    go_loopw [4] (fun i wr => ∃ (k : Nat) (V : Value) (L : List QI), k ≤ p.l.length ∧ i = .int .i64 k ∧ TRel w ok W1.heap.size (.slice so p.s.length sc) (.slice io p.l.length ic) (.int .i64 p.f) (.slice so p.s.length sc) (.int .i64 p.f) k V L ((p.l.take k).map (tidyI (tidyP d))) wr ∧ W1.heap.size ≤ wr.heap.size) (fun i _ => p.l.length - (intOf i).toNat)
    case atStart => exact ⟨0, _, _, by omega, rfl, by simpa using HR0.out, Nat.le_refl _⟩
    case round =>
      obtain ⟨k, V, L, hk, rfl, hR, hSW⟩ := hrel
      obtain ⟨ao, cap, rfl⟩ := owns_form hR.1
      have HR := Lib.hid hR
      have HSW := Lib.hid hSW
      obtain ⟨_, a0, a1, a2, _⟩ := hR.2.2.1
      obtain ⟨_, o0, o1, o2, of⟩ := hR.2.2.2.2.1
      have HBr := Lib.hid hR.2.2.2.2.2
      clear hR
      by_cases hlt : k < p.l.length
      · have hx := List.getElem?_eq_getElem hlt
        obtain ⟨x, hxx⟩ : ∃ x, x = p.l[k] := ⟨_, rfl⟩
        rw [← hxx] at hx
        clear hxx
        have HX := Lib.hid hx
        obtain ⟨hkf, hbx2, hfin⟩ := HW.out.2.2.2 x (List.mem_of_getElem? hx)
        have HBX2 := Lib.hid hbx2
        have HFIN := Lib.hid hfin
        obtain ⟨b, off, bo, bc, rfl, _, c0, c1, c2, c3, hbx⟩ := (HI.out.grow HBr.out).at hx
        obtain ⟨_, _, e1, e6, e7⟩ := hbx.len
        cases e1
        unfold maxLen at e7
        obtain ⟨kd, nm, ch, bx⟩ := x
        simp only at c0 c1 c2 c3 e6 hkf HBX2 HFIN
        have HBX := Lib.hid hbx
        simp only at HBX
        have HKF := Lib.hid hkf
        have HFS := Lib.hid HW.out.1
        have HFS2 := Lib.hid HW.out.2.1
        clear hx hbx hbx2 hfin
        obtain ⟨W2, hW2⟩ : ∃ W2, W2 = wr.alloc (.cells #[.int .i64 kd, .float .f64 0, .int .i32 0, .slice none 0 0] 48) := ⟨_, rfl⟩
        have HA4 := Lib.hid (show Blk4 W2 wr.heap.size _ _ _ _ by rw [hW2]; exact Blk4.new wr _ _ _ _ _)
        have HB2 := Lib.hid (show Below wr.heap.size wr W2 by rw [hW2]; exact below_new _ _)
        obtain ⟨_, d0, d1, d2, d3, df⟩ := HA4.out
        have g0 := keep_below HB2.out _ _ c0
        have g1 := keep_below HB2.out _ _ c1
        have g2 := keep_below HB2.out _ _ c2
        have g3 := keep_below HB2.out _ _ c3
        have hfold := hW2.symm
        clear hW2 hkf
        have HG := Lib.hid (And.intro c0 (And.intro c1 (And.intro c2 c3)))
        have a1' := (HR.out.2.2.1.below HB2.out).2.2.1
        by_cases hk0 : kd = 0
        · subst hk0
          have hF := HFIN.out rfl
          have HF := Lib.hid hF
          have HTI := Lib.hid (show [tidyI (tidyP d) (0, nm, ch, bx)] = [(0, ze nm, 0, [])] by simp [tidyI])
          obtain ⟨W3, hW3⟩ : ∃ W3, W3 = W2.setCell ⟨wr.heap.size, 1, none⟩ (.float .f64 (ze nm)) := ⟨_, rfl⟩
          have HA3 := Lib.hid (show Blk4 W3 wr.heap.size _ _ _ _ by rw [hW3]; exact HA4.out.set1 _)
          have HB3 := Lib.hid (show Below wr.heap.size wr W3 by rw [hW3]; exact HB2.out.setCell (Nat.le_refl _) _)
          have HBXT := Lib.hid (IsB.nil W3 (fun b => ((ok b ∧ b < w.heap.size) ∨ W1.heap.size ≤ b) ∧ (Value.slice ao k cap).ownBlock ≠ some b))
          have hfold3 := hW3.symm
          have HFD3 := Lib.hid hfold3
          have df1 := df 1
          have HFW := Lib.hid hfold
          rw [← hfold] at g0 g1 g2 g3 a1'
          clear hF hW3 hfold3 hfold d0 d1 d2 d3
          go_wp2_with fail
          rw [HFW.out]
          have hfold3 := HFD3.out
          obtain ⟨_, d0, d1, d2, d3, _⟩ := HA4.out
          clear g0 g1 g2 g3
          have g0 := keep_below HB2.out _ _ HG.out.1
          have g1 := keep_below HB2.out _ _ HG.out.2.1
          have g2 := keep_below HB2.out _ _ HG.out.2.2.1
          have g3 := keep_below HB2.out _ _ HG.out.2.2.2
          refine (rtidy_fin nm _ HF.out).mono ?_
          rintro e w' ⟨rfl, rfl⟩
          clear df g0 g1 g2 g3 c0 c1 c2 c3
          obtain ⟨_, y0, y1, y2, y3, _⟩ := HA3.out
          have y4 := (HR.out.2.2.1.below HB3.out).2.2.1
          have y5 := (HR.out.2.2.2.2.1.below HB3.out).2.2.1
          obtain ⟨W4, hW4⟩ : ∃ W4, W4 = W3.alloc (.cells #[.int .i64 0, .float .f64 (ze nm), .int .i32 0, .slice none 0 0] 48) := ⟨_, rfl⟩
          have HO4 := Lib.hid (show W4.ownsRow W1.heap.size 48 4 (.slice ao k cap) k (flatI L) by rw [hW4]; exact (owns_below2 HR.out.1 HB3.out).alloc _)
          have HN4 := Lib.hid (show ∀ j u, (quadV (0, (ze nm), 0, .slice none 0 0))[j]? = some u → W4.cell? ((⟨W3.heap.size, 0, none⟩ : Addr).add j) = some u by rw [hW4]; exact cell_four_new _ _ _ _ _ _)
          have HSZ := Lib.hid (show W1.heap.size ≤ W4.heap.size by rw [hW4]; have := HB3.out.size; have := HSW.out; simp; omega)
          have HON := Lib.hid (show ∀ u ∈ quadV (0, (ze nm), 0, .slice none 0 0), u.oneCell' = true by intro u hu; simp [quadV] at hu; rcases hu with rfl | rfl | rfl | rfl <;> rfl)
          have HAo := Lib.hid ((HR.out.2.2.2.2.1.below HB3.out).below (below_new W3 (.cells #[.int .i64 0, .float .f64 (ze nm), .int .i32 0, .slice none 0 0] 48)))
          rw [← hW4] at HAo
          obtain ⟨_, q0, q1, q2, _⟩ := HAo.out
          have hfold4 := hW4.symm
          have HW4 := Lib.hid hW4
          clear hW4
          obtain ⟨hi, hz0, hz1, hz2⟩ := HI0.out
          have HM1 : Hid (k + 1 ≤ maxLen) := Lib.hid (by unfold maxLen; omega)
          have HM2 : Hid ((k + 1) * 48 ≤ 140737488355328) := Lib.hid (by omega)
          clear hi hz0 hz1 hz2
          go_wp2_with (at_builtin; refine wpList_append_blk _ rfl _ _ 23 rfl W1.heap.size 48 i0 _ 4 48 Tryz.underlying23 HI0.out.1 HI0.out.2.1 HI0.out.2.2.1 HI0.out.2.2.2 rfl (by decide) _ k (flatI L) rfl HO4.out ⟨W3.heap.size, 0, none⟩ 1 1 (quadV (0, (ze nm), 0, .slice none 0 0)) rfl rfl HN4.out HON.out HM1.out HM2.out HSZ.out ?_)
          intro v' w5 hown hgrow hblk
          obtain ⟨ao', cap', rfl⟩ := owns_form hown
          have HS5 := Lib.hid (HR.out.step (t := (0, ze nm, 0, [])) HSW1.out HB3.out HBXT.out hown (by rw [← HW4.out]; exact hgrow) (by rw [← HW4.out]; exact hblk))
          have HAo5 := Lib.hid (HAo.out.grown hgrow (by intro e; have := (HO4.out.lt _ e.symm).1; have := HSW1.out; omega))
          have HZ5 := Lib.hid (show W1.heap.size ≤ w5.heap.size from Nat.le_trans HSZ.out hgrow.size)
          obtain ⟨_, r0, r1, r2, rf⟩ := HAo5.out
          have r3 := rf 1
          clear hown hgrow hblk hfold4 q0 q1 q2 rf
          go_wp2_with fail
          go_roundw
          case rel =>
            refine ⟨k + 1, .slice ao' (k + 1) cap', L ++ [(0, (ze nm), 0, .slice none 0 0)], by omega, by go_num, ?_, by simpa using HZ5.out⟩
            rw [ptake HX.out, List.map_append, List.map_cons, List.map_nil, HTI.out]
            exact HS5.out
          case measure => simp [intOf]; omega
        have h0e : (kd == 0) = false := by simpa using hk0
        by_cases hk1 : kd = 1
        · subst hk1
          have HTI := Lib.hid (show [tidyI (tidyP d) (1, nm, ch, bx)] = [(1, 0, ch, [])] by simp [tidyI])
          obtain ⟨W3, hW3⟩ : ∃ W3, W3 = wr.alloc (.cells #[.int .i64 1, .float .f64 0, .int .i32 ch, .slice none 0 0] 48) := ⟨_, rfl⟩
          have HA3 := Lib.hid (show Blk4 W3 wr.heap.size _ _ _ _ by rw [hW3]; exact Blk4.new _ _ _ _ _ _)
          have HB3 := Lib.hid (show Below wr.heap.size wr W3 by rw [hW3]; exact below_new _ _)
          have HBXT := Lib.hid (IsB.nil W3 (fun b => ((ok b ∧ b < w.heap.size) ∨ W1.heap.size ≤ b) ∧ (Value.slice ao k cap).ownBlock ≠ some b))
          have hfold3 := hW3.symm
          rw [← hfold] at g0 g1 g2 g3 a1'
          clear hW3 hk0 hfold d0 d1 d2 d3 df
          obtain ⟨_, y0, y1, y2, y3, _⟩ := HA3.out
          have y4 := (HR.out.2.2.1.below HB3.out).2.2.1
          have y5 := (HR.out.2.2.2.2.1.below HB3.out).2.2.1
          obtain ⟨W4, hW4⟩ : ∃ W4, W4 = W3.alloc (.cells #[.int .i64 1, .float .f64 0, .int .i32 ch, .slice none 0 0] 48) := ⟨_, rfl⟩
          have HO4 := Lib.hid (show W4.ownsRow W1.heap.size 48 4 (.slice ao k cap) k (flatI L) by rw [hW4]; exact (owns_below2 HR.out.1 HB3.out).alloc _)
          have HN4 := Lib.hid (show ∀ j u, (quadV (1, 0, ch, .slice none 0 0))[j]? = some u → W4.cell? ((⟨W3.heap.size, 0, none⟩ : Addr).add j) = some u by rw [hW4]; exact cell_four_new _ _ _ _ _ _)
          have HSZ := Lib.hid (show W1.heap.size ≤ W4.heap.size by rw [hW4]; have := HB3.out.size; have := HSW.out; simp; omega)
          have HON := Lib.hid (show ∀ u ∈ quadV (1, 0, ch, .slice none 0 0), u.oneCell' = true by intro u hu; simp [quadV] at hu; rcases hu with rfl | rfl | rfl | rfl <;> rfl)
          have HAo := Lib.hid ((HR.out.2.2.2.2.1.below HB3.out).below (below_new W3 (.cells #[.int .i64 1, .float .f64 0, .int .i32 ch, .slice none 0 0] 48)))
          rw [← hW4] at HAo
          obtain ⟨_, q0, q1, q2, _⟩ := HAo.out
          have hfold4 := hW4.symm
          have HW4 := Lib.hid hW4
          clear hW4
          obtain ⟨hi, hz0, hz1, hz2⟩ := HI0.out
          have HM1 : Hid (k + 1 ≤ maxLen) := Lib.hid (by unfold maxLen; omega)
          have HM2 : Hid ((k + 1) * 48 ≤ 140737488355328) := Lib.hid (by omega)
          clear hi hz0 hz1 hz2
          go_wp2_with (at_builtin; refine wpList_append_blk _ rfl _ _ 23 rfl W1.heap.size 48 i0 _ 4 48 Tryz.underlying23 HI0.out.1 HI0.out.2.1 HI0.out.2.2.1 HI0.out.2.2.2 rfl (by decide) _ k (flatI L) rfl HO4.out ⟨W3.heap.size, 0, none⟩ 1 1 (quadV (1, 0, ch, .slice none 0 0)) rfl rfl HN4.out HON.out HM1.out HM2.out HSZ.out ?_)
          intro v' w5 hown hgrow hblk
          obtain ⟨ao', cap', rfl⟩ := owns_form hown
          have HS5 := Lib.hid (HR.out.step (t := (1, 0, ch, [])) HSW1.out HB3.out HBXT.out hown (by rw [← HW4.out]; exact hgrow) (by rw [← HW4.out]; exact hblk))
          have HAo5 := Lib.hid (HAo.out.grown hgrow (by intro e; have := (HO4.out.lt _ e.symm).1; have := HSW1.out; omega))
          have HZ5 := Lib.hid (show W1.heap.size ≤ w5.heap.size from Nat.le_trans HSZ.out hgrow.size)
          obtain ⟨_, r0, r1, r2, rf⟩ := HAo5.out
          have r3 := rf 1
          clear hown hgrow hblk hfold4 q0 q1 q2 rf
          go_wp2_with fail
          go_roundw
          case rel =>
            refine ⟨k + 1, .slice ao' (k + 1) cap', L ++ [(1, 0, ch, .slice none 0 0)], by omega, by go_num, ?_, by simpa using HZ5.out⟩
            rw [ptake HX.out, List.map_append, List.map_cons, List.map_nil, HTI.out]
            exact HS5.out
          case measure => simp [intOf]; omega
        · have hk2 : kd = 2 := by have := HKF.out; have := HFS.out; have := HFS2.out; omega
          subst hk2
          obtain ⟨q, hq, hcq⟩ := HBX2.out rfl
          have hl1 : bx.length = 1 := by rw [hq]; rfl
          have HTI := Lib.hid (show [tidyI (tidyP d) (2, nm, ch, bx)] = [(2, 0, 0, [tidyP d q])] by rw [hq]; rfl)
          obtain ⟨b', off', so', sc', io', ic', rfl, _, f0, f1, f2, hP⟩ := (HBX.out.grow HB2.out).at (k := 0) (by rw [hq]; rfl : bx[0]? = some q)
          have hlen0 : 0 < bx.length := by omega
          have HQ := Lib.hid (HIH.out (fun b => ok b ∧ b < w.heap.size) q _ W2 hcq hP)
          have HFW := Lib.hid hfold
          obtain ⟨T, hT⟩ : ∃ T, T = tidyP d q := ⟨_, rfl⟩
          rw [← hT] at HQ HTI
          simp only [Nat.zero_mul, Nat.add_zero] at f0 f1 f2
          rw [← hfold] at g0 g1 g2 g3 a1' f0 f1 f2
          clear hk0 hk1 h0e hfold d0 d1 d2 d3 df hq hcq hP hl1 hT
          go_wp2_with fail
          rw [HFW.out]
          refine HQ.out.mono ?_
          rintro e W2b ⟨uT, rfl, hTP, hBT⟩
          obtain ⟨so2, sc2, io2, ic2, rfl, _⟩ := hTP.opened
          have HTP := Lib.hid hTP
          have HBT := Lib.hid hBT
          obtain ⟨W2c, hW2c⟩ : ∃ W2c, W2c = W2b.alloc (.cells #[.slice so2 T.s.length sc2, .slice io2 T.l.length ic2, .int .i64 T.f] 25) := ⟨_, rfl⟩
          obtain ⟨W3, hW3⟩ : ∃ W3, W3 = W2c.setCell ⟨wr.heap.size, 3, none⟩ (.slice (some ⟨W2b.heap.size, 0, none⟩) 1 1) := ⟨_, rfl⟩
          have HBc := Lib.hid (show Below W2b.heap.size W2b W2c by rw [hW2c]; exact below_new _ _)
          have HB2c := Lib.hid (HB2.out.trans ((HBT.out.trans (HBc.out.mono HBT.out.size)).mono HB2.out.size))
          have HA3c := Lib.hid ((HA4.out.below HBT.out).below HBc.out)
          have HA3 := Lib.hid (show Blk4 W3 wr.heap.size _ _ _ _ by rw [hW3]; exact HA3c.out.set3 (.slice (some ⟨W2b.heap.size, 0, none⟩) 1 1))
          have HB3 := Lib.hid (show Below wr.heap.size wr W3 by rw [hW3]; exact HB2c.out.setCell (Nat.le_refl _) _)
          have HBXT := Lib.hid (show IsB W3 (fun b => ((ok b ∧ b < w.heap.size) ∨ W1.heap.size ≤ b) ∧ (Value.slice ao k cap).ownBlock ≠ some b) (.slice (some ⟨W2b.heap.size, 0, none⟩) 1 1) [T] by
            have hob : ∀ b, (Value.slice ao k cap).ownBlock = some b → W1.heap.size ≤ b ∧ b < wr.heap.size := HR.out.1.lt
            have hs1 := HB2.out.size
            have hs2 := HBT.out.size
            have hwr : wr.heap.size < W2.heap.size := HA4.out.1
            have hsw := HSW.out
            have hsw1 := HSW1.out
            have hn : ∀ b, W2.heap.size ≤ b → (Value.slice ao k cap).ownBlock ≠ some b := fun b hb e => by have := (hob b e).2; omega
            have hn2 : ∀ b, b < w.heap.size → (Value.slice ao k cap).ownBlock ≠ some b := fun b hb e => by have := (hob b e).1; omega
            have hkeep : Kept (fun b => ((ok b ∧ b < w.heap.size) ∨ W2.heap.size ≤ b)) W2b W3 := by
              rw [hW3]
              exact (Kept.below HBc.out).trans (Kept.setCell _ _ _ (by rintro (h | h); · have := h.2; simp at this; omega
                                                                       · simp at h; omega))
            refine ⟨_, 1, fun _ => .slice so2 T.s.length sc2, fun _ => .slice io2 T.l.length ic2, fun _ => .int .i64 T.f, rfl, by simp, by unfold maxLen; omega, fun j hj => ?_, fun j r hr => ?_⟩
            · obtain rfl : j = 0 := by simp at hj; omega
              obtain ⟨_, m0, m1, m2, _⟩ := At3.new W2b (.slice so2 T.s.length sc2) (.slice io2 T.l.length ic2) (.int .i64 T.f) 25
              refine ⟨_, 0, rfl, ⟨.inr (by omega), hn _ (by omega)⟩, ?_, ?_, ?_⟩
              · rw [hW3, World.cell?_setCell_other _ _ _ _ (by simp), hW2c]; exact m0
              · rw [hW3, World.cell?_setCell_other _ _ _ _ (by simp), hW2c]; exact m1
              · rw [hW3, World.cell?_setCell_other _ _ _ _ (by simp), hW2c]; exact m2
            · have : r = T := by
                match j with
                | 0 => simpa using hr.symm
                | j + 1 => simp at hr
              subst this
              refine (HTP.out.wide (ok' := fun b => ((ok b ∧ b < w.heap.size) ∨ W2.heap.size ≤ b)) (fun b _ h => ?_)).keep hkeep (fun b _ h => ?_)
              · rcases h with h | h
                · exact .inl h.1
                · exact .inr h
              · rcases h with h | h
                · exact ⟨.inl h, hn2 _ h.2⟩
                · exact ⟨.inr (by omega), hn _ h⟩)
          have hfold2 := hW2c.symm
          have hfold3 := hW3.symm
          obtain ⟨_, d0, d1, d2, d3, df⟩ := HA3c.out
          have df3 := df 3
          clear hTP hBT hW2c hW3 g0 g1 g2 g3 f0 f1 f2 a1' c0 c1 c2 c3 df o0 o1 o2 of a0 a1 a2
          obtain ⟨_, y0, y1, y2, y3, _⟩ := HA3.out
          have y4 := (HR.out.2.2.1.below HB3.out).2.2.1
          have y5 := (HR.out.2.2.2.2.1.below HB3.out).2.2.1
          obtain ⟨W4, hW4⟩ : ∃ W4, W4 = W3.alloc (.cells #[.int .i64 2, .float .f64 0, .int .i32 0, .slice (some ⟨W2b.heap.size, 0, none⟩) 1 1] 48) := ⟨_, rfl⟩
          have HO4 := Lib.hid (show W4.ownsRow W1.heap.size 48 4 (.slice ao k cap) k (flatI L) by rw [hW4]; exact (owns_below2 HR.out.1 HB3.out).alloc _)
          have HN4 := Lib.hid (show ∀ j u, (quadV (2, 0, 0, .slice (some ⟨W2b.heap.size, 0, none⟩) 1 1))[j]? = some u → W4.cell? ((⟨W3.heap.size, 0, none⟩ : Addr).add j) = some u by rw [hW4]; exact cell_four_new _ _ _ _ _ _)
          have HSZ := Lib.hid (show W1.heap.size ≤ W4.heap.size by rw [hW4]; have := HB3.out.size; have := HSW.out; simp; omega)
          have HON := Lib.hid (show ∀ u ∈ quadV (2, 0, 0, .slice (some ⟨W2b.heap.size, 0, none⟩) 1 1), u.oneCell' = true by intro u hu; simp [quadV] at hu; rcases hu with rfl | rfl | rfl | rfl <;> rfl)
          have HAo := Lib.hid ((HR.out.2.2.2.2.1.below HB3.out).below (below_new W3 (.cells #[.int .i64 2, .float .f64 0, .int .i32 0, .slice (some ⟨W2b.heap.size, 0, none⟩) 1 1] 48)))
          rw [← hW4] at HAo
          obtain ⟨_, q0, q1, q2, _⟩ := HAo.out
          have hfold4 := hW4.symm
          have HW4 := Lib.hid hW4
          clear hW4
          obtain ⟨hi, hz0, hz1, hz2⟩ := HI0.out
          have HM1 : Hid (k + 1 ≤ maxLen) := Lib.hid (by unfold maxLen; omega)
          have HM2 : Hid ((k + 1) * 48 ≤ 140737488355328) := Lib.hid (by omega)
          clear hi hz0 hz1 hz2
          go_wp2_with (at_builtin; refine wpList_append_blk _ rfl _ _ 23 rfl W1.heap.size 48 i0 _ 4 48 Tryz.underlying23 HI0.out.1 HI0.out.2.1 HI0.out.2.2.1 HI0.out.2.2.2 rfl (by decide) _ k (flatI L) rfl HO4.out ⟨W3.heap.size, 0, none⟩ 1 1 (quadV (2, 0, 0, .slice (some ⟨W2b.heap.size, 0, none⟩) 1 1)) rfl rfl HN4.out HON.out HM1.out HM2.out HSZ.out ?_)
          intro v' w5 hown hgrow hblk
          obtain ⟨ao', cap', rfl⟩ := owns_form hown
          have HS5 := Lib.hid (HR.out.step (t := (2, 0, 0, [T])) HSW1.out HB3.out HBXT.out hown (by rw [← HW4.out]; exact hgrow) (by rw [← HW4.out]; exact hblk))
          have HAo5 := Lib.hid (HAo.out.grown hgrow (by intro e; have := (HO4.out.lt _ e.symm).1; have := HSW1.out; omega))
          have HZ5 := Lib.hid (show W1.heap.size ≤ w5.heap.size from Nat.le_trans HSZ.out hgrow.size)
          obtain ⟨_, r0, r1, r2, rf⟩ := HAo5.out
          have r3 := rf 1
          clear hown hgrow hblk hfold4 q0 q1 q2 rf
          go_wp2_with fail
          go_roundw
          case rel =>
            refine ⟨k + 1, .slice ao' (k + 1) cap', L ++ [(2, 0, 0, .slice (some ⟨W2b.heap.size, 0, none⟩) 1 1)], by omega, by go_num, ?_, by simpa using HZ5.out⟩
            rw [ptake HX.out, List.map_append, List.map_cons, List.map_nil, HTI.out]
            exact HS5.out
          case measure => simp [intOf]; omega
      · have hkl : k = p.l.length := by omega
        have HTK := Lib.hid (show (p.l.take k).map (tidyI (tidyP d)) = p.l.map (tidyI (tidyP d)) by rw [hkl, List.take_length])
        rw [HTK.out] at HR
        have HFIN := Lib.hid (plain_done (f := p.f) (r := w.heap.size + 1) (ok := fun b => (ok b ∧ b < w.heap.size) ∨ W1.heap.size ≤ b) ((HS.out.below HBr.out).keep (Kept.refl _ _) (fun b _ h => .inl h)) ((Its.of_own HR.out.1 HR.out.2.1).wide (fun b _ h => by
          rcases h with h | h
          · exact h.1
          · exact .inr h)) (by
          have := HSW1.out
          rintro (h | h)
          · have := h.2; omega
          · omega))
        have HBF := Lib.hid (show ∀ x y z, Below w.heap.size w (((wr.setCell ⟨w.heap.size + 1, 0, none⟩ x).setCell ⟨w.heap.size + 1, 1, none⟩ y).setCell ⟨w.heap.size + 1, 2, none⟩ z) from fun x y z => ((HBr.out.setCell (by show w.heap.size ≤ w.heap.size + 1; omega) _).setCell (by show w.heap.size ≤ w.heap.size + 1; omega) _).setCell (by show w.heap.size ≤ w.heap.size + 1; omega) _)
        obtain ⟨_, r0, r1, r2, rf⟩ := HR.out.2.2.2.1
        have rf0 := rf 0
        have rf1 := rf 1
        have rf2 := rf 2
        clear hkl rf
        go_wp2_with fail
        refine bodyPost_ret (v := .agg #[.slice so p.s.length sc, .slice ao k cap, .int .i64 p.f]) (by simp [results, Tryz.results7, go_sem, r0, r1, r2]) rfl ⟨_, rfl, ?_, HBF.out _ _ _⟩
        exact (HFIN.out _ _ _).wide (fun b _ h => by
          have := HSW1.out
          rcases h with h | h
          · exact .inl h
          · exact .inr (by omega))
end Go.Proofs.YtbfcdpabjailcaaGreatDoor

/- Package value, walked: numbers, letters. -/
namespace Go.Proofs.YtbfcdpabjailcaaGreatDoor
open Go.RowKit Fl
set_option linter.unusedVariables false
set_option maxRecDepth 100000

noncomputable def numsV (l : List PI) : VV := (VV.floats ((l.map (fun x => x.2.1)).map ze)).sq
def numB (l : List PI) : Bool := l.all fun x => decide (x.1 = 0 ∧ Fnt x.2.1)
def letB (l : List PI) : Bool := l.all fun x => decide (x.1 = 1)
def bC (b : Bool) : Int := if b then 0 else 1
/-- A vector, or why there is none. -/
def VecOr (c : Int) (V : VV) (w : World) (e : Ending) (w' : World) : Prop := ∃ u, e = .returned (.tuple #[.agg #[u], .int .i64 c]) ∧ (c = 0 → IsV w' (fun b => w.heap.size ≤ b) u V) ∧ (c ≠ 0 → u = .nilIface) ∧ Below w.heap.size w w'
theorem VecOr.no {c : Int} {V : VV} {w w' : World} (hc : c ≠ 0) (hb : Below w.heap.size w w') : VecOr c V w (.returned (.tuple #[.agg #[.nilIface], .int .i64 c])) w' := ⟨_, rfl, fun h => absurd h hc, fun _ => rfl, hb⟩
theorem VecOr.yes {c : Int} {V : VV} {w w' : World} {u : Value} (hc : c = 0) (hv : IsV w' (fun b => w.heap.size ≤ b) u V) (hb : Below w.heap.size w w') : VecOr c V w (.returned (.tuple #[.agg #[u], .int .i64 0])) w' := ⟨_, by rw [hc], fun _ => hv, fun h => absurd hc h, hb⟩
theorem all_no {l : List PI} {f : PI → Bool} {k : Nat} {x : PI} (h : l[k]? = some x) (hx : f x = false) : l.all f = false := by
  apply Bool.eq_false_iff.2
  intro ha
  rw [List.all_eq_true.1 ha x (List.mem_of_getElem? h)] at hx
  cases hx

set_option maxHeartbeats 4000000 in
theorem numbers_items {ok : Nat → Prop} (v : Value) (l : List PI) (w : World) (hv : Its w ok v l) (hm : l.length ≤ 1048576) (hw : ∀ x ∈ l, x.2.1 < 18446744073709551616) (hT : TabAt w) :
    Calls Tryz.prog 98 #[v] w (VecOr (bC (numB l)) (numsV l) w) := by
  have HV := Lib.hid hv
  have HT := Lib.hid hT
  have HWF := Lib.hid hw
  have HM := Lib.hid hm
  obtain ⟨ao, cap, rfl, hc1, hc2⟩ := hv.len
  unfold maxLen at hc2
  clear hv hT hw
  obtain ⟨xs, hxs⟩ : ∃ xs : List Value, xs = f64s (l.map (fun x => x.2.1)) := ⟨_, rfl⟩
  have HXS := Lib.hid hxs
  have HXL := Lib.hid (show xs.length = l.length by rw [hxs]; simp [f64s])
  have HX := Lib.hid (show ∀ k x, l[k]? = some x → ∃ h : k < xs.length, xs[k] = .float .f64 x.2.1 by
    intro k x hx
    obtain ⟨hk, e⟩ := List.getElem?_eq_some_iff.1 hx
    exact ⟨by rw [hxs]; simpa [f64s] using hk, by simp [hxs, f64s, e]⟩)
  have hst := run_store_float
  have hmk := run_mkF1 l.length (by omega) (w.alloc (.cells #[.nilIface] 29))
  clear hxs
  obtain ⟨W0, hW0⟩ : ∃ W0, W0 = (w.alloc (.cells #[.nilIface] 29)).alloc (.cells (zerosV (.float .f64 0) l.length) 38) := ⟨_, rfl⟩
  have HO0 : Hid (W0.ownsRow (w.heap.size + 1) 38 1 (.slice (some ⟨w.heap.size + 1, 0, none⟩) l.length l.length) l.length (List.replicate l.length (.float .f64 0))) := Lib.hid (by
    have := own_make1 (.float .f64 0) 38 l.length (by omega) (w.alloc (.cells #[.nilIface] 29)) (w.heap.size + 1) (by simp)
    rw [hW0]; simpa using this)
  have HA := Lib.hid (show At1 W0 w.heap.size .nilIface by rw [hW0]; exact (At1.new _ _ _).below (below_new _ _))
  have HW := Lib.hid (show Below w.heap.size w W0 by rw [hW0]; exact (below_new _ _).alloc (by simp) _)
  go_enter Tryz.func98, Tryz.ntmps98
  go_wp2_with fail
  rw [← hW0]
  clear hW0 hmk
  go_loopw [14] (fun i wr => ∃ k : Nat, k ≤ l.length ∧ i = .int .i64 k ∧ (l.take k).all (fun x => decide (x.1 = 0)) = true ∧ wr.ownsRow (w.heap.size + 1) 38 1 (.slice (some ⟨w.heap.size + 1, 0, none⟩) l.length l.length) l.length (fillTo xs (.float .f64 0) k) ∧ W0.grownBy wr (some (w.heap.size + 1))) (fun i _ => l.length - (intOf i).toNat)
  case atStart => exact ⟨0, by omega, rfl, rfl, by rw [fillTo_zero, HXL.out]; exact HO0.out, grown_refl _ _⟩
  case round =>
    obtain ⟨k, hk, rfl, hal, hown, hgr⟩ := hrel
    have HAL := Lib.hid hal
    have HO := Lib.hid hown
    have HG := Lib.hid hgr
    have HB := Lib.hid (HW.out.grown hgr HW.out.size (fun j hj => by cases hj; omega))
    have hA2 := Lib.hid (HA.out.grown hgr (by simp))
    by_cases hlt : k < l.length
    · have hx := List.getElem?_eq_getElem hlt
      obtain ⟨x, hxx⟩ : ∃ x, x = l[k] := ⟨_, rfl⟩
      rw [← hxx] at hx
      clear hxx
      have HXK := Lib.hid hx
      obtain ⟨hkx, hgx⟩ := HX.out k x hx
      obtain ⟨b, off, bo, bc, rfl, _, c0, c1, c2, c3, hbx⟩ := (HV.out.grow HB.out).at hx
      obtain ⟨kd, nm, ch, bx⟩ := x
      simp only at c0 c1 c2 c3 hgx
      obtain ⟨W2, hW2⟩ : ∃ W2, W2 = wr.alloc (.cells #[.int .i64 kd, .float .f64 nm, .int .i32 ch, .slice bo bx.length bc] 48) := ⟨_, rfl⟩
      have HA4 := Lib.hid (show Blk4 W2 wr.heap.size _ _ _ _ by rw [hW2]; exact Blk4.new wr _ _ _ _ _)
      have HO2 := Lib.hid (show W2.ownsRow (w.heap.size + 1) 38 1 (.slice (some ⟨w.heap.size + 1, 0, none⟩) l.length l.length) l.length (fillTo xs (.float .f64 0) k) by rw [hW2]; exact HO.out.alloc _)
      have HG2 := Lib.hid (show W0.grownBy W2 (some (w.heap.size + 1)) by rw [hW2]; exact grown_trans HG.out (grown_any (below_grown (below_new _ _)) _))
      have hA3 := Lib.hid (HA.out.grown HG2.out (by simp))
      have HGX := Lib.hid hgx
      have HBB := Lib.hid (show Below w.heap.size w W2 by rw [hW2]; exact HB.out.alloc HB.out.size _)
      have hcw := owns_cell HO2.out k (by rw [fillTo_len _ _ _ (by rw [HXL.out]; exact hk), HXL.out]; exact hlt)
      have hfr := World.ownsRow.frozenAt HO2.out k
      obtain ⟨_, a0, af⟩ := hA3.out
      have af0 := af 0
      obtain ⟨_, d0, d1, d2, d3, _⟩ := HA4.out
      have hfold := hW2.symm
      clear hown hgr hal hx hbx hgx hW2 af
      by_cases hk0 : kd = 0
      · subst hk0
        have HAN := Lib.hid (show (l.take (k + 1)).all (fun x => decide (x.1 = 0)) = true by rw [all_take HXK.out, HAL.out]; rfl)
        go_wp2_with fail
        go_roundw
        case rel =>
          refine ⟨k + 1, by omega, by go_num, HAN.out, ?_, grown_trans HG2.out (grown_setCell _ ⟨w.heap.size + 1, k, none⟩ _)⟩
          have := (World.ownsRow.stored HO2.out k (.float .f64 nm)).1
          rw [← HGX.out, fillTo_set] at this
          rw [← HGX.out]
          exact this
        case measure => simp [intOf]; omega
      · have h0e : (kd != 0) = true := by simpa using hk0
        have HNO := Lib.hid (show bC (numB l) = 1 by unfold numB; rw [all_no HXK.out (decide_eq_false (by simp [hk0]))]; rfl)
        clear hk0
        go_wp2_with fail
        refine bodyPost_ret (v := .tuple #[.agg #[.nilIface], .int .i64 1]) (by simp [results, Tryz.results98, go_sem, a0]) rfl ?_
        have := VecOr.no (c := bC (numB l)) (V := numsV l) (w := w) (by rw [HNO.out]; decide) (HBB.out.setCell (Nat.le_refl _) (p := ⟨w.heap.size, 0, none⟩) .nilIface)
        rw [HNO.out] at this ⊢
        exact this
    · have hkl : k = l.length := by omega
      have HAL2 := Lib.hid (show l.all (fun x => decide (x.1 = 0)) = true by have := HAL.out; rwa [hkl, List.take_length] at this)
      have HS := Lib.hid (show Slc wr (fun b => w.heap.size + 1 ≤ b) (.slice (some ⟨w.heap.size + 1, 0, none⟩) l.length l.length) (l.map (fun x => x.2.1)).length (f64s (l.map (fun x => x.2.1))) by
        have := Slc.owned HO.out
        rw [hkl, ← HXL.out, fillTo_all, HXL.out, HXS.out] at this
        rwa [List.length_map])
      have HLM := Lib.hid (show (l.map (fun x => x.2.1)).length ≤ 1048576 by rw [List.length_map]; exact HM.out)
      have HTr := Lib.hid (fun j hj => keep_below HB.out _ _ (HT.out j hj))
      clear hown hgr hal hkl
      cases hb : numB l
      · have HNO := Lib.hid (show bC (numB l) = 1 by rw [hb]; rfl)
        have HEX := Lib.hid (show ∃ x ∈ l.map (fun x => x.2.1), ¬ Fnt x by
          apply Classical.byContradiction
          intro hn
          have : numB l = true := List.all_eq_true.2 (fun x hx => decide_eq_true ⟨of_decide_eq_true (List.all_eq_true.1 HAL2.out x hx), Classical.byContradiction fun h => hn ⟨x.2.1, List.mem_map.2 ⟨x, hx, rfl⟩, h⟩⟩)
          rw [hb] at this; cases this)
        clear hb
        go_wp2_with fail
        refine (numbers_no _ _ _ HS.out HLM.out (fun x hx => by obtain ⟨y, hy, rfl⟩ := List.mem_map.1 hx; exact HWF.out y hy) HEX.out).mono ?_
        rintro e w2 ⟨rfl, hB2⟩
        obtain ⟨_, a0, af⟩ := hA2.out.below hB2
        have af0 := af 0
        have HB2 := Lib.hid (HB.out.trans (hB2.mono HB.out.size))
        have HL2 := Lib.hid (hA2.out.below hB2).1
        have a9 := Lib.hid ((((hA2.out.below hB2).set .nilIface).below (below_new _ (.cells #[.nilIface] 29))).2.1)
        clear hB2 af
        go_wp2_with fail
        refine bodyPost_ret (v := .tuple #[.agg #[.nilIface], .int .i64 1]) (by simp [results, Tryz.results98, go_sem, a9.out]) rfl ?_
        have := VecOr.no (c := bC (numB l)) (V := numsV l) (w := w) (by rw [HNO.out]; decide) ((HB2.out.setCell (Nat.le_refl _) (p := ⟨w.heap.size, 0, none⟩) .nilIface).alloc (by simpa using HB2.out.size) (.cells #[.nilIface] 29))
        rw [HNO.out] at this ⊢
        exact this
      · have HNO := Lib.hid (show bC (numB l) = 0 by rw [hb]; rfl)
        have HEX := Lib.hid (show ∀ x ∈ l.map (fun x => x.2.1), Fnt x by
          intro x hx
          obtain ⟨y, hy, rfl⟩ := List.mem_map.1 hx
          exact (of_decide_eq_true (List.all_eq_true.1 hb y hy)).2)
        clear hb
        go_wp2_with fail
        refine (numbers_yes _ _ _ HS.out HLM.out HEX.out HTr.out).mono ?_
        rintro e w2 ⟨u, rfl, hu, hB2⟩
        have hsx := hu.store
        have HU := Lib.hid hu
        obtain ⟨_, a0, af⟩ := hA2.out.below hB2
        have af0 := af 0
        have HB2 := Lib.hid (HB.out.trans (hB2.mono HB.out.size))
        have HZ := Lib.hid (show w.heap.size + 1 ≤ wr.heap.size from hA2.out.1)
        have a9 := Lib.hid ((((hA2.out.below hB2).set u).below (below_new _ (.cells #[u] 29))).2.1)
        clear hB2 hu af
        go_wp2_with fail
        refine bodyPost_ret (v := .tuple #[.agg #[u], .int .i64 0]) (by simp [results, Tryz.results98, go_sem, a9.out]) rfl ?_
        refine VecOr.yes HNO.out (((HU.out.setb (p := ⟨w.heap.size, 0, none⟩) (fun (h : wr.heap.size ≤ w.heap.size) => by have := HZ.out; omega) _).grow (below_new _ _)).wide (fun b _ (h : wr.heap.size ≤ b) => by have := HZ.out; omega)) ((HB2.out.setCell (p := ⟨w.heap.size, 0, none⟩) (Nat.le_refl _) _).alloc (by simpa using HB2.out.size) _)

theorem run_mkR (n : Nat) (hn : n ≤ 2000000) (w : World) : (Instr.makeSlice 80 (.int .i64 (n : Int)) (.int .i64 (n : Int))).run Tryz.prog w = .ok (.slice (some ⟨w.heap.size, 0, none⟩) n n) (w.alloc (.cells (zerosV (.int .i32 0) n) 21)) := by
  obtain ⟨i0, hi, hz0, hz1, hz2⟩ := info_parts info_i32
  have hr := run_make (P := Tryz.prog) w 80 21 i0 _ Tryz.underlying80 hi hz0 .i64 .i64 n n (by omega) (Int.le_refl _) (by rw [hz2]; omega) (by omega)
  simp only [Int.toNat_natCast, hz1] at hr
  exact hr

set_option maxHeartbeats 4000000 in
theorem letters_items {ok : Nat → Prop} (v : Value) (l : List PI) (w : World) (hv : Its w ok v l) (hm : l.length ≤ 1048576) :
    Calls Tryz.prog 96 #[v] w (VecOr (bC (letB l)) (.chars (l.map (fun x => x.2.2.1))) w) := by
  have HV := Lib.hid hv
  have HM := Lib.hid hm
  obtain ⟨ao, cap, rfl, hc1, hc2⟩ := hv.len
  unfold maxLen at hc2
  clear hv
  obtain ⟨xs, hxs⟩ : ∃ xs : List Value, xs = i32s (l.map (fun x => x.2.2.1)) := ⟨_, rfl⟩
  have HXS := Lib.hid hxs
  have HXL := Lib.hid (show xs.length = l.length by rw [hxs]; simp [i32s])
  have HX := Lib.hid (show ∀ k x, l[k]? = some x → ∃ h : k < xs.length, xs[k] = .int .i32 x.2.2.1 by
    intro k x hx
    obtain ⟨hk, e⟩ := List.getElem?_eq_some_iff.1 hx
    exact ⟨by rw [hxs]; simpa [i32s] using hk, by simp [hxs, i32s, e]⟩)
  have hst := run_store_float
  have hmk := run_mkR l.length (by omega) (w.alloc (.cells #[.nilIface] 29))
  clear hxs
  obtain ⟨W0, hW0⟩ : ∃ W0, W0 = (w.alloc (.cells #[.nilIface] 29)).alloc (.cells (zerosV (.int .i32 0) l.length) 21) := ⟨_, rfl⟩
  have HO0 : Hid (W0.ownsRow (w.heap.size + 1) 21 1 (.slice (some ⟨w.heap.size + 1, 0, none⟩) l.length l.length) l.length (List.replicate l.length (.int .i32 0))) := Lib.hid (by
    have := own_make1 (.int .i32 0) 21 l.length (by omega) (w.alloc (.cells #[.nilIface] 29)) (w.heap.size + 1) (by simp)
    rw [hW0]; simpa using this)
  have HA := Lib.hid (show At1 W0 w.heap.size .nilIface by rw [hW0]; exact (At1.new _ _ _).below (below_new _ _))
  have HW := Lib.hid (show Below w.heap.size w W0 by rw [hW0]; exact (below_new _ _).alloc (by simp) _)
  go_enter Tryz.func96, Tryz.ntmps96
  go_wp2_with fail
  rw [← hW0]
  clear hW0 hmk
  go_loopw [12] (fun i wr => ∃ k : Nat, k ≤ l.length ∧ i = .int .i64 k ∧ (l.take k).all (fun x => decide (x.1 = 1)) = true ∧ wr.ownsRow (w.heap.size + 1) 21 1 (.slice (some ⟨w.heap.size + 1, 0, none⟩) l.length l.length) l.length (fillTo xs (.int .i32 0) k) ∧ W0.grownBy wr (some (w.heap.size + 1))) (fun i _ => l.length - (intOf i).toNat)
  case atStart => exact ⟨0, by omega, rfl, rfl, by rw [fillTo_zero, HXL.out]; exact HO0.out, grown_refl _ _⟩
  case round =>
    obtain ⟨k, hk, rfl, hal, hown, hgr⟩ := hrel
    have HAL := Lib.hid hal
    have HO := Lib.hid hown
    have HG := Lib.hid hgr
    have HB := Lib.hid (HW.out.grown hgr HW.out.size (fun j hj => by cases hj; omega))
    have hA2 := Lib.hid (HA.out.grown hgr (by simp))
    by_cases hlt : k < l.length
    · have hx := List.getElem?_eq_getElem hlt
      obtain ⟨x, hxx⟩ : ∃ x, x = l[k] := ⟨_, rfl⟩
      rw [← hxx] at hx
      clear hxx
      have HXK := Lib.hid hx
      obtain ⟨hkx, hgx⟩ := HX.out k x hx
      obtain ⟨b, off, bo, bc, rfl, _, c0, c1, c2, c3, hbx⟩ := (HV.out.grow HB.out).at hx
      obtain ⟨kd, nm, ch, bx⟩ := x
      simp only at c0 c1 c2 c3 hgx
      obtain ⟨W2, hW2⟩ : ∃ W2, W2 = wr.alloc (.cells #[.int .i64 kd, .float .f64 nm, .int .i32 ch, .slice bo bx.length bc] 48) := ⟨_, rfl⟩
      have HA4 := Lib.hid (show Blk4 W2 wr.heap.size _ _ _ _ by rw [hW2]; exact Blk4.new wr _ _ _ _ _)
      have HO2 := Lib.hid (show W2.ownsRow (w.heap.size + 1) 21 1 (.slice (some ⟨w.heap.size + 1, 0, none⟩) l.length l.length) l.length (fillTo xs (.int .i32 0) k) by rw [hW2]; exact HO.out.alloc _)
      have HG2 := Lib.hid (show W0.grownBy W2 (some (w.heap.size + 1)) by rw [hW2]; exact grown_trans HG.out (grown_any (below_grown (below_new _ _)) _))
      have hA3 := Lib.hid (HA.out.grown HG2.out (by simp))
      have HGX := Lib.hid hgx
      have HBB := Lib.hid (show Below w.heap.size w W2 by rw [hW2]; exact HB.out.alloc HB.out.size _)
      have hcw := owns_cell HO2.out k (by rw [fillTo_len _ _ _ (by rw [HXL.out]; exact hk), HXL.out]; exact hlt)
      have hfr := World.ownsRow.frozenAt HO2.out k
      obtain ⟨_, a0, af⟩ := hA3.out
      have af0 := af 0
      obtain ⟨_, d0, d1, d2, d3, _⟩ := HA4.out
      have hfold := hW2.symm
      clear hown hgr hal hx hbx hgx hW2 af
      by_cases hk0 : kd = 1
      · subst hk0
        have HAN := Lib.hid (show (l.take (k + 1)).all (fun x => decide (x.1 = 1)) = true by rw [all_take HXK.out, HAL.out]; rfl)
        go_wp2_with fail
        go_roundw
        case rel =>
          refine ⟨k + 1, by omega, by go_num, HAN.out, ?_, grown_trans HG2.out (grown_setCell _ ⟨w.heap.size + 1, k, none⟩ _)⟩
          have := (World.ownsRow.stored HO2.out k (.int .i32 ch)).1
          rw [← HGX.out, fillTo_set] at this
          rw [← HGX.out]
          exact this
        case measure => simp [intOf]; omega
      · have h0e : (kd != 1) = true := by simpa using hk0
        have HNO := Lib.hid (show bC (letB l) = 1 by unfold letB; rw [all_no HXK.out (decide_eq_false (by simp [hk0]))]; rfl)
        clear hk0
        go_wp2_with fail
        refine bodyPost_ret (v := .tuple #[.agg #[.nilIface], .int .i64 1]) (by simp [results, Tryz.results96, go_sem, a0]) rfl ?_
        have := VecOr.no (c := bC (letB l)) (V := .chars (l.map (fun x => x.2.2.1))) (w := w) (by rw [HNO.out]; decide) (HBB.out.setCell (Nat.le_refl _) (p := ⟨w.heap.size, 0, none⟩) .nilIface)
        rw [HNO.out] at this ⊢
        exact this
    · have hkl : k = l.length := by omega
      have HNO := Lib.hid (show bC (letB l) = 0 by unfold letB; have := HAL.out; rw [hkl, List.take_length] at this; rw [this]; rfl)
      have HS := Lib.hid (show Slc wr (fun b => w.heap.size + 1 ≤ b) (.slice (some ⟨w.heap.size + 1, 0, none⟩) l.length l.length) (l.map (fun x => x.2.2.1)).length (i32s (l.map (fun x => x.2.2.1))) by
        have := Slc.owned HO.out
        rw [hkl, ← HXL.out, fillTo_all, HXL.out, HXS.out] at this
        rwa [List.length_map])
      have HLM := Lib.hid (show (l.map (fun x => x.2.2.1)).length ≤ 2000000 by rw [List.length_map]; have := HM.out; omega)
      clear hown hgr hal hkl
      go_wp2_with fail
      refine (vchars_calls _ _ _ HS.out HLM.out).mono ?_
      rintro e w2 ⟨u, rfl, hu, hB2⟩
      have hsx := hu.store
      have HU := Lib.hid hu
      obtain ⟨_, a0, af⟩ := hA2.out.below hB2
      have af0 := af 0
      have HB2 := Lib.hid (HB.out.trans (hB2.mono HB.out.size))
      have HZ := Lib.hid (show w.heap.size + 1 ≤ wr.heap.size from hA2.out.1)
      clear hB2 hu af
      go_wp2_with fail
      refine bodyPost_ret (v := .tuple #[.agg #[u], .int .i64 0]) (by simp [results, Tryz.results96, go_sem, a0]) rfl ?_
      refine VecOr.yes HNO.out ((HU.out.setb (p := ⟨w.heap.size, 0, none⟩) (fun (h : wr.heap.size ≤ w.heap.size) => by have := HZ.out; omega) _).wide (fun b _ (h : wr.heap.size ≤ b) => by have := HZ.out; omega)) (HB2.out.setCell (p := ⟨w.heap.size, 0, none⟩) (Nat.le_refl _) _)
end Go.Proofs.YtbfcdpabjailcaaGreatDoor

/- Package value, walked: boxes. -/
namespace Go.Proofs.YtbfcdpabjailcaaGreatDoor
open Go.RowKit Fl
set_option linter.unusedVariables false
set_option maxRecDepth 100000

theorem VecOr.no2 {c er : Int} {V : VV} {w w' : World} (h : c = er) (he : er ≠ 0) (hb : Below w.heap.size w w') : VecOr c V w (.returned (.tuple #[.agg #[.nilIface], .int .i64 er])) w' := by subst h; exact VecOr.no he hb
/-- The array that a plain one describes. -/
noncomputable def arrP : Nat → PA → List Int × VV
  | 0, _ => ([], .none)
  | d + 1, p => (p.s, if p.f = 1 then .chars (p.l.map (fun x => x.2.2.1)) else if p.f = 2 then .boxes (p.l.map fun x => arrP d (Go.Proofs.YtbfcdpabjailcaaGreatDoor.hd x.2.2.2)) else numsV p.l)
/-- An array, or why there is none. -/
def ArrOr (c : Int) (A : List Int × VV) (w : World) (e : Ending) (w' : World) : Prop := ∃ sh u, e = .returned (.tuple #[.agg #[sh, u], .int .i64 c]) ∧ (c = 0 → IsArr w' (fun b => w.heap.size ≤ b) sh u A) ∧ (c ≠ 0 → sh = .slice none 0 0 ∧ u = .nilIface) ∧ Below w.heap.size w w'
theorem ArrOr.no {c : Int} {A : List Int × VV} {w w' : World} (hc : c ≠ 0) (hb : Below w.heap.size w w') : ArrOr c A w (.returned (.tuple #[.agg #[.slice none 0 0, .nilIface], .int .i64 c])) w' := ⟨_, _, rfl, fun h => absurd h hc, fun _ => ⟨rfl, rfl⟩, hb⟩
theorem ArrOr.yes {c : Int} {A : List Int × VV} {w w' : World} {sh u : Value} (hc : c = 0) (hv : IsArr w' (fun b => w.heap.size ≤ b) sh u A) (hb : Below w.heap.size w w') : ArrOr c A w (.returned (.tuple #[.agg #[sh, u], .int .i64 0])) w' := ⟨_, _, by rw [hc], fun _ => hv, fun h => absurd hc h, hb⟩
/-- ofWithin, at depth d. -/
def OfAt (d : Nat) : Prop := ∀ (ok : Nat → Prop) (p : PA) (u : Value) (n : Nat) (w : World), lo n p → IsP w ok u p → TabAt w → Calls Tryz.prog 40 #[u, .int .i64 (d : Int)] w (ArrOr (chk d p) (arrP d p) w)
theorem IsArr.keep {w w' : World} {ok ok' : Nat → Prop} {sh u : Value} {p : List Int × VV} (hk : Kept ok w w') (hm : ∀ b, b < w.heap.size → ok b → ok' b) (h : IsArr w ok sh u p) : IsArr w' ok' sh u p := ⟨h.1.keep hk hm, h.2.keep hk hm⟩
theorem IsArr.grow {w w' : World} {ok : Nat → Prop} {sh u : Value} {p : List Int × VV} (h : IsArr w ok sh u p) (hb : Below w.heap.size w w') : IsArr w' ok sh u p := h.keep (Kept.below hb) (fun _ _ h => h)
theorem IsArr.wide {w : World} {ok ok' : Nat → Prop} {sh u : Value} {p : List Int × VV} (h : IsArr w ok sh u p) (hm : ∀ b, b < w.heap.size → ok b → ok' b) : IsArr w ok' sh u p := h.keep (Kept.refl _ _) hm
theorem arrP_s {d : Nat} {p : PA} (h : chk d p = 0) : (arrP d p).1 = p.s ∧ p.s.length ≤ 8 := by
  cases d with
  | zero => simp [chk] at h
  | succ d => exact ⟨rfl, (prodR_len (chk_well.1 h).2.2.1).1⟩
/-- The cells of arrays that a call makes. -/
theorem Arrs.of_own {w : World} {base : Nat} {ok : Nat → Prop} {g n : Nat} {A B : Nat → Value} {l : List (List Int × VV)} (h : w.ownsRow base 31 2 (.slice (some ⟨g, 0, none⟩) n n) n (pairL n A B)) (hn : l.length = n) (hm : n ≤ 2000000)
    (hl : ∀ i p, l[i]? = some p → IsArr w ok (A i) (B i) p) (hg : ok g) : Arrs w ok (.slice (some ⟨g, 0, none⟩) n n) l := by
  subst hn
  refine ⟨_, _, A, B, rfl, Nat.le_refl _, by unfold maxLen; omega, fun i hi => ⟨g, 0, rfl, hg, ?_, ?_⟩, fun i hi => (hl i _ (List.getElem?_eq_getElem hi)).1, fun i hi => (hl i _ (List.getElem?_eq_getElem hi)).2⟩
  · rw [Nat.zero_add, owns_cell2 h (i * 2) (by rw [pairL_len]; omega), pairL_fst]
  · rw [Nat.zero_add, owns_cell2 h (i * 2 + 1) (by rw [pairL_len]; omega), pairL_snd]
theorem own_mkA2 (n : Nat) (hn : n ≤ 2000000) (w : World) (base : Nat) (hb : base ≤ w.heap.size) : (w.alloc (.cells (zerosA n) 31)).ownsRow base 31 2 (.slice (some ⟨w.heap.size, 0, none⟩) n n) n (pairL n (fun _ => .slice none 0 0) (fun _ => .nilIface)) := by
  have := own_mkA n hn w base hb (fun _ => .nilIface)
  rwa [show upTo (fun _ => Value.nilIface) 0 = (fun _ => .nilIface) from by funext i; simp [upTo]] at this
theorem itE2 {c : PA → Int} {x : PI} {q : PA} (h : x.1 = 2) (h2 : x.2.2.2 = [q]) : itE c 2 x = c q := itE_box h h h2

set_option maxHeartbeats 4000000 in
theorem boxes_items (d : Nat) (ih : OfAt d) {ok : Nat → Prop} (v : Value) (l : List PI) (n : Nat) (w : World) (hd : d ≤ 1000) (hv : Its w ok v l) (hm : l.length ≤ 1048576) (hw : ∀ x ∈ l, ∀ q ∈ x.2.2.2, lo n q) (hT : TabAt w) :
    Calls Tryz.prog 97 #[v, .int .i64 ((d : Int) + 1)] w (VecOr (fe (itE (chk d) 2) l) (.boxes (l.map fun x => arrP d (Go.Proofs.YtbfcdpabjailcaaGreatDoor.hd x.2.2.2))) w) := by
  have HIH := Lib.hid ih
  have HV := Lib.hid hv
  have HT := Lib.hid hT
  have HWF := Lib.hid hw
  have HM := Lib.hid hm
  obtain ⟨ao, cap, rfl, hc1, hc2⟩ := hv.len
  unfold maxLen at hc2
  have hdd : (d : Int) + 1 - 1 = d := by omega
  have HDD := Lib.hid hdd
  clear hv hT hw ih hdd
  have hst := run_store_float
  have hmk := run_mkA l.length (by omega) (w.alloc (.cells #[.nilIface] 29))
  obtain ⟨W0, hW0⟩ : ∃ W0, W0 = (w.alloc (.cells #[.nilIface] 29)).alloc (.cells (zerosA l.length) 31) := ⟨_, rfl⟩
  have HO0 : Hid (W0.ownsRow (w.heap.size + 1) 31 2 (.slice (some ⟨w.heap.size + 1, 0, none⟩) l.length l.length) l.length (pairL l.length (fun _ => .slice none 0 0) (fun _ => .nilIface))) := Lib.hid (by
    have := own_mkA2 l.length (by omega) (w.alloc (.cells #[.nilIface] 29)) (w.heap.size + 1) (by simp)
    rw [hW0]; simpa using this)
  have HA := Lib.hid (show At1 W0 w.heap.size .nilIface by rw [hW0]; exact (At1.new _ _ _).below (below_new _ _))
  have HW := Lib.hid (show Below w.heap.size w W0 by rw [hW0]; exact (below_new _ _).alloc (by simp) _)
  go_enter Tryz.func97, Tryz.ntmps97
  go_wp2_with fail
  rw [← hW0]
  clear hW0 hmk
  go_loopw [16] (fun i wr => ∃ (k : Nat) (A B : Nat → Value), k ≤ l.length ∧ i = .int .i64 k ∧ fe (itE (chk d) 2) (l.take k) = 0 ∧ wr.ownsRow (w.heap.size + 1) 31 2 (.slice (some ⟨w.heap.size + 1, 0, none⟩) l.length l.length) l.length (pairL l.length A B) ∧
    (∀ i x, l[i]? = some x → i < k → IsArr wr (fun b => w.heap.size + 1 < b) (A i) (B i) (arrP d (Go.Proofs.YtbfcdpabjailcaaGreatDoor.hd x.2.2.2)) ∧ (arrP d (Go.Proofs.YtbfcdpabjailcaaGreatDoor.hd x.2.2.2)).1.length ≤ 8) ∧ W0.grownBy wr (some (w.heap.size + 1))) (fun i _ => l.length - (intOf i).toNat)
  case atStart => exact ⟨0, _, _, by omega, rfl, rfl, HO0.out, fun i x _ h => absurd h (by omega), grown_refl _ _⟩
  case round =>
    obtain ⟨k, A, B, hk, rfl, hfe, hown, hall, hgr⟩ := hrel
    have HFE := Lib.hid hfe
    have HO := Lib.hid hown
    have HG := Lib.hid hgr
    have HALL := Lib.hid hall
    have HB := Lib.hid (HW.out.grown hgr HW.out.size (fun j hj => by cases hj; omega))
    have hA2 := Lib.hid (HA.out.grown hgr (by simp))
    by_cases hlt : k < l.length
    · have hx := List.getElem?_eq_getElem hlt
      obtain ⟨x, hxx⟩ : ∃ x, x = l[k] := ⟨_, rfl⟩
      rw [← hxx] at hx
      clear hxx
      have HXK := Lib.hid hx
      obtain ⟨b, off, bo, bc, rfl, _, c0, c1, c2, c3, hbx⟩ := (HV.out.grow HB.out).at hx
      obtain ⟨_, _, e1, e6, e7⟩ := hbx.len
      cases e1
      unfold maxLen at e7
      have HLX := Lib.hid (HWF.out x (List.mem_of_getElem? hx))
      obtain ⟨kd, nm, ch, bx⟩ := x
      simp only at c0 c1 c2 c3 HLX e6
      have HBX := Lib.hid hbx
      simp only at HBX
      obtain ⟨W2, hW2⟩ : ∃ W2, W2 = wr.alloc (.cells #[.int .i64 kd, .float .f64 nm, .int .i32 ch, .slice bo bx.length bc] 48) := ⟨_, rfl⟩
      have HA4 := Lib.hid (show Blk4 W2 wr.heap.size _ _ _ _ by rw [hW2]; exact Blk4.new wr _ _ _ _ _)
      have HO2 := Lib.hid (show W2.ownsRow (w.heap.size + 1) 31 2 (.slice (some ⟨w.heap.size + 1, 0, none⟩) l.length l.length) l.length (pairL l.length A B) by rw [hW2]; exact HO.out.alloc _)
      have HG2 := Lib.hid (show W0.grownBy W2 (some (w.heap.size + 1)) by rw [hW2]; exact grown_trans HG.out (grown_any (below_grown (below_new _ _)) _))
      have hA3 := Lib.hid (HA.out.grown HG2.out (by simp))
      have HBn := Lib.hid (show Below wr.heap.size wr W2 by rw [hW2]; exact below_new _ _)
      have HBB := Lib.hid (HB.out.trans (HBn.out.mono HB.out.size))
      obtain ⟨_, a0, af⟩ := hA3.out
      have af0 := af 0
      obtain ⟨_, d0, d1, d2, d3, _⟩ := HA4.out
      have hfold := hW2.symm
      clear hown hgr hfe hall hx hbx hW2 af
      by_cases hk2 : kd = 2
      rotate_left
      · have h0e : (kd != 2) = true := by simpa using hk2
        have HNO := Lib.hid (show fe (itE (chk d) 2) l = 1 by rw [fe_hit HXK.out HFE.out (by rw [itE_kind hk2]; decide), itE_kind hk2])
        clear hk2
        go_wp2_with fail
        refine bodyPost_ret (v := .tuple #[.agg #[.nilIface], .int .i64 1]) (by simp [results, Tryz.results97, go_sem, a0]) rfl ?_
        have := VecOr.no (c := fe (itE (chk d) 2) l) (V := .boxes (l.map fun x => arrP d (Go.Proofs.YtbfcdpabjailcaaGreatDoor.hd x.2.2.2))) (w := w) (by rw [HNO.out]; decide) (HBB.out.setCell (Nat.le_refl _) (p := ⟨w.heap.size, 0, none⟩) .nilIface)
        rw [HNO.out] at this ⊢
        exact this
      subst hk2
      by_cases hb1 : bx.length = 1
      rotate_left
      · have hne2 : ((bx.length : Int) != 1) = true := by simpa using (show (bx.length : Int) ≠ 1 by omega)
        have HNO := Lib.hid (show fe (itE (chk d) 2) l = 1 by rw [fe_hit HXK.out HFE.out (by rw [itE_len rfl hb1]; decide), itE_len rfl hb1])
        clear hb1
        go_wp2_with fail
        refine bodyPost_ret (v := .tuple #[.agg #[.nilIface], .int .i64 1]) (by simp [results, Tryz.results97, go_sem, a0]) rfl ?_
        have := VecOr.no (c := fe (itE (chk d) 2) l) (V := .boxes (l.map fun x => arrP d (Go.Proofs.YtbfcdpabjailcaaGreatDoor.hd x.2.2.2))) (w := w) (by rw [HNO.out]; decide) (HBB.out.setCell (Nat.le_refl _) (p := ⟨w.heap.size, 0, none⟩) .nilIface)
        rw [HNO.out] at this ⊢
        exact this
      obtain ⟨q, hq⟩ := List.length_eq_one_iff.1 hb1
      have HQE := Lib.hid hq
      have hlen0 : 0 < bx.length := by omega
      have hne2 : ((bx.length : Int) != 1) = false := by simpa using (show (bx.length : Int) = 1 by omega)
      obtain ⟨b', off', so', sc', io', ic', rfl, _, f0, f1, f2, hP⟩ := (HBX.out.grow HBn.out).at (k := 0) (by rw [HQE.out]; rfl : bx[0]? = some q)
      have HQ := Lib.hid (HIH.out ok q _ n W2 (HLX.out q (by show q ∈ bx; rw [HQE.out]; simp)) hP (fun j hj => keep_below HBB.out _ _ (HT.out j hj)))
      simp only [Nat.zero_mul, Nat.add_zero] at f0 f1 f2
      have HHD := Lib.hid (show Go.Proofs.YtbfcdpabjailcaaGreatDoor.hd bx = q from hd_at (by rw [HQE.out]; rfl))
      have HIT := Lib.hid (show itE (chk d) 2 (2, nm, ch, bx) = chk d q from itE2 rfl HQE.out)
      obtain ⟨er, her⟩ : ∃ er, er = chk d q := ⟨_, rfl⟩
      rw [← her] at HQ HIT
      have HER := Lib.hid her
      clear hP hb1 hq her
      have hdd := HDD.out
      go_wp2_with fail
      refine HQ.out.mono ?_
      rintro e w3 ⟨sh, u, rfl, hyes, hno, hB3⟩
      clear hdd
      have HB3 := Lib.hid hB3
      have HBW := Lib.hid (HBB.out.trans (hB3.mono HBB.out.size))
      have HO3 := Lib.hid (owns_below2 HO2.out hB3)
      have HG3 := Lib.hid (grown_trans HG2.out (grown_any (below_grown hB3) _))
      have hA5 := Lib.hid (hA3.out.below hB3)
      clear hB3 d0 d1 d2 d3 f0 f1 f2 hfold a0 af0 c0 c1 c2 c3
      by_cases he0 : er = 0
      rotate_left
      · obtain ⟨rfl, rfl⟩ := hno he0
        have hne3 : (er != 0) = true := by simpa using he0
        have HNO := Lib.hid (show fe (itE (chk d) 2) l = er by rw [fe_hit HXK.out HFE.out (by rw [HIT.out]; exact he0), HIT.out])
        have HE0 := Lib.hid he0
        have hA6 := Lib.hid (hA5.out.below (below_new w3 (.cells #[.slice none 0 0, .nilIface] 31)))
        obtain ⟨_, a0, af⟩ := hA6.out
        have af0 := af 0
        have a9 := Lib.hid ((hA6.out.set .nilIface).2.1)
        clear hyes hno he0 af
        go_wp2_with fail
        refine bodyPost_ret (v := .tuple #[.agg #[.nilIface], .int .i64 er]) (by simp [results, Tryz.results97, go_sem, a9.out]) rfl ?_
        refine VecOr.no2 HNO.out HE0.out ?_
        first
          | exact (HBW.out.alloc HBW.out.size _).setCell (Nat.le_refl _) (p := ⟨w.heap.size, 0, none⟩) .nilIface
          | exact (HBW.out.setCell (Nat.le_refl _) (p := ⟨w.heap.size, 0, none⟩) .nilIface).alloc (by simpa using HBW.out.size) _
      · have hne3 : (er != 0) = false := by simpa using he0
        obtain ⟨hs1, hv1⟩ := hyes he0
        have HFT := Lib.hid (fe_take HXK.out HFE.out (by rw [HIT.out]; exact he0))
        obtain ⟨hps, hps8⟩ := arrP_s (show chk d q = 0 by rw [← HER.out]; exact he0)
        have HP8 := Lib.hid (show (arrP d q).1.length ≤ 8 by rw [hps]; exact hps8)
        obtain ⟨R, hR⟩ : ∃ R, R = arrP d q := ⟨_, rfl⟩
        rw [← hR] at hs1 hv1
        obtain ⟨ao1, cap1, rfl, _⟩ := hs1.opened
        have HARR := Lib.hid (show IsArr w3 (fun b => W2.heap.size ≤ b) (.slice ao1 R.1.length cap1) u R from ⟨hs1, hv1⟩)
        have HRR := Lib.hid hR
        have hsx := hv1.store
        obtain ⟨W4, hW4⟩ : ∃ W4, W4 = w3.alloc (.cells #[.slice ao1 R.1.length cap1, u] 31) := ⟨_, rfl⟩
        have HAA := Lib.hid (show At2 W4 w3.heap.size (.slice ao1 R.1.length cap1) u by rw [hW4]; exact At2.new _ _ _ _)
        have HB4 := Lib.hid (show Below w3.heap.size w3 W4 by rw [hW4]; exact below_new _ _)
        have HO4 := Lib.hid (owns_below2 HO3.out HB4.out)
        have HG4 := Lib.hid (grown_trans HG3.out (grown_any (below_grown HB4.out) _))
        have HZ := Lib.hid (show w.heap.size + 1 < W2.heap.size from (HO2.out.lt _ rfl).2)
        have e1 := owns_cell2 HO4.out (k * 2) (by rw [pairL_len]; omega)
        have e2 := owns_cell2 HO4.out (k * 2 + 1) (by rw [pairL_len]; omega)
        have z1 := World.ownsRow.frozenAt HO4.out (k * 2)
        have z2 := World.ownsRow.frozenAt HO4.out (k * 2 + 1)
        obtain ⟨_, m0, m1, _⟩ := HAA.out
        have hfold4 := hW4.symm
        clear hyes hno he0 hs1 hv1 hps hps8 hW4 hR
        go_wp2_with fail
        go_roundw
        case rel =>
          have kk : Kept (fun b => w.heap.size + 1 < b) W4 ((W4.setCell ⟨w.heap.size + 1, k * 2, none⟩ (.slice ao1 R.1.length cap1)).setCell ⟨w.heap.size + 1, k * 2 + 1, none⟩ u) := (Kept.setCell _ _ _ (by simp)).trans (Kept.setCell _ _ _ (by simp))
          refine ⟨k + 1, upd A k (.slice ao1 R.1.length cap1), upd B k u, by omega, by go_num, HFT.out, ?_, ?_, grown_trans (grown_trans HG4.out (grown_setCell _ ⟨w.heap.size + 1, k * 2, none⟩ _)) (grown_setCell _ ⟨w.heap.size + 1, k * 2 + 1, none⟩ _)⟩
          · have q1 := (World.ownsRow.stored HO4.out (k * 2) (.slice ao1 R.1.length cap1)).1
            have q2 := (World.ownsRow.stored q1 (k * 2 + 1) u).1
            rwa [pairL_set1, pairL_set2] at q2
          · intro i y hy hik
            by_cases e : i = k
            · subst e
              have : y = (2, nm, ch, bx) := Option.some.inj (hy.symm.trans HXK.out)
              subst this
              simp only [upd, if_true]
              rw [HHD.out]
              refine ⟨?_, HP8.out⟩
              rw [← HRR.out]
              exact ((HARR.out.grow HB4.out).wide (fun b _ (h : W2.heap.size ≤ b) => by have := HZ.out; omega)).keep kk (fun _ _ h => h)
            · simp only [upd, if_neg e]
              have := HALL.out i y hy (by omega)
              exact ⟨((this.1.grow HBn.out).grow HB3.out |>.grow HB4.out).keep kk (fun _ _ h => h), this.2⟩
        case measure => simp [intOf]; omega
    · have hkl : k = l.length := by omega
      have HNO := Lib.hid (show fe (itE (chk d) 2) l = 0 by have := HFE.out; rwa [hkl, List.take_length] at this)
      have HS := Lib.hid (show Arrs wr (fun b => w.heap.size + 1 ≤ b) (.slice (some ⟨w.heap.size + 1, 0, none⟩) l.length l.length) (l.map fun x => arrP d (Go.Proofs.YtbfcdpabjailcaaGreatDoor.hd x.2.2.2)) by
        refine Arrs.of_own HO.out (by simp) (by omega) (fun i p hp => ?_) (Nat.le_refl _)
        simp only [List.getElem?_map, Option.map_eq_some_iff] at hp
        obtain ⟨x, hx, rfl⟩ := hp
        exact ((HALL.out i x hx (by have := (List.getElem?_eq_some_iff.1 hx).1; omega)).1).wide (fun b _ h => Nat.le_of_lt h))
      have HSH := Lib.hid (show ∀ p ∈ (l.map fun x => arrP d (Go.Proofs.YtbfcdpabjailcaaGreatDoor.hd x.2.2.2)), p.1.length ≤ 1048576 by
        intro p hp
        obtain ⟨x, hx, rfl⟩ := List.mem_map.1 hp
        obtain ⟨i, hi⟩ := List.mem_iff_getElem?.1 hx
        have := (HALL.out i x hi (by have := (List.getElem?_eq_some_iff.1 hi).1; omega)).2
        omega)
      have HLM := Lib.hid (show (l.map fun x => arrP d (Go.Proofs.YtbfcdpabjailcaaGreatDoor.hd x.2.2.2)).length ≤ 1048576 by rw [List.length_map]; exact HM.out)
      have HLN := Lib.hid (show (l.map fun x => arrP d (Go.Proofs.YtbfcdpabjailcaaGreatDoor.hd x.2.2.2)).length = l.length by rw [List.length_map])
      obtain ⟨L, hL⟩ : ∃ L, L = (l.map fun x => arrP d (Go.Proofs.YtbfcdpabjailcaaGreatDoor.hd x.2.2.2)) := ⟨_, rfl⟩
      rw [← hL] at HS HSH HLM HLN
      have HLE := Lib.hid hL
      clear hown hgr hfe hall hkl hL
      go_wp2_with fail
      refine (vboxes_calls _ L _ HS.out HLM.out HSH.out).mono ?_
      rintro e w2 ⟨u, rfl, hu, hB2⟩
      have hsx := hu.store
      rw [HLE.out] at hu
      have HU := Lib.hid hu
      obtain ⟨_, a0, af⟩ := hA2.out.below hB2
      have af0 := af 0
      have HB2 := Lib.hid (HB.out.trans (hB2.mono HB.out.size))
      have HZ := Lib.hid (show w.heap.size + 1 ≤ wr.heap.size from hA2.out.1)
      clear hB2 hu af
      go_wp2_with fail
      refine bodyPost_ret (v := .tuple #[.agg #[u], .int .i64 0]) (by simp [results, Tryz.results97, go_sem, a0]) rfl ?_
      refine VecOr.yes HNO.out ((HU.out.setb (p := ⟨w.heap.size, 0, none⟩) (fun h => by have := HZ.out; rcases h with ⟨h, _⟩ | h <;> simp at h <;> omega) _).wide (fun b _ h => by have := HZ.out; rcases h with ⟨h, _⟩ | h <;> omega)) (HB2.out.setCell (p := ⟨w.heap.size, 0, none⟩) (Nat.le_refl _) _)
theorem IsArr.go {w w' : World} {ok : Nat → Prop} {sh u : Value} {p : List Int × VV} (h : IsArr w ok sh u p) (hB : Below w.heap.size w w') : Hid (IsArr w' ok sh u p) := Lib.hid (h.grow hB)
end Go.Proofs.YtbfcdpabjailcaaGreatDoor

/- Package value, walked: elements, ofWithin, Of. -/
namespace Go.Proofs.YtbfcdpabjailcaaGreatDoor
open Go.RowKit Fl
set_option linter.unusedVariables false
set_option maxRecDepth 100000

/-- What is wrong with the items. -/
def elC (d : Nat) (p : PA) : Int := if p.f = 1 then bC (letB p.l) else if p.f = 2 then fe (itE (chk d) 2) p.l else bC (numB p.l)
theorem fe_kinds {c : PA → Int} {f : Int} (hf : f ≠ 2) (l : List PI) : fe (itE c f) l = bC (l.all fun x => decide (x.1 = f)) := by
  induction l with
  | nil => rfl
  | cons x l ih =>
    simp only [fe, List.all_cons]
    by_cases hx : x.1 = f
    · rw [itE_other hx (by rw [hx]; exact hf)]
      simp only [ne_eq, not_true_eq_false, if_false, hx, decide_true, Bool.true_and]
      exact ih
    · rw [itE_kind hx]
      simp only [ne_eq, hx, decide_false, Bool.false_and]
      rfl
theorem all_congr {l : List PI} {f g : PI → Bool} (h : ∀ x ∈ l, f x = g x) : l.all f = l.all g := by
  rw [Bool.eq_iff_iff, List.all_eq_true, List.all_eq_true]
  exact ⟨fun k x hx => by rw [← h x hx]; exact k x hx, fun k x hx => by rw [h x hx]; exact k x hx⟩
theorem chk_el {d : Nat} {p : PA} (h0 : ¬ (p.f < 0 ∨ 2 < p.f)) (h1 : (prodR p.s 1048576).2 = 0) (h2 : (prodR p.s 1048576).1 = (p.l.length : Int)) : chk (d + 1) p = elC d p := by
  rw [chk_e h0 h1 h2]
  unfold elC
  by_cases f1 : p.f = 1
  · rw [if_pos f1, f1, fe_kinds (by decide)]
    cases hb : p.l.all fun x => decide (x.1 = 1)
    · have : letB p.l = false := hb
      rw [this]; rfl
    · have h3 : letB p.l = true := hb
      have h4 : p.l.all finI = true := List.all_eq_true.2 fun x hx => finI_box (by have := of_decide_eq_true (List.all_eq_true.1 hb x hx); omega)
      rw [h3, h4]; rfl
  · rw [if_neg f1]
    by_cases f2 : p.f = 2
    · rw [if_pos f2, f2]
      by_cases h3 : fe (itE (chk d) 2) p.l = 0
      · have h4 : p.l.all finI = true := List.all_eq_true.2 fun x hx => finI_box (by
          have h5 := fe_zero h3 x hx
          intro h6
          rw [itE_kind (by rw [h6]; decide)] at h5; cases h5)
        rw [h4, h3]; rfl
      · rw [if_pos h3]
    · have f0 : p.f = 0 := by omega
      rw [if_neg f2, f0, fe_kinds (by decide)]
      cases hb : p.l.all fun x => decide (x.1 = 0)
      · have : numB p.l = false := by
          apply Bool.eq_false_iff.2
          intro hn
          have : (p.l.all fun x => decide (x.1 = 0)) = true := List.all_eq_true.2 fun x hx => decide_eq_true (of_decide_eq_true (List.all_eq_true.1 hn x hx)).1
          rw [hb] at this; cases this
        rw [this]; rfl
      · have : numB p.l = p.l.all finI := all_congr fun x hx => by
          have h0 := of_decide_eq_true (List.all_eq_true.1 hb x hx)
          unfold finI
          by_cases hf : Fnt x.2.1 <;> simp [h0, hf]
        rw [this]
        simp only [bC, if_true, ne_eq, not_true_eq_false, if_false]

set_option maxHeartbeats 4000000 in
theorem elements_calls (d : Nat) (ih : OfAt d) (ok : Nat → Prop) (p : PA) (u : Value) (n : Nat) (w : World) (hd : d ≤ 1000) (hl : lo (n + 1) p) (hm : p.l.length ≤ 1048576) (hp : IsP w ok u p) (hT : TabAt w) :
    Calls Tryz.prog 64 #[u, .int .i64 ((d : Int) + 1)] w (VecOr (elC d p) (arrP (d + 1) p).2 w) := by
  obtain ⟨so, sc, io, ic, rfl, hs, hit⟩ := hp.opened
  obtain ⟨_, _, e1, e4, e5⟩ := hit.len
  cases e1
  unfold maxLen at e5
  obtain ⟨W1, hW1⟩ : ∃ W1, W1 = (w.alloc (.cells #[.slice so p.s.length sc, .slice io p.l.length ic, .int .i64 p.f] 25)).alloc (.cells #[.nilIface] 29) := ⟨_, rfl⟩
  have HA := Lib.hid (show At3 W1 w.heap.size (.slice so p.s.length sc) (.slice io p.l.length ic) (.int .i64 p.f) by rw [hW1]; exact (At3.new w _ _ _ _).below (below_new _ _))
  have HR := Lib.hid (show At1 W1 (w.heap.size + 1) .nilIface by rw [hW1]; have := At1.new (w.alloc (.cells #[.slice so p.s.length sc, .slice io p.l.length ic, .int .i64 p.f] 25)) .nilIface 29; simpa using this)
  have HB1 := Lib.hid (show Below w.heap.size w W1 by rw [hW1]; exact (below_new _ _).alloc (by simp) _)
  have HZ := Lib.hid (show w.heap.size + 1 < W1.heap.size by rw [hW1]; simp)
  have HI := Lib.hid (hit.grow HB1.out)
  have HTb := Lib.hid (show TabAt W1 from fun j hj => keep_below HB1.out _ _ (hT j hj))
  have HL := Lib.hid hl
  have HIH := Lib.hid ih
  clear hl hs hit hp hT ih
  obtain ⟨_, a0, a1, a2, _⟩ := HA.out
  have hfold := hW1.symm
  clear hW1
  by_cases f1 : p.f = 1
  · have f1e : (p.f == 1) = true := by simpa using f1
    have HE := Lib.hid (show elC d p = bC (letB p.l) ∧ (arrP (d + 1) p).2 = .chars (p.l.map (fun x => x.2.2.1)) by unfold elC; simp only [arrP]; rw [if_pos f1, if_pos f1]; exact ⟨rfl, rfl⟩)
    rw [HE.out.1, HE.out.2]
    clear f1
    go_enter Tryz.func64, Tryz.ntmps64
    go_wp2_with fail
    refine (letters_items _ p.l _ HI.out hm).mono ?_
    rintro e w2 ⟨u, rfl, hy, hn, hB2⟩
    have HY := Lib.hid hy
    have HN := Lib.hid hn
    obtain ⟨_, r0, rf⟩ := HR.out.below hB2
    have rf0 := rf 0
    have HB2 := Lib.hid (HB1.out.trans (hB2.mono HB1.out.size))
    have hsx : ∀ (w : World) (a : Addr) (m : Mode), (store a u m).run Tryz.prog w = stored Tryz.prog w a u m := by
      by_cases hc : bC (letB p.l) = 0
      · exact (hy hc).store
      · rw [hn hc]; exact fun w a m => run_store Tryz.prog w a _ m rfl
    clear hy hn hB2 rf hfold
    go_wp2_with fail
    refine bodyPost_ret (v := .tuple #[.agg #[u], .int .i64 (bC (letB p.l))]) (by simp [results, Tryz.results64, go_sem, r0]) rfl ⟨_, rfl, fun hc => ?_, HN.out, HB2.out.setCell (p := ⟨w.heap.size + 1, 0, none⟩) (Nat.le_succ _) _⟩
    exact ((HY.out hc).setb (p := ⟨w.heap.size + 1, 0, none⟩) (fun (h : W1.heap.size ≤ w.heap.size + 1) => by have := HZ.out; omega) _).wide (fun b _ (h : W1.heap.size ≤ b) => by have := HZ.out; omega)
  have f1e : (p.f == 1) = false := by simpa using f1
  by_cases f2 : p.f = 2
  · have f2e : (p.f == 2) = true := by simpa using f2
    have HE := Lib.hid (show elC d p = fe (itE (chk d) 2) p.l ∧ (arrP (d + 1) p).2 = .boxes (p.l.map fun x => arrP d (Go.Proofs.YtbfcdpabjailcaaGreatDoor.hd x.2.2.2)) by unfold elC; simp only [arrP]; rw [if_neg f1, if_pos f2, if_neg f1, if_pos f2]; exact ⟨rfl, rfl⟩)
    rw [HE.out.1, HE.out.2]
    clear f1 f2
    have HQ := Lib.hid (boxes_items d HIH.out _ p.l n W1 hd HI.out hm (fun x hx => (HL.out x hx).2) HTb.out)
    obtain ⟨c, hc⟩ : ∃ c, c = fe (itE (chk d) 2) p.l := ⟨_, rfl⟩
    obtain ⟨V, hV⟩ : ∃ V, V = VV.boxes (p.l.map fun x => arrP d (Go.Proofs.YtbfcdpabjailcaaGreatDoor.hd x.2.2.2)) := ⟨_, rfl⟩
    rw [← hc, ← hV] at HQ ⊢
    clear hc hV
    go_enter Tryz.func64, Tryz.ntmps64
    go_wp2_with fail
    refine HQ.out.mono ?_
    rintro e w2 ⟨u, rfl, hy, hn, hB2⟩
    have HY := Lib.hid hy
    have HN := Lib.hid hn
    obtain ⟨_, r0, rf⟩ := HR.out.below hB2
    have rf0 := rf 0
    have HB2 := Lib.hid (HB1.out.trans (hB2.mono HB1.out.size))
    have hsx : ∀ (w : World) (a : Addr) (m : Mode), (store a u m).run Tryz.prog w = stored Tryz.prog w a u m := by
      by_cases hc : c = 0
      · exact (hy hc).store
      · rw [hn hc]; exact fun w a m => run_store Tryz.prog w a _ m rfl
    clear hy hn hB2 rf hfold
    go_wp2_with fail
    refine bodyPost_ret (v := .tuple #[.agg #[u], .int .i64 c]) (by simp [results, Tryz.results64, go_sem, r0]) rfl ⟨_, rfl, fun hc => ?_, HN.out, HB2.out.setCell (p := ⟨w.heap.size + 1, 0, none⟩) (Nat.le_succ _) _⟩
    exact ((HY.out hc).setb (p := ⟨w.heap.size + 1, 0, none⟩) (fun (h : W1.heap.size ≤ w.heap.size + 1) => by have := HZ.out; omega) _).wide (fun b _ (h : W1.heap.size ≤ b) => by have := HZ.out; omega)
  · have f2e : (p.f == 2) = false := by simpa using f2
    have HE := Lib.hid (show elC d p = bC (numB p.l) ∧ (arrP (d + 1) p).2 = numsV p.l by unfold elC; simp only [arrP]; rw [if_neg f1, if_neg f2, if_neg f1, if_neg f2]; exact ⟨rfl, rfl⟩)
    rw [HE.out.1, HE.out.2]
    clear f1 f2
    have HQ := Lib.hid (numbers_items _ p.l W1 HI.out hm (fun x hx => (HL.out x hx).1) HTb.out)
    obtain ⟨c, hc⟩ : ∃ c, c = bC (numB p.l) := ⟨_, rfl⟩
    obtain ⟨V, hV⟩ : ∃ V, V = numsV p.l := ⟨_, rfl⟩
    rw [← hc, ← hV] at HQ ⊢
    clear hc hV
    go_enter Tryz.func64, Tryz.ntmps64
    go_wp2_with fail
    refine HQ.out.mono ?_
    rintro e w2 ⟨u, rfl, hy, hn, hB2⟩
    have HY := Lib.hid hy
    have HN := Lib.hid hn
    obtain ⟨_, r0, rf⟩ := HR.out.below hB2
    have rf0 := rf 0
    have HB2 := Lib.hid (HB1.out.trans (hB2.mono HB1.out.size))
    have hsx : ∀ (w : World) (a : Addr) (m : Mode), (store a u m).run Tryz.prog w = stored Tryz.prog w a u m := by
      by_cases hc : c = 0
      · exact (hy hc).store
      · rw [hn hc]; exact fun w a m => run_store Tryz.prog w a _ m rfl
    clear hy hn hB2 rf hfold
    go_wp2_with fail
    refine bodyPost_ret (v := .tuple #[.agg #[u], .int .i64 c]) (by simp [results, Tryz.results64, go_sem, r0]) rfl ⟨_, rfl, fun hc => ?_, HN.out, HB2.out.setCell (p := ⟨w.heap.size + 1, 0, none⟩) (Nat.le_succ _) _⟩
    exact ((HY.out hc).setb (p := ⟨w.heap.size + 1, 0, none⟩) (fun (h : W1.heap.size ≤ w.heap.size + 1) => by have := HZ.out; omega) _).wide (fun b _ (h : W1.heap.size ≤ b) => by have := HZ.out; omega)

theorem ArrOr.no2 {c er : Int} {A : List Int × VV} {w w' : World} (h : c = er) (he : er ≠ 0) (hb : Below w.heap.size w w') : ArrOr c A w (.returned (.tuple #[.agg #[.slice none 0 0, .nilIface], .int .i64 er])) w' := by subst h; exact ArrOr.no he hb

set_option maxHeartbeats 4000000 in
theorem of_step (d : Nat) (hd : d ≤ 999) (ih : OfAt d) : OfAt (d + 1) := by
  intro ok p u n w hl hp hT
  obtain ⟨n, rfl⟩ : ∃ n', n = n' + 1 := by cases n with | zero => exact hl.elim | succ n => exact ⟨n, rfl⟩
  have HP := Lib.hid hp
  obtain ⟨so, sc, io, ic, rfl, hs, hit⟩ := hp.opened
  obtain ⟨_, _, e1, e4, e5⟩ := hit.len
  cases e1
  obtain ⟨_, _, e1, e6, e7, _⟩ := hs.opened
  cases e1
  unfold maxLen at e5
  obtain ⟨W1, hW1⟩ : ∃ W1, W1 = (w.alloc (.cells #[.slice so p.s.length sc, .slice io p.l.length ic, .int .i64 p.f] 25)).alloc (.cells #[.slice none 0 0, .nilIface] 31) := ⟨_, rfl⟩
  have HA := Lib.hid (show At3 W1 w.heap.size (.slice so p.s.length sc) (.slice io p.l.length ic) (.int .i64 p.f) by rw [hW1]; exact (At3.new w _ _ _ _).below (below_new _ _))
  have HR := Lib.hid (show At2 W1 (w.heap.size + 1) (.slice none 0 0) .nilIface by rw [hW1]; have := At2.new (w.alloc (.cells #[.slice so p.s.length sc, .slice io p.l.length ic, .int .i64 p.f] 25)) (.slice none 0 0) .nilIface 31; simpa using this)
  have HB1 := Lib.hid (show Below w.heap.size w W1 by rw [hW1]; exact (below_new _ _).alloc (by simp) _)
  have HZ := Lib.hid (show w.heap.size + 1 < W1.heap.size by rw [hW1]; simp)
  have HP1 := Lib.hid (HP.out.grow HB1.out)
  have HS1 := Lib.hid (hs.below HB1.out)
  have HTb := Lib.hid (show TabAt W1 from fun j hj => keep_below HB1.out _ _ (hT j hj))
  have HL := Lib.hid hl
  have HIH := Lib.hid ih
  clear hl hs hit hp hT ih
  obtain ⟨_, a0, a1, a2, _⟩ := HA.out
  obtain ⟨_, r0, r1, rf⟩ := HR.out
  have rf0 := rf 0
  have rf1 := rf 1
  have hfold := hW1.symm
  have hd0 : ((d : Int) + 1 == 0) = false := by simp; omega
  rw [show ((d + 1 : Nat) : Int) = (d : Int) + 1 by omega]
  have HBS := Lib.hid (show ∀ wx, Below w.heap.size w wx → ∀ x y, Below w.heap.size w ((wx.setCell ⟨w.heap.size + 1, 0, none⟩ x).setCell ⟨w.heap.size + 1, 1, none⟩ y) from fun wx h x y => (h.setCell (Nat.le_succ _) _).setCell (Nat.le_succ _) _)
  clear hW1 rf
  by_cases hf : p.f < 0 ∨ 2 < p.f
  · have HC := Lib.hid (chk_f (d := d) hf)
    rcases hf with hf | hf
    · go_enter Tryz.func40, Tryz.ntmps40
      go_wp2_with fail
      exact bodyPost_ret (v := .tuple #[.agg #[.slice none 0 0, .nilIface], .int .i64 1]) (by simp [results, Tryz.results40, go_sem, r0, r1]) rfl (ArrOr.no2 HC.out (by decide) (HBS.out _ HB1.out _ _))
    · have hf2 : ¬ p.f < 0 := by omega
      go_enter Tryz.func40, Tryz.ntmps40
      go_wp2_with fail
      exact bodyPost_ret (v := .tuple #[.agg #[.slice none 0 0, .nilIface], .int .i64 1]) (by simp [results, Tryz.results40, go_sem, r0, r1]) rfl (ArrOr.no2 HC.out (by decide) (HBS.out _ HB1.out _ _))
  have HF := Lib.hid hf
  have hf1 : ¬ p.f < 0 := by omega
  have hf2 : ¬ 2 < p.f := by omega
  clear hf
  have HPR := Lib.hid (sproduct_calls _ p.s 1048576 W1 HS1.out (by have := e7; unfold maxLen at this; omega))
  obtain ⟨c, hc⟩ : ∃ c, c = (prodR p.s 1048576).1 := ⟨_, rfl⟩
  obtain ⟨er, her⟩ : ∃ er, er = (prodR p.s 1048576).2 := ⟨_, rfl⟩
  rw [← hc, ← her] at HPR
  have HCN := Lib.hid hc
  have HER := Lib.hid her
  clear hc her
  go_enter Tryz.func40, Tryz.ntmps40
  go_wp2_with fail
  refine HPR.out.mono ?_
  rintro e w2 ⟨rfl, hB2⟩
  have HA2 := Lib.hid (HA.out.below hB2)
  have HR2 := Lib.hid (HR.out.below hB2)
  have HB2 := Lib.hid (HB1.out.trans (hB2.mono HB1.out.size))
  have HP2 := Lib.hid (HP1.out.grow hB2)
  have HS2 := Lib.hid (HS1.out.below hB2)
  have HZ2 := Lib.hid (Nat.lt_of_lt_of_le HZ.out hB2.size)
  have HT2 := Lib.hid (show TabAt w2 from fun j hj => keep_below hB2 _ _ (HTb.out j hj))
  clear a0 a1 a2 r0 r1 rf0 rf1 hfold hB2
  obtain ⟨_, a0, a1, a2, _⟩ := HA2.out
  obtain ⟨_, r0, r1, rf⟩ := HR2.out
  have rf0 := rf 0
  have rf1 := rf 1
  clear rf
  by_cases her : er = 0
  rotate_left
  · have HC := Lib.hid (chk_s (d := d) HF.out (by rw [← HER.out]; exact her))
    rw [← HER.out] at HC
    have HE0 := Lib.hid her
    have hne0 : (er != 0) = true := by simpa using her
    clear her
    go_wp2_with fail
    exact bodyPost_ret (v := .tuple #[.agg #[.slice none 0 0, .nilIface], .int .i64 er]) (by simp [results, Tryz.results40, go_sem, r0, r1]) rfl (ArrOr.no2 HC.out HE0.out (HBS.out _ HB2.out _ _))
  subst her
  by_cases hcn : c = (p.l.length : Int)
  rotate_left
  · have HC := Lib.hid (chk_n (d := d) HF.out HER.out.symm (by rw [← HCN.out]; exact hcn))
    have hne : ((p.l.length : Int) != c) = true := by simpa using (fun h => hcn h.symm)
    go_wp2_with fail
    exact bodyPost_ret (v := .tuple #[.agg #[.slice none 0 0, .nilIface], .int .i64 23]) (by simp [results, Tryz.results40, go_sem, r0, r1]) rfl (ArrOr.no2 HC.out (by decide) (HBS.out _ HB2.out _ _))
  have hne : ((p.l.length : Int) != c) = false := by simpa using hcn.symm
  have HC := Lib.hid (chk_el (d := d) HF.out HER.out.symm (by rw [← HCN.out]; exact hcn))
  have HLEN := Lib.hid (show p.s.length ≤ 8 ∧ p.l.length ≤ 1048576 from prodR_len (by rw [← hcn, HCN.out, HER.out]))
  have HQ := Lib.hid (elements_calls d HIH.out ok p _ n w2 (by omega) HL.out HLEN.out.2 HP2.out HT2.out)
  obtain ⟨V, hV⟩ : ∃ V, V = (arrP (d + 1) p).2 := ⟨_, rfl⟩
  obtain ⟨ec, hec⟩ : ∃ ec, ec = elC d p := ⟨_, rfl⟩
  rw [← hV, ← hec] at HQ
  rw [← hec] at HC
  have HAV := Lib.hid (show arrP (d + 1) p = (p.s, V) by rw [hV]; rfl)
  clear hV hec
  subst hcn
  go_wp2_with fail
  refine HQ.out.mono ?_
  rintro e w3 ⟨u, rfl, hy, hn, hB3⟩
  have HA3 := Lib.hid (HA2.out.below hB3)
  have HR3 := Lib.hid (HR2.out.below hB3)
  have HB3 := Lib.hid (HB2.out.trans (hB3.mono HB2.out.size))
  have HS3 := Lib.hid (HS2.out.below hB3)
  have HZ3 := Lib.hid (show w.heap.size + 1 < w3.heap.size from Nat.lt_of_lt_of_le HZ2.out hB3.size)
  clear a0 a1 a2 r0 r1 rf0 rf1 hB3 hne
  by_cases he0 : ec = 0
  rotate_left
  · have HE0 := Lib.hid he0
    obtain rfl := hn he0
    have hne3 : (ec != 0) = true := by simpa using he0
    obtain ⟨_, r0, r1, rf⟩ := HR3.out.below (below_new w3 (.cells #[.nilIface] 29))
    have rf0 := rf 0
    have rf1 := rf 1
    clear hy hn he0 rf
    go_wp2_with fail
    exact bodyPost_ret (v := .tuple #[.agg #[.slice none 0 0, .nilIface], .int .i64 ec]) (by simp [results, Tryz.results40, go_sem, r0, r1]) rfl (ArrOr.no2 HC.out HE0.out (HBS.out _ (HB3.out.alloc HB3.out.size _) _ _))
  have hv := hy he0
  have hne3 : (ec != 0) = false := by simpa using he0
  have HC0 := Lib.hid (HC.out.trans he0)
  have hsx := hv.store
  have HV := Lib.hid hv
  obtain ⟨W4, hW4⟩ : ∃ W4, W4 = w3.alloc (.cells #[u] 29) := ⟨_, rfl⟩
  have HBn := Lib.hid (show Below w3.heap.size w3 W4 by rw [hW4]; exact below_new _ _)
  have HVA := Lib.hid (show At1 W4 w3.heap.size u by rw [hW4]; exact At1.new _ _ _)
  have HA4 := Lib.hid (HA3.out.below HBn.out)
  have HR4 := Lib.hid (HR3.out.below HBn.out)
  have HB4 := Lib.hid (HB3.out.trans (HBn.out.mono HB3.out.size))
  have HV4 := Lib.hid (show IsV W4 (fun b => w2.heap.size ≤ b) u V from HV.out.grow HBn.out)
  have HC4 := Lib.hid (show ∀ wx, Below W4.heap.size W4 wx → Calls Tryz.prog 47 #[.slice so p.s.length sc] wx fun e w1 => ∃ v1, e = .returned v1 ∧ Slc w1 (fun b => w3.heap.size ≤ b) v1 p.s.length (ints p.s) ∧ Below W4.heap.size W4 w1 from fun wx hx =>
    (CloneInt_calls _ p.s wx ((HS3.out.below HBn.out).below hx) (by have := HLEN.out.1; omega)).mono fun e w1 ⟨v1, h1, h2, h3⟩ => ⟨v1, h1, h2.keep (Kept.refl _ _) (fun b _ h => Nat.le_trans (Nat.le_trans HBn.out.size hx.size) h), hx.trans (h3.mono hx.size)⟩)
  have hdr : Hid (Below W4.heap.size W4 W4.drew) := Lib.hid (Below.drewN' (Below.refl _ _) 1)
  obtain ⟨_, a0, _, _, _⟩ := HA4.out
  have v0 := HVA.out.2.1
  have hfold := hW4.symm
  have hsh := hv.shape
  have HUS := Lib.hid hv.shape
  clear hy hn he0 hv hW4 hsh
  go_wp2_with fail
  go_region_with ((first
    | (go_at_call 47; refine (HC4.out _ hdr.out).mono ?_; rintro e w1 ⟨v1, rfl, hs1, hB⟩; have HS1 := Lib.hid hs1; have HB := Lib.hid hB; obtain ⟨ao1, cap1, rfl, _⟩ := hs1.opened; have y0 := (HVA.out.below HB.out).2.1; obtain ⟨_, z0, z1, zf⟩ := HR4.out.below HB.out; have zf0 := zf 0; have zf1 := zf 1; clear hs1 hB zf)))
  all_goals
    go_wp2
    refine bodyPost_ret (v := .tuple #[.agg #[.slice ao1 p.s.length cap1, u], .int .i64 0]) (by simp [results, Tryz.results40, go_sem, z0, z1]) rfl (ArrOr.yes HC0.out ?_ ?_)
    · rw [HAV.out]
      refine ⟨?_, ?_⟩
      · exact HS1.out.keep ((Kept.setCell _ _ _ (by have := HZ3.out; simp <;> omega)).trans (Kept.setCell _ _ _ (by have := HZ3.out; simp <;> omega))) (fun b _ (h : w3.heap.size ≤ b) => by have := HZ3.out; omega)
      · exact (HV4.out.grow HB.out).keep ((Kept.setCell _ _ _ (by have := HZ2.out; simp <;> omega)).trans (Kept.setCell _ _ _ (by have := HZ2.out; simp <;> omega))) (fun b _ (h : w2.heap.size ≤ b) => by have := HZ2.out; omega)
    · exact HBS.out _ (HB4.out.trans (HB.out.mono HB4.out.size)) _ _
theorem of_calls_at : ∀ d, d ≤ 1000 → OfAt d := by
  intro d
  induction d with
  | zero =>
    intro _ ok p u n w hl hp hT
    obtain ⟨so, sc, io, ic, rfl, hs, hit⟩ := hp.opened
    obtain ⟨W1, hW1⟩ : ∃ W1, W1 = (w.alloc (.cells #[.slice so p.s.length sc, .slice io p.l.length ic, .int .i64 p.f] 25)).alloc (.cells #[.slice none 0 0, .nilIface] 31) := ⟨_, rfl⟩
    have HR := Lib.hid (show At2 W1 (w.heap.size + 1) (.slice none 0 0) .nilIface by rw [hW1]; have := At2.new (w.alloc (.cells #[.slice so p.s.length sc, .slice io p.l.length ic, .int .i64 p.f] 25)) (.slice none 0 0) .nilIface 31; simpa using this)
    have HB1 := Lib.hid (show Below w.heap.size w W1 by rw [hW1]; exact (below_new _ _).alloc (by simp) _)
    obtain ⟨_, r0, r1, rf⟩ := HR.out
    have rf0 := rf 0
    have rf1 := rf 1
    have hfold := hW1.symm
    clear hs hit hp hl hT hW1 rf
    go_enter Tryz.func40, Tryz.ntmps40
    go_wp2_with fail
    exact bodyPost_ret (v := .tuple #[.agg #[.slice none 0 0, .nilIface], .int .i64 1]) (by simp [results, Tryz.results40, go_sem, r0, r1]) rfl (ArrOr.no2 rfl (by decide) ((HB1.out.setCell (Nat.le_succ _) _).setCell (Nat.le_succ _) _))
  | succ d ih => intro hd; exact of_step d (by omega) (ih (by omega))
theorem of_calls (ok : Nat → Prop) (p : PA) (u : Value) (n : Nat) (w : World) (hl : lo n p) (hp : IsP w ok u p) (hT : TabAt w) : Calls Tryz.prog 21 #[u] w (ArrOr (chk 40 p) (arrP 40 p) w) := by
  have HL := Lib.hid hl
  have HP := Lib.hid hp
  obtain ⟨so, sc, io, ic, rfl, hs, hit⟩ := hp.opened
  obtain ⟨W1, hW1⟩ : ∃ W1, W1 = (w.alloc (.cells #[.slice so p.s.length sc, .slice io p.l.length ic, .int .i64 p.f] 25)).alloc (.cells #[.slice none 0 0, .nilIface] 31) := ⟨_, rfl⟩
  have HA := Lib.hid (show At3 W1 w.heap.size (.slice so p.s.length sc) (.slice io p.l.length ic) (.int .i64 p.f) by rw [hW1]; exact (At3.new w _ _ _ _).below (below_new _ _))
  have HR := Lib.hid (show At2 W1 (w.heap.size + 1) (.slice none 0 0) .nilIface by rw [hW1]; have := At2.new (w.alloc (.cells #[.slice so p.s.length sc, .slice io p.l.length ic, .int .i64 p.f] 25)) (.slice none 0 0) .nilIface 31; simpa using this)
  have HB1 := Lib.hid (show Below w.heap.size w W1 by rw [hW1]; exact (below_new _ _).alloc (by simp) _)
  have HZ := Lib.hid (show w.heap.size + 1 < W1.heap.size by rw [hW1]; simp)
  have HQ := Lib.hid (of_calls_at 40 (by omega) ok p _ n W1 HL.out (HP.out.grow HB1.out) (fun j hj => keep_below HB1.out _ _ (hT j hj)))
  obtain ⟨c, hc⟩ : ∃ c, c = chk 40 p := ⟨_, rfl⟩
  obtain ⟨A, hA⟩ : ∃ A, A = arrP 40 p := ⟨_, rfl⟩
  rw [← hc, ← hA] at HQ ⊢
  obtain ⟨_, a0, a1, a2, _⟩ := HA.out
  have hfold := hW1.symm
  clear hs hit hp hl hT hW1 hc hA
  go_enter Tryz.func21, Tryz.ntmps21
  go_wp2_with fail
  refine HQ.out.mono ?_
  rintro e w2 ⟨sh, u, rfl, hy, hn, hB2⟩
  have HB2 := Lib.hid (HB1.out.trans (hB2.mono HB1.out.size))
  obtain ⟨_, r0, r1, rf⟩ := HR.out.below hB2
  have rf0 := rf 0
  have rf1 := rf 1
  have hsx : ∀ (w : World) (a : Addr) (m : Mode), (store a u m).run Tryz.prog w = stored Tryz.prog w a u m := by
    by_cases hc : c = 0
    · exact (hy hc).2.store
    · rw [(hn hc).2]; exact fun w a m => run_store Tryz.prog w a _ m rfl
  obtain ⟨ao1, n1, cap1, rfl⟩ : ∃ ao n cap, sh = .slice ao n cap := by
    by_cases hc : c = 0
    · obtain ⟨ao1, cap1, e, _⟩ := (hy hc).1.opened
      exact ⟨_, _, _, e⟩
    · exact ⟨_, _, _, (hn hc).1⟩
  have HY := Lib.hid hy
  have HN := Lib.hid hn
  clear hy hn hB2 rf hfold a0 a1 a2
  go_wp2_with fail
  refine bodyPost_ret (v := .tuple #[.agg #[.slice ao1 n1 cap1, u], .int .i64 c]) (by simp [results, Tryz.results21, go_sem, r0, r1]) rfl ⟨_, _, rfl, fun hc => ?_, HN.out, (HB2.out.setCell (Nat.le_succ _) _).setCell (Nat.le_succ _) _⟩
  exact (HY.out hc).keep ((Kept.setCell _ _ _ (by have := HZ.out; simp <;> omega)).trans (Kept.setCell _ _ _ (by have := HZ.out; simp <;> omega))) (fun b _ (h : W1.heap.size ≤ b) => by have := HZ.out; omega)
end Go.Proofs.YtbfcdpabjailcaaGreatDoor

/- Package value, walked: goodWithin, Good. -/
namespace Go.Proofs.YtbfcdpabjailcaaGreatDoor
open Go.RowKit Fl
set_option linter.unusedVariables false
set_option maxRecDepth 100000

theorem Arrs.at {w : World} {ok : Nat → Prop} {ao : Option Addr} {n cap k : Nat} {l : List (List Int × VV)} {p : List Int × VV} (h : Arrs w ok (.slice ao n cap) l) (hx : l[k]? = some p) :
    ∃ b off so sc u, ao = some ⟨b, off, none⟩ ∧ ok b ∧ w.cell? ⟨b, off + k * 2, none⟩ = some (.slice so p.1.length sc) ∧ w.cell? ⟨b, off + k * 2 + 1, none⟩ = some u ∧ IsArr w ok (.slice so p.1.length sc) u p := by
  obtain ⟨ao', cap', f, g, e, h1, h2, hc, hs, hv⟩ := h
  cases e
  obtain ⟨hk, e⟩ := List.getElem?_eq_some_iff.1 hx
  obtain ⟨b, off, e2, hb, c0, c1⟩ := hc k hk
  have h3 := hs k hk
  have h4 := hv k hk
  rw [e] at h3 h4
  obtain ⟨so, sc, e3, _⟩ := h3.opened
  rw [e3] at h3 c0
  exact ⟨b, off, so, sc, g k, e2, hb, c0, c1, h3, h4⟩
theorem Arrs.len {w : World} {ok : Nat → Prop} {v : Value} {l : List (List Int × VV)} (h : Arrs w ok v l) : ∃ ao cap, v = .slice ao l.length cap ∧ l.length ≤ cap ∧ cap ≤ maxLen := by
  obtain ⟨ao, cap, f, g, e, h1, h2, _⟩ := h
  exact ⟨ao, cap, e, h1, h2⟩
/-- A good array, at most d of them in one another. -/
def gA : Nat → List Int × VV → Prop
  | 0, _ => False
  | d + 1, A => prodR A.1 1048576 = ((A.2.len : Int), 0) ∧ A.2.ok ∧ A.2.nm ∧ A.2.kind = A.2.least ∧ ∀ a ∈ A.2.boxs, gA d a
set_option maxHeartbeats 4000000 in
theorem good_at (d : Nat) : ∀ (ok : Nat → Prop) (A : List Int × VV) (sh u : Value) (w : World), d ≤ 1000 → gA d A → IsArr w ok sh u A → TabAt w →
    Calls Tryz.prog 42 #[.agg #[sh, u], .int .i64 (d : Int)] w (BoolIs true w) := by
  induction d with
  | zero => intro ok A sh u w _ h; exact h.elim
  | succ d ih =>
    intro ok A sh u w hd hg hA hT
    obtain ⟨hpr, hok, hnm, htl, hbx⟩ := hg
    obtain ⟨s, V⟩ := A
    simp only at hpr hok hnm htl hbx
    obtain ⟨hs, hv⟩ := hA
    simp only at hs hv
    obtain ⟨so, sc, rfl, e6, e7, _⟩ := hs.opened
    have hsl := (prodR_len hpr).1
    have hvl := (prodR_len hpr).2
    have HIH := Lib.hid ih
    have HOK := Lib.hid hok
    have HNM := Lib.hid hnm
    have HTL := Lib.hid htl
    have HBX := Lib.hid hbx
    have hsx := hv.store
    obtain ⟨W1, hW1⟩ : ∃ W1, W1 = w.alloc (.cells #[.slice so s.length sc, u] 31) := ⟨_, rfl⟩
    have HA := Lib.hid (show At2 W1 w.heap.size (.slice so s.length sc) u by rw [hW1]; exact At2.new _ _ _ _)
    have HB1 := Lib.hid (show Below w.heap.size w W1 by rw [hW1]; exact below_new _ _)
    have HV := Lib.hid (hv.grow HB1.out)
    have HS := Lib.hid (hs.below HB1.out)
    have HT0 := Lib.hid hT
    have HPR := Lib.hid (show Calls Tryz.prog 31 #[.slice so s.length sc, .int .i64 1048576] W1 fun e w' => e = .returned (.tuple #[.int .i64 (V.len : Int), .int .i64 0]) ∧ Below W1.heap.size W1 w' by
      have := sproduct_calls _ s 1048576 W1 HS.out (by omega)
      rw [hpr] at this; exact this)
    have hd0 : ((d : Int) + 1 == 0) = false := by simp; omega
    rw [show ((d + 1 : Nat) : Int) = (d : Int) + 1 by omega]
    obtain ⟨_, a0, a1, _⟩ := HA.out
    have hfold := hW1.symm
    clear hpr hok hnm htl hbx hs hv hT ih hW1
    go_enter Tryz.func42, Tryz.ntmps42
    go_wp2_with fail
    refine HPR.out.mono ?_
    rintro e w2 ⟨rfl, hB⟩
    have HA2 := Lib.hid (HA.out.below hB)
    have HV2 := Lib.hid (HV.out.grow hB)
    have HB2 := Lib.hid (HB1.out.trans (hB.mono HB1.out.size))
    clear a0 a1 hfold hB
    obtain ⟨_, a0, a1, _⟩ := HA2.out
    go_wp2_with fail
    refine (vlen_calls _ _ _ HV2.out).mono ?_
    rintro e w3 ⟨rfl, hB⟩
    have HA3 := Lib.hid (HA2.out.below hB)
    have HV3 := Lib.hid (HV2.out.grow hB)
    have HB3 := Lib.hid (HB2.out.trans (hB.mono HB2.out.size))
    have HT3 := Lib.hid (show TabAt w3 from fun j hj => keep_below HB3.out _ _ (HT0.out j hj))
    clear a0 a1 hB
    obtain ⟨_, a0, a1, _⟩ := HA3.out
    have hne : ((V.len : Int) != (V.len : Int)) = false := by simp
    go_wp2_with fail
    refine (tight_calls _ _ _ HV3.out HOK.out HNM.out HT3.out).mono ?_
    rintro e w4 ⟨rfl, hB⟩
    have HA4 := Lib.hid (HA3.out.below hB)
    have HV4 := Lib.hid (HV3.out.grow hB)
    have HB4 := Lib.hid (HB3.out.trans (hB.mono HB3.out.size))
    rw [decide_eq_true HTL.out]
    clear a0 a1 hB hne
    obtain ⟨_, a0, a1, _⟩ := HA4.out
    go_wp2_with fail
    refine (vpacked_calls _ _ _ HV4.out).mono ?_
    rintro e w5 ⟨pb, rfl, hpb, hB⟩
    have HPB := Lib.hid hpb
    obtain ⟨pao, pcap, rfl, _⟩ := hpb.opened
    obtain ⟨W5, hW5⟩ : ∃ W5, W5 = w5.alloc (.cells #[.int .i64 (V.packed.length : Int), .slice pao ((V.packed.length + 63) / 64) pcap] 78) := ⟨_, rfl⟩
    have HN5 := Lib.hid (show Below w5.heap.size w5 W5 by rw [hW5]; exact below_new _ _)
    have HP5 := Lib.hid (show At2 W5 w5.heap.size _ _ by rw [hW5]; exact At2.new _ (.int .i64 (V.packed.length : Int)) (.slice pao ((V.packed.length + 63) / 64) pcap) _)
    have HPB5 := Lib.hid (HPB.out.keep (keep_below HN5.out))
    have HA5 := Lib.hid ((HA4.out.below hB).below HN5.out)
    have HV5 := Lib.hid ((HV4.out.grow hB).grow HN5.out)
    have HB5 := Lib.hid ((HB4.out.trans (hB.mono HB4.out.size)).trans (HN5.out.mono (Nat.le_trans HB4.out.size hB.size)))
    have HPL := Lib.hid (show V.packed.length ≤ 1048576 by
      have := HOK.out
      cases V <;> simp_all [VV.packed, VV.ok])
    clear a0 a1 hB hpb
    obtain ⟨_, a0, a1, _⟩ := HA5.out
    obtain ⟨_, b0, b1, _⟩ := HP5.out
    have hfold := hW5.symm
    clear hW5
    go_wp2_with fail
    refine (tidy_calls _ _ _ HPB5.out HPL.out).mono ?_
    rintro e w6 ⟨rfl, hB⟩
    have HA6 := Lib.hid (HA5.out.below hB)
    have HV6 := Lib.hid (HV5.out.grow hB)
    have HB6 := Lib.hid (HB5.out.trans (hB.mono HB5.out.size))
    clear a0 a1 b0 b1 hfold
    clear hB
    obtain ⟨_, a0, a1, _⟩ := HA6.out
    go_wp2_with fail
    refine (varrays_calls _ _ _ HV6.out HOK.out).mono ?_
    rintro e w7 ⟨va, rfl, hva, hB⟩
    have HVA := Lib.hid hva
    obtain ⟨vao, vcap, rfl, v1, v2⟩ := hva.len
    unfold maxLen at v2
    have HB7 := Lib.hid (HB6.out.trans (hB.mono HB6.out.size))
    clear a0 a1 hB hva
    go_wp2_with fail
    go_loopw [47] (fun i wr => ∃ k : Nat, k ≤ V.boxs.length ∧ i = .int .i64 k ∧ Below w7.heap.size w7 wr) (fun i _ => V.boxs.length - (intOf i).toNat)
    case atStart => exact ⟨0, by omega, rfl, Below.refl _ _⟩
    case round =>
      obtain ⟨k, hk, rfl, hB⟩ := hrel
      have HB := Lib.hid hB
      have HBr := Lib.hid (HB7.out.trans (hB.mono HB7.out.size))
      clear hB
      by_cases hlt : k < V.boxs.length
      · have hx := List.getElem?_eq_getElem hlt
        obtain ⟨R, hR⟩ : ∃ R, R = V.boxs[k] := ⟨_, rfl⟩
        rw [← hR] at hx
        clear hR
        obtain ⟨b, off, so2, sc2, u2, rfl, _, c0, c1, hAR⟩ := (HVA.out.grow HB.out).at hx
        obtain ⟨W8, hW8⟩ : ∃ W8, W8 = wr.alloc (.cells #[.slice so2 R.1.length sc2, u2] 31) := ⟨_, rfl⟩
        have HA8 := Lib.hid (show At2 W8 wr.heap.size _ _ by rw [hW8]; exact At2.new _ (.slice so2 R.1.length sc2) u2 _)
        have HN8 := Lib.hid (show Below wr.heap.size wr W8 by rw [hW8]; exact below_new _ _)
        have HB8 := Lib.hid (HBr.out.trans (HN8.out.mono HBr.out.size))
        have hsx2 := hAR.2.store
        have HQ := Lib.hid (HIH.out _ R _ _ W8 (by omega) (HBX.out R (List.mem_of_getElem? hx)) (hAR.grow HN8.out) (fun j hj => keep_below HB8.out _ _ (HT0.out j hj)))
        have HD := Lib.hid (show (d : Int) + 1 - 1 = d by omega)
        obtain ⟨_, a0, a1, _⟩ := HA8.out
        have hfold := hW8.symm
        have hdd := HD.out
        clear hx hAR hW8
        go_wp2_with fail
        refine HQ.out.mono ?_
        rintro e w9 ⟨rfl, hB⟩
        have HB9 := Lib.hid (HB.out.trans ((HN8.out.trans (hB.mono HN8.out.size)).mono HB.out.size))
        clear hB a0 a1 hfold hdd c0 c1
        go_wp2_with fail
        go_roundw
        case rel => exact ⟨k + 1, by omega, by go_num, HB9.out⟩
        case measure => simp [intOf]; omega
      · go_wp2_with fail
        go_ret
        exact BoolIs.mk rfl HBr.out
theorem good_calls {ok : Nat → Prop} (A : List Int × VV) (sh u : Value) (w : World) (hg : gA 40 A) (hA : IsArr w ok sh u A) (hT : TabAt w) : Calls Tryz.prog 24 #[.agg #[sh, u]] w (BoolIs true w) := by
  have HA := Lib.hid hA
  have HT := Lib.hid hT
  have hsx := hA.2.store
  obtain ⟨so, sc, rfl, _⟩ := hA.1.opened
  have HQ := Lib.hid (good_at 40 ok A _ u (w.alloc (.cells #[.slice so A.1.length sc, u] 31)) (by omega) hg (HA.out.grow (below_new _ _)) (fun j hj => keep_below (below_new _ _) _ _ (HT.out j hj)))
  clear hg hA hT
  go_enter Tryz.func24, Tryz.ntmps24
  go_wp2_with fail
  refine HQ.out.mono ?_
  rintro e w2 ⟨rfl, hB⟩
  have HB := Lib.hid ((below_new w (.cells #[.slice so A.1.length sc, u] 31)).trans (hB.mono (by simp)))
  clear hB
  go_wp2_with fail
  go_ret
  exact BoolIs.mk rfl HB.out
end Go.Proofs.YtbfcdpabjailcaaGreatDoor

/- Package value, walked: item. -/
namespace Go.Proofs.YtbfcdpabjailcaaGreatDoor
open Go.RowKit Fl
set_option linter.unusedVariables false
set_option maxRecDepth 100000

/-- Boxes lie in one another at most d deep; sizes are those of arrays. -/
def dA : Nat → List Int × VV → Prop
  | 0, _ => False
  | d + 1, A => A.1.length ≤ 1048576 ∧ A.2.ok ∧ ∀ a ∈ A.2.boxs, dA d a
theorem gA_dA {d : Nat} : ∀ {A : List Int × VV}, gA d A → dA d A := by
  induction d with
  | zero => intro A h; exact h
  | succ d ih => intro A h; exact ⟨by have := (prodR_len h.1).1; omega, h.2.1, fun a ha => ih (h.2.2.2.2 a ha)⟩
/-- An item of an element. -/
def itA (t : List Int × VV → PA) (V : VV) (i : Nat) : PI :=
  if V.cls = 1 then (1, 0, atI V.text 0 (i : Int), []) else if V.cls = 2 then (2, 0, 0, [t (atI V.boxs ([], .none) (i : Int))]) else (0, atI V.nums 0 (i : Int), 0, [])
/-- The plain array of an array. -/
def plA : Nat → List Int × VV → PA
  | 0, _ => default
  | d + 1, A => .mk A.1 ((List.range A.2.len).map (itA (plA d) A.2)) A.2.cls
def PlainNew (q : PA) (w : World) (e : Ending) (w' : World) : Prop := ∃ u, e = .returned u ∧ IsP w' (fun b => w.heap.size ≤ b) u q ∧ Below w.heap.size w w'
def ItemNew (x : PI) (w : World) (e : Ending) (w' : World) : Prop := ∃ bx, e = .returned (.agg #[.int .i64 x.1, .float .f64 x.2.1, .int .i32 x.2.2.1, bx]) ∧ IsB w' (fun b => w.heap.size ≤ b) bx x.2.2.2 ∧ Below w.heap.size w w'
def PlainAt (d : Nat) : Prop := ∀ (ok : Nat → Prop) (A : List Int × VV) (sh u : Value) (w : World), dA d A → IsArr w ok sh u A → Calls Tryz.prog 26 #[.agg #[sh, u]] w (PlainNew (plA d A) w)

/-- A box that a call makes. -/
theorem IsB.one {w : World} {ok : Nat → Prop} {T : PA} {so io : Option Addr} {sc ic : Nat} (h : IsP w ok (.agg #[.slice so T.s.length sc, .slice io T.l.length ic, .int .i64 T.f]) T) (t : TypeId) :
    IsB (w.alloc (.cells #[.slice so T.s.length sc, .slice io T.l.length ic, .int .i64 T.f] t)) (fun b => ok b ∨ w.heap.size ≤ b) (.slice (some ⟨w.heap.size, 0, none⟩) 1 1) [T] := by
  refine ⟨_, 1, fun _ => .slice so T.s.length sc, fun _ => .slice io T.l.length ic, fun _ => .int .i64 T.f, rfl, by simp, by unfold maxLen; omega, fun j hj => ?_, fun j r hr => ?_⟩
  · obtain rfl : j = 0 := by simp at hj; omega
    obtain ⟨_, m0, m1, m2, _⟩ := At3.new w (.slice so T.s.length sc) (.slice io T.l.length ic) (.int .i64 T.f) t
    exact ⟨_, 0, rfl, .inr (Nat.le_refl _), m0, m1, m2⟩
  · have : r = T := by
      match j with
      | 0 => simpa using hr.symm
      | j + 1 => simp at hr
    subst this
    exact h.keep (Kept.below (below_new _ _)) (fun b _ h => .inl h)
theorem VV.boxs_len {V : VV} (h : V.cls = 2) : V.boxs.length = V.len := by cases V <;> simp_all [VV.cls, VV.boxs, VV.len]

set_option maxHeartbeats 4000000 in
theorem item_calls (d : Nat) (ih : PlainAt d) {ok : Nat → Prop} (u : Value) (V : VV) (k : Nat) (w : World) (hv : IsV w ok u V) (hok : V.ok) (hd : ∀ a ∈ V.boxs, dA d a) (hk : k < V.len) :
    Calls Tryz.prog 46 #[.agg #[u], .int .i64 (k : Int)] w (ItemNew (itA (plA d) V k) w) := by
  have HIH := Lib.hid ih
  have HOK := Lib.hid hok
  have HD := Lib.hid hd
  have HK := Lib.hid hk
  have hsx := hv.store
  have hsf := run_store_float
  obtain ⟨W1, hW1⟩ : ∃ W1, W1 = (w.alloc (.cells #[u] 29)).alloc (.cells #[.int .i64 0, .float .f64 0, .int .i32 0, .slice none 0 0] 48) := ⟨_, rfl⟩
  have HA := Lib.hid (show At1 W1 w.heap.size u by rw [hW1]; exact (At1.new _ _ _).below (below_new _ _))
  have HR := Lib.hid (show Blk4 W1 (w.heap.size + 1) _ _ _ _ by rw [hW1]; have := Blk4.new (w.alloc (.cells #[u] 29)) (.int .i64 0) (.float .f64 0) (.int .i32 0) (.slice none 0 0) 48; simpa using this)
  have HB1 := Lib.hid (show Below w.heap.size w W1 by rw [hW1]; exact (below_new _ _).alloc (by simp) _)
  have HZ := Lib.hid (show w.heap.size + 1 < W1.heap.size by rw [hW1]; simp)
  have HV := Lib.hid (hv.grow HB1.out)
  have a0 := HA.out.2.1
  have hfold := hW1.symm
  have HBS := Lib.hid (show ∀ wx, Below w.heap.size w wx → ∀ x y z t, Below w.heap.size w ((((wx.setCell ⟨w.heap.size + 1, 0, none⟩ x).setCell ⟨w.heap.size + 1, 1, none⟩ y).setCell ⟨w.heap.size + 1, 2, none⟩ z).setCell ⟨w.heap.size + 1, 3, none⟩ t) from fun wx h x y z t => (((h.setCell (Nat.le_succ _) _).setCell (Nat.le_succ _) _).setCell (Nat.le_succ _) _).setCell (Nat.le_succ _) _)
  clear ih hok hd hv hW1 hk
  go_enter Tryz.func46, Tryz.ntmps46
  go_wp2_with fail
  refine (class_calls _ _ _ HV.out).mono ?_
  rintro e w2 ⟨rfl, hB⟩
  have HA2 := Lib.hid (HA.out.below hB)
  have HR2 := Lib.hid (HR.out.below hB)
  have HV2 := Lib.hid (HV.out.grow hB)
  have HB2 := Lib.hid (HB1.out.trans (hB.mono HB1.out.size))
  have HZ2 := Lib.hid (Nat.lt_of_lt_of_le HZ.out hB.size)
  clear hB a0 hfold
  have a0 := HA2.out.2.1
  by_cases c1 : V.cls = 1
  · have HX := Lib.hid (show itA (plA d) V k = (1, 0, atI V.text 0 (k : Int), []) by unfold itA; rw [if_pos c1])
    rw [HX.out]
    rw [c1]
    go_wp2_with fail
    refine (vchar_calls _ _ _ _ HV2.out).mono ?_
    rintro e w3 ⟨rfl, hB⟩
    obtain ⟨_, r0, r1, r2, r3, rf⟩ := HR2.out.below hB
    have rf0 := rf 0
    have rf1 := rf 1
    have rf2 := rf 2
    have rf3 := rf 3
    have HB3 := Lib.hid (HB2.out.trans (hB.mono HB2.out.size))
    obtain ⟨ch, hch⟩ : ∃ ch, ch = atI V.text 0 (k : Int) := ⟨_, rfl⟩
    rw [← hch] at HX ⊢
    clear hB a0 rf hch
    go_wp2_with fail
    exact bodyPost_ret (v := .agg #[.int .i64 1, .float .f64 0, .int .i32 ch, .slice none 0 0]) (by simp [results, Tryz.results46, go_sem, r0, r1, r2, r3]) rfl ⟨_, by rw [HX.out], by rw [HX.out]; exact IsB.nil _ _, HBS.out _ HB3.out _ _ _ _⟩
  by_cases c2 : V.cls = 2
  · have HX := Lib.hid (show itA (plA d) V k = (2, 0, 0, [plA d (atI V.boxs ([], .none) (k : Int))]) by unfold itA; rw [if_neg c1, if_pos c2])
    rw [c2]
    have HIN := Lib.hid (show dA d (atI V.boxs ([], .none) (k : Int)) by
      have hl := VV.boxs_len c2
      have hk2 : k < V.boxs.length := by have := HK.out; omega
      rw [atI_nat hk2]
      exact HD.out _ (List.getElem_mem hk2))
    clear c1 c2
    go_wp2_with fail
    refine (vbox_calls _ _ _ _ HV2.out HOK.out).mono ?_
    rintro e w3 ⟨shb, ub, rfl, hAB, hB⟩
    have HQ := Lib.hid (HIH.out _ _ _ _ w3 HIN.out hAB)
    have HB3 := Lib.hid (HB2.out.trans (hB.mono HB2.out.size))
    have HR3 := Lib.hid (HR2.out.below hB)
    have HZ3 := Lib.hid (Nat.lt_of_lt_of_le HZ2.out hB.size)
    obtain ⟨T, hT⟩ : ∃ T, T = plA d (atI V.boxs ([], .none) (k : Int)) := ⟨_, rfl⟩
    rw [← hT] at HX HQ
    clear hB a0 hAB hT
    go_wp2_with fail
    refine HQ.out.mono ?_
    rintro e w4 ⟨uT, rfl, hTP, hB⟩
    obtain ⟨so2, sc2, io2, ic2, rfl, _⟩ := hTP.opened
    have HB4 := Lib.hid (HB3.out.trans (hB.mono HB3.out.size))
    obtain ⟨W5, hW5⟩ : ∃ W5, W5 = w4.alloc (.cells #[.slice so2 T.s.length sc2, .slice io2 T.l.length ic2, .int .i64 T.f] 25) := ⟨_, rfl⟩
    have HBX := Lib.hid (show IsB W5 _ _ [T] by rw [hW5]; exact IsB.one hTP 25)
    have HN := Lib.hid (show Below w4.heap.size w4 W5 by rw [hW5]; exact below_new _ _)
    have HB5 := Lib.hid (HB4.out.trans (HN.out.mono HB4.out.size))
    have HZ4 := Lib.hid (Nat.lt_of_lt_of_le HZ3.out hB.size)
    obtain ⟨_, r0, r1, r2, r3, rf⟩ := (HR3.out.below hB).below HN.out
    have rf0 := rf 0
    have rf1 := rf 1
    have rf2 := rf 2
    have rf3 := rf 3
    have hfold5 := hW5.symm
    clear hB hTP hW5 rf
    go_wp2_with fail
    refine bodyPost_ret (v := .agg #[.int .i64 2, .float .f64 0, .int .i32 0, .slice (some ⟨w4.heap.size, 0, none⟩) 1 1]) (by simp [results, Tryz.results46, go_sem, r0, r1, r2, r3]) rfl ⟨_, by rw [HX.out], ?_, HBS.out _ HB5.out _ _ _ _⟩
    rw [HX.out]
    have hno : ¬ (w3.heap.size ≤ w.heap.size + 1 ∨ w4.heap.size ≤ w.heap.size + 1) := by have := HZ3.out; have := HZ4.out; omega
    exact HBX.out.keep ((((Kept.setCell _ _ _ hno).trans (Kept.setCell _ _ _ hno)).trans (Kept.setCell _ _ _ hno)).trans (Kept.setCell _ _ _ hno)) (fun b _ h => by have := HZ3.out; have := HZ4.out; rcases h with h | h <;> omega)
  · have HX := Lib.hid (show itA (plA d) V k = (0, atI V.nums 0 (k : Int), 0, []) by unfold itA; rw [if_neg c1, if_neg c2])
    have HC0 := Lib.hid (show V.cls = 0 by cases V <;> simp_all [VV.cls])
    rw [HC0.out]
    clear c1 c2
    go_wp2_with fail
    refine (num_calls _ _ _ _ HV2.out).mono ?_
    rintro e w3 ⟨rfl, hB⟩
    obtain ⟨_, r0, r1, r2, r3, rf⟩ := HR2.out.below hB
    have rf0 := rf 0
    have rf1 := rf 1
    have rf2 := rf 2
    have rf3 := rf 3
    have HB3 := Lib.hid (HB2.out.trans (hB.mono HB2.out.size))
    obtain ⟨ch, hch⟩ : ∃ ch, ch = atI V.nums 0 (k : Int) := ⟨_, rfl⟩
    rw [← hch] at HX ⊢
    clear hB a0 rf hch
    go_wp2_with fail
    exact bodyPost_ret (v := .agg #[.int .i64 0, .float .f64 ch, .int .i32 0, .slice none 0 0]) (by simp [results, Tryz.results46, go_sem, r0, r1, r2, r3]) rfl ⟨_, by rw [HX.out], by rw [HX.out]; exact IsB.nil _ _, HBS.out _ HB3.out _ _ _ _⟩
end Go.Proofs.YtbfcdpabjailcaaGreatDoor

/- Package value, walked: Plain. -/
namespace Go.Proofs.YtbfcdpabjailcaaGreatDoor
open Go.RowKit Fl
set_option linter.unusedVariables false
set_option maxRecDepth 100000

theorem flatI_none {L : List QI} {i r : Nat} (h : L.length ≤ i) : (flatI L)[i * 4 + r]? = none := by
  apply List.getElem?_eq_none
  rw [flatI_len]; omega
theorem flatI_set (L : List QI) (k : Nat) (t : QI) (h : k < L.length) : ((((flatI L).set (k * 4) (.int .i64 t.1)).set (k * 4 + 1) (.float .f64 t.2.1)).set (k * 4 + 2) (.int .i32 t.2.2.1)).set (k * 4 + 3) t.2.2.2 = flatI (L.set k t) := by
  apply List.ext_getElem?
  intro j
  obtain ⟨i, r, hr, rfl⟩ : ∃ i r, r < 4 ∧ j = i * 4 + r := ⟨j / 4, j % 4, by omega, by omega⟩
  have hl : (flatI L).length = L.length * 4 := flatI_len L
  by_cases hi : i < L.length
  · by_cases e : i = k
    · subst e
      have h2 : (L.set i t)[i]? = some t := by rw [List.getElem?_set_self h]
      obtain ⟨c0, c1, c2, c3⟩ := flatI_at h2
      match r, hr with
      | 0, _ => simp only [Nat.add_zero]; rw [c0]; simp only [List.getElem?_set, List.length_set]; simp; omega
      | 1, _ => rw [c1]; simp only [List.getElem?_set, List.length_set]; simp; omega
      | 2, _ => rw [c2]; simp only [List.getElem?_set, List.length_set]; simp; omega
      | 3, _ => rw [c3]; simp only [List.getElem?_set, List.length_set]; simp; omega
    · have h2 : (L.set k t)[i]? = L[i]? := by rw [List.getElem?_set_ne (fun x => e x.symm)]
      have h3 : L[i]? = some L[i] := List.getElem?_eq_getElem hi
      rw [h3] at h2
      obtain ⟨c0, c1, c2, c3⟩ := flatI_at h2
      obtain ⟨e0, e1, e2, e3⟩ := flatI_at h3
      rw [List.getElem?_set_ne (by omega), List.getElem?_set_ne (by omega), List.getElem?_set_ne (by omega), List.getElem?_set_ne (by omega)]
      match r, hr with
      | 0, _ => simp only [Nat.add_zero]; rw [c0, e0]
      | 1, _ => rw [c1, e1]
      | 2, _ => rw [c2, e2]
      | 3, _ => rw [c3, e3]
  · rw [List.getElem?_set_ne (by omega), List.getElem?_set_ne (by omega), List.getElem?_set_ne (by omega), List.getElem?_set_ne (by omega), flatI_none (by omega), flatI_none (by rw [List.length_set]; omega)]
def zeroQ : QI := (0, 0, 0, .slice none 0 0)
def zerosI (n : Nat) : Array Value := madeCells (Value.agg #[.int .i64 0, .float .f64 0, .int .i32 0, .slice none 0 0]).cells (n * 4)
theorem zerosI_list (n : Nat) : (zerosI n).toList = flatI (List.replicate n zeroQ) := by
  apply List.ext_getElem?
  intro j
  unfold zerosI
  rw [show (Value.agg #[.int .i64 0, .float .f64 0, .int .i32 0, .slice none 0 0]).cells = #[.int .i64 0, .float .f64 0, .int .i32 0, .slice none 0 0] from rfl]
  obtain ⟨i, r, hr, rfl⟩ : ∃ i r, r < 4 ∧ j = i * 4 + r := ⟨j / 4, j % 4, by omega, by omega⟩
  by_cases hj : i < n
  · obtain ⟨c0, c1, c2, c3⟩ := flatI_at (show (List.replicate n zeroQ)[i]? = some zeroQ by simp [hj])
    match r, hr with
    | 0, _ => simp only [Nat.add_zero]; rw [c0]; simp [madeCells, zeroQ]; exact ⟨i * 4, by rw [List.getElem?_range (by omega)], by rw [show (i * 4) % 4 = 0 by omega]; rfl⟩
    | 1, _ => rw [c1]; simp [madeCells, zeroQ]; exact ⟨i * 4 + 1, by rw [List.getElem?_range (by omega)], by rw [show (i * 4 + 1) % 4 = 1 by omega]; rfl⟩
    | 2, _ => rw [c2]; simp [madeCells, zeroQ]; exact ⟨i * 4 + 2, by rw [List.getElem?_range (by omega)], by rw [show (i * 4 + 2) % 4 = 2 by omega]; rfl⟩
    | 3, _ => rw [c3]; simp [madeCells, zeroQ]; exact ⟨i * 4 + 3, by rw [List.getElem?_range (by omega)], by rw [show (i * 4 + 3) % 4 = 3 by omega]; rfl⟩
  · rw [flatI_none (by simp; omega)]
    apply List.getElem?_eq_none
    simp [madeCells]; omega
theorem own_mkItem (n : Nat) (hn : n ≤ 2000000) (w : World) (base : Nat) (hb : base ≤ w.heap.size) : (w.alloc (.cells (zerosI n) 48)).ownsRow base 48 4 (.slice (some ⟨w.heap.size, 0, none⟩) n n) n (flatI (List.replicate n zeroQ)) := by
  have ho := World.ownsRow_lit (e := 48) (size := 4) w (zerosI n) n hb (by unfold maxLen; omega) (size_madeCells _ _)
  rw [zerosI_list] at ho
  exact ho
theorem run_mkItem (n : Nat) (hn : n ≤ 2000000) (w : World) : (Instr.makeSlice 23 (.int .i64 (n : Int)) (.int .i64 (n : Int))).run Tryz.prog w = .ok (.slice (some ⟨w.heap.size, 0, none⟩) n n) (w.alloc (.cells (zerosI n) 48)) := by
  obtain ⟨i0, hi, hz0, hz1, hz2⟩ := info_parts info_item
  have hr := run_make (P := Tryz.prog) w 23 48 i0 _ Tryz.underlying23 hi hz0 .i64 .i64 n n (by omega) (Int.le_refl _) (by rw [hz2]; omega) (by omega)
  simp only [Int.toNat_natCast, hz1] at hr
  exact hr

set_option maxHeartbeats 4000000 in
theorem plain_step (d : Nat) (ih : PlainAt d) : PlainAt (d + 1) := by
  intro ok A sh u w hd hA
  obtain ⟨s, V⟩ := A
  obtain ⟨hsl, hok, hbx⟩ := hd
  obtain ⟨hs, hv⟩ := hA
  simp only at hsl hok hbx hs hv
  obtain ⟨so, sc, rfl, e6, e7, _⟩ := hs.opened
  have hvl := VV.ok_len hok
  have HIH := Lib.hid ih
  have HOK := Lib.hid hok
  have HBX := Lib.hid hbx
  have hsx := hv.store
  have hsf := run_store_float
  obtain ⟨W1, hW1⟩ : ∃ W1, W1 = (w.alloc (.cells #[.slice so s.length sc, u] 31)).alloc (.cells #[.slice none 0 0, .slice none 0 0, .int .i64 0] 25) := ⟨_, rfl⟩
  have HA := Lib.hid (show At2 W1 w.heap.size (.slice so s.length sc) u by rw [hW1]; exact (At2.new _ _ _ _).below (below_new _ _))
  have HR := Lib.hid (show At3 W1 (w.heap.size + 1) (.slice none 0 0) (.slice none 0 0) (.int .i64 0) by rw [hW1]; have := At3.new (w.alloc (.cells #[.slice so s.length sc, u] 31)) (.slice none 0 0) (.slice none 0 0) (.int .i64 0) 25; simpa using this)
  have HB1 := Lib.hid (show Below w.heap.size w W1 by rw [hW1]; exact (below_new _ _).alloc (by simp) _)
  have HZ := Lib.hid (show w.heap.size + 1 < W1.heap.size by rw [hW1]; simp)
  have HV := Lib.hid (hv.grow HB1.out)
  have HS := Lib.hid (hs.below HB1.out)
  obtain ⟨_, a0, a1, _⟩ := HA.out
  have hfold := hW1.symm
  clear ih hok hbx hv hs hW1
  go_enter Tryz.func26, Tryz.ntmps26
  go_wp2_with fail
  refine (vlen_calls _ _ _ HV.out).mono ?_
  rintro e w2 ⟨rfl, hB⟩
  have HA2 := Lib.hid (HA.out.below hB)
  have HR2 := Lib.hid (HR.out.below hB)
  have HV2 := Lib.hid (HV.out.grow hB)
  have HS2 := Lib.hid (HS.out.below hB)
  have HB2 := Lib.hid (HB1.out.trans (hB.mono HB1.out.size))
  have HZ2 := Lib.hid (Nat.lt_of_lt_of_le HZ.out hB.size)
  clear hB a0 a1 hfold
  obtain ⟨n, hn⟩ : ∃ n, n = V.len := ⟨_, rfl⟩
  rw [← hn] at hvl ⊢
  have HN := Lib.hid hn
  clear hn
  have hmk := run_mkItem n (by omega) w2
  obtain ⟨W0, hW0⟩ : ∃ W0, W0 = w2.alloc (.cells (zerosI n) 48) := ⟨_, rfl⟩
  have HO0 := Lib.hid (show W0.ownsRow w2.heap.size 48 4 (.slice (some ⟨w2.heap.size, 0, none⟩) n n) n (flatI (List.replicate n zeroQ)) by rw [hW0]; exact own_mkItem n (by omega) w2 _ (Nat.le_refl _))
  have HW := Lib.hid (show Below w2.heap.size w2 W0 by rw [hW0]; exact below_new _ _)
  rw [← hW0] at hmk
  have HA0 := Lib.hid (HA2.out.below HW.out)
  have HR0 := Lib.hid (HR2.out.below HW.out)
  have HV0 := Lib.hid (HV2.out.grow HW.out)
  have HS0 := Lib.hid (HS2.out.below HW.out)
  have HB0 := Lib.hid (HB2.out.trans (HW.out.mono HB2.out.size))
  clear hW0
  go_wp2_with fail
  clear hmk
  go_loopw [11] (fun i wr => ∃ (k : Nat) (L : List QI), k ≤ n ∧ i = .int .i64 k ∧ L.length = n ∧ wr.ownsRow w2.heap.size 48 4 (.slice (some ⟨w2.heap.size, 0, none⟩) n n) n (flatI L) ∧
    (∀ i, i < k → ∃ v, L[i]? = some ((itA (plA d) V i).1, (itA (plA d) V i).2.1, (itA (plA d) V i).2.2.1, v) ∧ IsB wr (fun b => w2.heap.size < b) v (itA (plA d) V i).2.2.2) ∧ W0.grownBy wr (some w2.heap.size)) (fun i _ => n - (intOf i).toNat)
  case atStart => exact ⟨0, _, by omega, rfl, List.length_replicate .., HO0.out, fun i h => absurd h (by omega), grown_refl _ _⟩
  case round =>
    obtain ⟨k, L, hk, rfl, hL, hown, hall, hgr⟩ := hrel
    have HO := Lib.hid hown
    have HG := Lib.hid hgr
    have HL := Lib.hid hL
    have HALL := Lib.hid hall
    have HBw := Lib.hid (HW.out.grown hgr HW.out.size (fun j hj => by cases hj; omega))
    have HB := Lib.hid (HB2.out.trans (HBw.out.mono HB2.out.size))
    have HAr := Lib.hid (HA2.out.below HBw.out)
    have HRr := Lib.hid (HR2.out.below HBw.out)
    have HVr := Lib.hid (HV2.out.grow HBw.out)
    have HSr := Lib.hid (HS2.out.below HBw.out)
    have HGS := Lib.hid (hown.lt w2.heap.size rfl).2
    obtain ⟨_, a0, a1, _⟩ := HAr.out
    clear hown hgr hL hall
    by_cases hlt : k < n
    · go_wp2_with fail
      refine (item_calls d HIH.out u V k wr HVr.out HOK.out HBX.out (by rw [← HN.out]; exact hlt)).mono ?_
      rintro e w3 ⟨bx, rfl, hbx, hB⟩
      obtain ⟨bo, bcap, rfl, _⟩ := hbx.len
      obtain ⟨x, hx⟩ : ∃ x, x = itA (plA d) V k := ⟨_, rfl⟩
      rw [← hx] at hbx ⊢
      have HX := Lib.hid hx
      have HBX3 := Lib.hid hbx
      have HB3 := Lib.hid hB
      have HO3 := Lib.hid (owns_below2 HO.out hB)
      have HG3 := Lib.hid (grown_trans HG.out (grown_any (below_grown hB) _))
      obtain ⟨xk, xn, xc, xb⟩ := x
      simp only at HBX3 ⊢
      have hLk : k < L.length := by rw [HL.out]; exact hlt
      obtain ⟨q0, hq0⟩ : ∃ q, L[k]? = some q := ⟨_, List.getElem?_eq_getElem hLk⟩
      obtain ⟨f0, f1, f2, f3⟩ := flatI_at hq0
      have e0 := (HO3.out.cellAt (k * 4) (by omega)).trans f0
      have e1 := (HO3.out.cellAt (k * 4 + 1) (by omega)).trans f1
      have e2 := (HO3.out.cellAt (k * 4 + 2) (by omega)).trans f2
      have e3 := (HO3.out.cellAt (k * 4 + 3) (by omega)).trans f3
      have z0 := World.ownsRow.frozenAt HO3.out (k * 4)
      have z1 := World.ownsRow.frozenAt HO3.out (k * 4 + 1)
      have z2 := World.ownsRow.frozenAt HO3.out (k * 4 + 2)
      have z3 := World.ownsRow.frozenAt HO3.out (k * 4 + 3)
      have HLk := Lib.hid hLk
      clear hbx hB hx f0 f1 f2 f3 hq0 hLk a0 a1
      go_wp2_with fail
      go_roundw
      case rel =>
        refine ⟨k + 1, L.set k (xk, xn, xc, .slice bo xb.length bcap), by omega, by go_num, by rw [List.length_set]; exact HL.out, ?_, ?_, ?_⟩
        · have q1 := (World.ownsRow.stored HO3.out (k * 4) (.int .i64 xk)).1
          have q2 := (World.ownsRow.stored q1 (k * 4 + 1) (.float .f64 xn)).1
          have q3 := (World.ownsRow.stored q2 (k * 4 + 2) (.int .i32 xc)).1
          have q4 := (World.ownsRow.stored q3 (k * 4 + 3) (.slice bo xb.length bcap)).1
          rw [flatI_set L k (xk, xn, xc, .slice bo xb.length bcap) HLk.out] at q4
          exact q4
        · intro i hi
          have kk : ∀ x y z t, Kept (fun b => w2.heap.size < b) w3 ((((w3.setCell ⟨w2.heap.size, k * 4, none⟩ x).setCell ⟨w2.heap.size, k * 4 + 1, none⟩ y).setCell ⟨w2.heap.size, k * 4 + 2, none⟩ z).setCell ⟨w2.heap.size, k * 4 + 3, none⟩ t) := fun x y z t => (((Kept.setCell _ _ _ (by simp)).trans (Kept.setCell _ _ _ (by simp))).trans (Kept.setCell _ _ _ (by simp))).trans (Kept.setCell _ _ _ (by simp))
          by_cases e : i = k
          · subst e
            rw [← HX.out]
            refine ⟨_, by rw [List.getElem?_set_self HLk.out], (HBX3.out.wide (fun b _ (h : wr.heap.size ≤ b) => by have := HGS.out; omega)).keep (kk _ _ _ _) (fun _ _ h => h)⟩
          · obtain ⟨v, g1, g2⟩ := HALL.out i (by omega)
            exact ⟨v, by rw [List.getElem?_set_ne (fun h => e h.symm)]; exact g1, (g2.grow HB3.out).keep (kk _ _ _ _) (fun _ _ h => h)⟩
        · exact grown_trans (grown_trans (grown_trans (grown_trans HG3.out (grown_setCell _ ⟨w2.heap.size, k * 4, none⟩ _)) (grown_setCell _ ⟨w2.heap.size, k * 4 + 1, none⟩ _)) (grown_setCell _ ⟨w2.heap.size, k * 4 + 2, none⟩ _)) (grown_setCell _ ⟨w2.heap.size, k * 4 + 3, none⟩ _)
      case measure => simp [intOf]; omega
    · have hkn : k = n := by omega
      have HQ := Lib.hid (show Quad wr (fun b => w2.heap.size < b) L ((List.range n).map (itA (plA d) V)) by
        refine ⟨by rw [HL.out]; simp, fun i x hx => ?_⟩
        simp only [List.getElem?_map, Option.map_eq_some_iff] at hx
        obtain ⟨j, hj, rfl⟩ := hx
        obtain ⟨hji, e⟩ := List.getElem?_eq_some_iff.1 hj
        simp at e hji
        subst e
        exact HALL.out i (by omega))
      have HITS := Lib.hid ((Its.of_own HO.out HQ.out).wide (ok' := fun b => w2.heap.size ≤ b) (fun b _ h => by rcases h with h | h <;> omega))
      clear hkn
      go_wp2_with fail
      have HSL := Lib.hid (show s.length ≤ 2000000 by omega)
      obtain ⟨WD, hWD⟩ : ∃ WD, wr.drew = WD := ⟨_, rfl⟩
      have hBd : Below wr.heap.size wr WD := by rw [← hWD]; exact Below.drewN' (Below.refl _ _) 1
      have HAd := Lib.hid (HAr.out.below hBd)
      have HRd := Lib.hid (HRr.out.below hBd)
      have HSd := Lib.hid (HSr.out.below hBd)
      have HVd := Lib.hid (HVr.out.grow hBd)
      have HITSd := Lib.hid (HITS.out.grow hBd)
      have HBd := Lib.hid (HB.out.trans (hBd.mono HB.out.size))
      have HGd := Lib.hid (Nat.lt_of_lt_of_le HGS.out hBd.size)
      clear hBd a0 a1
      refine wp_region_held_drew (S := fun w' => w'.cell? ⟨w.heap.size, 0, none⟩ = some (.slice so s.length sc) ∧ w'.cell? ⟨w.heap.size, 1, none⟩ = some u) (by kernel_rfl) (by rw [hWD]; exact ⟨HAd.out.2.1, HAd.out.2.2.1⟩) (fun hHeld => ?_)
      rw [hWD] at hHeld ⊢
      clear hWD
      refine wpAnyH_take (i := 0) (v := ?_) rfl (by kernel_rfl) (by kernel_rfl) (by kernel_rfl) (fun _ _ _ h => h) (Or.inl ⟨by rfl, ?_⟩) (by assumption) ?_
      rotate_left
      · (intro w hSw; (try dsimp only at hSw); go_simp; try with_reducible rfl)
      simp only [Act.put, List.getElem_toArray, List.getElem_cons_zero, List.setIfInBounds_toArray, List.set_cons_zero, List.set_cons_succ]
      refine wpAnyH_take (i := 1) (v := ?_) rfl (by kernel_rfl) (by kernel_rfl) (by kernel_rfl) (fun _ _ _ h => h) (Or.inl ⟨by rfl, ?_⟩) (by assumption) ?_
      rotate_left
      · (intro w hSw; (try dsimp only at hSw); go_simp; try with_reducible rfl)
      simp only [Act.put, List.getElem_toArray, List.getElem_cons_succ, List.getElem_cons_zero, List.setIfInBounds_toArray, List.set_cons_zero, List.set_cons_succ]
      refine wpAnyH_take (i := 3) (v := ?_) rfl (by kernel_rfl) (by kernel_rfl) (by kernel_rfl) (fun _ _ _ h => h) (Or.inl ⟨by rfl, ?_⟩) (by assumption) ?_
      rotate_left
      · (intro w hSw; (try dsimp only at hSw); go_simp; try with_reducible rfl)
      simp only [Act.put, List.getElem_toArray, List.getElem_cons_succ, List.getElem_cons_zero, List.setIfInBounds_toArray, List.set_cons_zero, List.set_cons_succ]
      refine wpAnyH_take (i := 4) (v := ?_) rfl (by kernel_rfl) (by kernel_rfl) (by kernel_rfl) (fun _ _ _ h => h) (Or.inl ⟨by rfl, ?_⟩) (by assumption) ?_
      rotate_left
      · (intro w hSw; (try dsimp only at hSw); go_simp; try with_reducible rfl)
      simp only [Act.put, List.getElem_toArray, List.getElem_cons_succ, List.getElem_cons_zero, List.setIfInBounds_toArray, List.set_cons_zero, List.set_cons_succ]
      refine wpAnyH_take (i := 5) (v := ?_) rfl (by kernel_rfl) (by kernel_rfl) (by kernel_rfl) (fun _ _ _ h => h) (Or.inl ⟨by rfl, ?_⟩) (by assumption) ?_
      rotate_left
      · (intro w hSw; (try dsimp only at hSw); go_simp; try with_reducible rfl)
      simp only [Act.put, List.getElem_toArray, List.getElem_cons_succ, List.getElem_cons_zero, List.setIfInBounds_toArray, List.set_cons_zero, List.set_cons_succ]
      refine wpAnyH_ready (rs := [2]) (by kernel_rfl) (by simp) ?_
      refine AllReadyH.cons (o := _) rfl (fun K hK => ?_) AllReadyH.nil
      go_simp
      refine (CloneInt_calls _ s _ HSd.out HSL.out).mono ?_
      rintro e w3 ⟨v1, rfl, hs1, hB⟩
      obtain ⟨ao1, cap1, rfl, _⟩ := hs1.opened
      have HS1 := Lib.hid hs1
      have HA3 := Lib.hid (HAd.out.below hB)
      have HR3 := Lib.hid (HRd.out.below hB)
      have HV3 := Lib.hid (HVd.out.grow hB)
      have HB3 := Lib.hid (HBd.out.trans (hB.mono HBd.out.size))
      have HI3 := Lib.hid (HITSd.out.grow hB)
      clear hB hs1
      try go_simp
      refine hK.out _ _ ?_ (fun hHeld => ?_)
      · exact ⟨HA3.out.2.1, HA3.out.2.2.1⟩
      clear hK K
      refine wpAnyH_ready (rs := [6]) (by kernel_rfl) (by simp) ?_
      refine AllReadyH.cons (o := _) rfl (fun K hK => ?_) AllReadyH.nil
      go_simp
      refine (class_calls _ _ _ HV3.out).mono ?_
      rintro e w4 ⟨rfl, hB⟩
      have HS4 := Lib.hid (HS1.out.below hB)
      have HA4 := Lib.hid (HA3.out.below hB)
      have HR4 := Lib.hid (HR3.out.below hB)
      have HB4 := Lib.hid (HB3.out.trans (hB.mono HB3.out.size))
      have HI4 := Lib.hid (HI3.out.grow hB)
      clear hB
      obtain ⟨_, r0, r1, r2, rf⟩ := HR4.out
      have rf0 := rf 0
      have rf1 := rf 1
      have rf2 := rf 2
      clear rf
      try go_simp
      refine hK.out _ _ ?_ (fun hHeld => ?_)
      · exact ⟨HA4.out.2.1, HA4.out.2.2.1⟩
      clear hK K
      refine wpAnyH_take (i := 7) (v := ?_) rfl (by kernel_rfl) (by kernel_rfl) (by kernel_rfl) (fun _ _ _ h => h) (Or.inl ⟨by rfl, ?_⟩) (by assumption) ?_
      rotate_left
      · (intro w hSw; (try dsimp only at hSw); go_simp; try with_reducible rfl)
      simp only [Act.put, List.getElem_toArray, List.getElem_cons_succ, List.getElem_cons_zero, List.setIfInBounds_toArray, List.set_cons_zero, List.set_cons_succ]
      refine wpAnyH_ready (rs := [8]) (by kernel_rfl) (by simp) ?_
      refine AllReadyH.cons (o := _) rfl (fun K hK => ?_) AllReadyH.nil
      go_simp
      try go_wp2
      try go_simp
      refine hK.out _ _ ?_ (fun hHeld => ?_)
      · exact (fun h => ⟨h.2.1, h.2.2.1⟩) (((HA4.out.grown (grown_setCell _ ⟨w.heap.size + 1, 0, none⟩ _) (by simp)).grown (grown_setCell _ ⟨w.heap.size + 1, 1, none⟩ _) (by simp)).grown (grown_setCell _ ⟨w.heap.size + 1, 2, none⟩ _) (by simp))
      clear hK K
      refine wpAnyH_done (by kernel_rfl) ?_ _
      clear hHeld
      have HPL := Lib.hid (show plA (d + 1) (s, V) = .mk s ((List.range n).map (itA (plA d) V)) V.cls by simp only [plA]; rw [← HN.out])
      have HDN := Lib.hid (plain_done (f := V.cls) (r := w.heap.size + 1) (ok := fun b => w2.heap.size ≤ b) (HS4.out.keep (Kept.refl _ _) (fun b _ (h : WD.heap.size ≤ b) => by have := HGd.out; omega)) HI4.out (by have := HZ2.out; omega))
      have HBF := Lib.hid (show ∀ x y z, Below w.heap.size w (((w4.setCell ⟨w.heap.size + 1, 0, none⟩ x).setCell ⟨w.heap.size + 1, 1, none⟩ y).setCell ⟨w.heap.size + 1, 2, none⟩ z) from fun x y z => ((HB4.out.setCell (Nat.le_succ _) _).setCell (Nat.le_succ _) _).setCell (Nat.le_succ _) _)
      go_wp2
      refine bodyPost_ret (v := .agg #[.slice ao1 s.length cap1, .slice (some ⟨w2.heap.size, 0, none⟩) n n, .int .i64 V.cls]) (by simp [results, Tryz.results26, go_sem, r0, r1, r2]) rfl ⟨_, rfl, ?_, HBF.out _ _ _⟩
      rw [HPL.out]
      exact (HDN.out _ _ _).wide (fun b _ (h : w2.heap.size ≤ b) => by have := HZ2.out; omega)
theorem plain_calls_at : ∀ d, PlainAt d := by
  intro d
  induction d with
  | zero => intro ok A sh u w h; exact h.elim
  | succ d ih => exact plain_step d ih
end Go.Proofs.YtbfcdpabjailcaaGreatDoor

/- Plain arrays, the document's functions walked: Depth. -/
namespace Go.Proofs.YtbfcdpabjailcaaGreatDoor
open Go.RowKit Fl
set_option linter.unusedVariables false
set_option maxRecDepth 100000

end Go.Proofs.YtbfcdpabjailcaaGreatDoor

/- Package value, walked: Rank, Single, Depth. -/
namespace Go.Proofs.YtbfcdpabjailcaaGreatDoor
open Go.RowKit Fl
set_option linter.unusedVariables false
set_option maxRecDepth 100000

theorem vrank_calls {ok : Nat → Prop} (A : List Int × VV) (sh u : Value) (w : World) (hA : IsArr w ok sh u A) : Calls Tryz.prog 54 #[.agg #[sh, u]] w (IntIs (A.1.length : Int) w) := by
  obtain ⟨so, sc, rfl, _⟩ := hA.1.opened
  have hsx := hA.2.store
  clear hA
  go_enter Tryz.func54, Tryz.ntmps54
  go_wp2_with fail
  go_ret
  exact IntIs.mk rfl (below_new _ _)
end Go.Proofs.YtbfcdpabjailcaaGreatDoor

/- Arrays and plain arrays, plain: what is made of a plain array is good, and told as it was. -/
namespace Go.Proofs.YtbfcdpabjailcaaGreatDoor
open Fl
set_option linter.unusedVariables false
set_option maxRecDepth 100000

theorem hd_one {q : PA} {l : List PA} (h : l = [q]) : hd l = q := by subst h; rfl
theorem numsV_spec {l : List PI} (hf : ∀ x ∈ l, Fnt x.2.1) (hl : l.length ≤ 1048576) :
    (numsV l).nums = l.map (fun x => ze x.2.1) ∧ (numsV l).cls = 0 ∧ (numsV l).ok ∧ (numsV l).nm ∧ (numsV l).len = l.length ∧ (numsV l).kind = (leastW (l.map (fun x => ze x.2.1)) : Int) ∧ (numsV l).kind = (numsV l).least := by
  have hok : (VV.floats ((l.map (fun x => x.2.1)).map ze)).ok := by simpa [VV.ok] using hl
  have hnm : (VV.floats ((l.map (fun x => x.2.1)).map ze)).nm := by
    intro x hx
    simp only [List.map_map, List.mem_map] at hx
    obtain ⟨y, hy, rfl⟩ := hx
    exact ze_num (hf y hy)
  obtain ⟨h1, h2, h3, h4, h5, h6⟩ := VV.sq_spec hok hnm
  have hc : (VV.floats ((l.map (fun x => x.2.1)).map ze)).cls = 0 := rfl
  have hn : (VV.floats ((l.map (fun x => x.2.1)).map ze)).nums = l.map (fun x => ze x.2.1) := by simp [VV.nums]
  have hk : (numsV l).kind = (leastW (l.map (fun x => ze x.2.1)) : Int) := by
    unfold numsV; rw [h1, VV.least_eq hok hnm hc, hn]
  refine ⟨h2.trans hn, h3, h4, h5, by unfold numsV; rw [h6]; simp [VV.len], hk, ?_⟩
  rw [hk]
  unfold numsV
  rw [VV.least_eq h4 h5 h3, h2, hn]
theorem boxs_of_cls {V : VV} (h : V.cls ≠ 2) : V.boxs = [] := by cases V <;> simp_all [VV.cls, VV.boxs]
theorem well_fin {d : Nat} {p : PA} (h : wellP d p) (h0 : p.f = 0) : ∀ x ∈ p.l, Fnt x.2.1 := fun x hx => (h.2.2.2 x hx).2.2 (by rw [(h.2.2.2 x hx).1]; exact h0)
theorem arrP_one {d : Nat} {p : PA} (f : p.f = 1) : arrP (d + 1) p = (p.s, .chars (p.l.map (fun x => x.2.2.1))) := by simp only [arrP]; rw [if_pos f]
theorem arrP_two {d : Nat} {p : PA} (f : p.f = 2) : arrP (d + 1) p = (p.s, .boxes (p.l.map fun x => arrP d (hd x.2.2.2))) := by simp only [arrP]; rw [if_neg (by omega), if_pos f]
theorem arrP_zero {d : Nat} {p : PA} (f : p.f = 0) : arrP (d + 1) p = (p.s, numsV p.l) := by simp only [arrP]; rw [if_neg (by omega), if_neg (by omega)]
theorem well_cases {d : Nat} {p : PA} (h : wellP d p) : p.f = 0 ∨ p.f = 1 ∨ p.f = 2 := by have := h.1; have := h.2.1; omega
theorem well_box {d : Nat} {p : PA} (h : wellP d p) (f : p.f = 2) {x : PI} (hx : x ∈ p.l) : ∃ q, x.2.2.2 = [q] ∧ hd x.2.2.2 = q ∧ chk d q = 0 := by
  obtain ⟨h1, h2, _⟩ := h.2.2.2 x hx
  obtain ⟨q, hq, hc⟩ := h2 (h1.trans f)
  exact ⟨q, hq, hd_one hq, hc⟩
theorem chk_pos {d : Nat} {p : PA} (h : chk d p = 0) : ∃ e, d = e + 1 := by
  cases d with
  | zero => simp [chk] at h
  | succ e => exact ⟨e, rfl⟩
/-- What is made of a plain array is good. -/
theorem arrP_good (d : Nat) : ∀ p, chk d p = 0 → gA d (arrP d p) := by
  induction d with
  | zero => intro p h; simp [chk] at h
  | succ d ih =>
    intro p h
    have hw := chk_well.1 h
    have hl := prodR_len hw.2.2.1
    rcases well_cases hw with f | f | f
    · obtain ⟨h1, h2, h3, h4, h5, h6, h7⟩ := numsV_spec (well_fin hw f) hl.2
      rw [arrP_zero f]
      exact ⟨by simp only; rw [h5]; exact hw.2.2.1, h3, h4, h7, fun a ha => by rw [boxs_of_cls (by rw [h2]; decide)] at ha; simp at ha⟩
    · rw [arrP_one f]
      refine ⟨by simpa [VV.len] using hw.2.2.1, by simpa [VV.ok] using hl.2, trivial, by rw [VV.least_oth (.inr (by simp [VV.cls]))], fun a ha => by simp [VV.boxs] at ha⟩
    · rw [arrP_two f]
      refine ⟨by simpa [VV.len] using hw.2.2.1, ⟨by simpa using hl.2, fun a ha => ?_⟩, trivial, by rw [VV.least_oth (.inr (by simp [VV.cls]))], fun a ha => ?_⟩
      · obtain ⟨x, hx, rfl⟩ := List.mem_map.1 ha
        obtain ⟨q, _, e, hc⟩ := well_box hw f hx
        rw [e]
        have := arrP_s hc
        rw [this.1]; omega
      · simp only [VV.boxs] at ha
        obtain ⟨x, hx, rfl⟩ := List.mem_map.1 ha
        obtain ⟨q, _, e, hc⟩ := well_box hw f hx
        rw [e]
        exact ih q hc
theorem map_range_eq {α : Type} {l : List α} {g : Nat → PI} {f : α → PI} (h : ∀ i x, l[i]? = some x → g i = f x) : (List.range l.length).map g = l.map f := by
  apply List.ext_getElem?
  intro i
  by_cases hi : i < l.length
  · have hx : l[i]? = some l[i] := List.getElem?_eq_getElem hi
    simp only [List.getElem?_map, hx, List.getElem?_range hi, Option.map_some]
    rw [h i _ hx]
  · rw [List.getElem?_eq_none (by simp; omega), List.getElem?_eq_none (by simp; omega)]
/-- .. and told as it was. -/
theorem plA_arrP (d : Nat) : ∀ p, chk d p = 0 → plA d (arrP d p) = tidyP d p := by
  induction d with
  | zero => intro p h; simp [chk] at h
  | succ d ih =>
    intro p h
    have hw := chk_well.1 h
    have hl := prodR_len hw.2.2.1
    rcases well_cases hw with f | f | f
    · obtain ⟨h1, h2, h3, h4, h5, h6, h7⟩ := numsV_spec (well_fin hw f) hl.2
      rw [arrP_zero f]
      simp only [plA, tidyP]
      rw [h5, h2]
      refine PA.ext rfl ?_ f.symm
      refine map_range_eq fun i x hx => ?_
      have hk := (hw.2.2.2 x (List.mem_of_getElem? hx)).1
      unfold itA tidyI
      rw [if_neg (by rw [h2]; decide), if_neg (by rw [h2]; decide), h1, atI_some (x := ze x.2.1) (by rw [List.getElem?_map, hx]; rfl), hk, f]
      simp
    · rw [arrP_one f]
      simp only [plA, tidyP, VV.len, VV.cls, List.length_map]
      refine PA.ext rfl ?_ f.symm
      refine map_range_eq fun i x hx => ?_
      have hk := (hw.2.2.2 x (List.mem_of_getElem? hx)).1
      unfold itA tidyI
      rw [if_pos (show VV.cls (VV.chars _) = 1 from rfl)]
      simp only [VV.text]
      rw [atI_some (x := x.2.2.1) (by rw [List.getElem?_map, hx]; rfl), hk, f]
      simp
    · rw [arrP_two f]
      simp only [plA, tidyP, VV.len, VV.cls, List.length_map]
      refine PA.ext rfl ?_ f.symm
      refine map_range_eq fun i x hx => ?_
      have hk := (hw.2.2.2 x (List.mem_of_getElem? hx)).1
      obtain ⟨q, _, e, hc⟩ := well_box hw f (List.mem_of_getElem? hx)
      unfold itA tidyI
      rw [if_neg (show ¬ VV.cls (VV.boxes _) = 1 by simp [VV.cls]), if_pos (show VV.cls (VV.boxes _) = 2 from rfl)]
      simp only [VV.boxs]
      rw [atI_some (x := arrP d q) (by rw [List.getElem?_map, hx]; simp [e]), ih q hc, hk, f, e]
      simp
theorem arrP_len {d : Nat} {p : PA} (h : chk d p = 0) : (arrP d p).2.len = p.l.length ∧ (arrP d p).2.cls = p.f ∧ (arrP d p).1 = p.s := by
  obtain ⟨d, rfl⟩ := chk_pos h
  have hw := chk_well.1 h
  have hl := prodR_len hw.2.2.1
  rcases well_cases hw with f | f | f
  · obtain ⟨h1, h2, h3, h4, h5, _⟩ := numsV_spec (well_fin hw f) hl.2
    rw [arrP_zero f]; exact ⟨h5, h2.trans f.symm, rfl⟩
  · rw [arrP_one f]; exact ⟨by simp [VV.len], f.symm, rfl⟩
  · rw [arrP_two f]; exact ⟨by simp [VV.len], f.symm, rfl⟩
end Go.Proofs.YtbfcdpabjailcaaGreatDoor

/- Package value's law: awake. -/
namespace Go.Proofs.YtbfcdpabjailcaaGreatDoor
open Go.RowKit Fl
set_option linter.unusedVariables false
set_option maxRecDepth 100000

end Go.Proofs.YtbfcdpabjailcaaGreatDoor

/- Package value's laws: Of; a region parted by what holds behind it. -/
namespace Go.Proofs.YtbfcdpabjailcaaGreatDoor
open Go.RowKit Fl
set_option linter.unusedVariables false
set_option maxRecDepth 100000

/-- What holds behind a piece of code. -/
theorem At2.put2 {w : World} {b : Nat} {u v : Value} (h : At2 w b u v) (x y : Value) : At2 ((w.setCell ⟨b, 0, none⟩ x).setCell ⟨b, 1, none⟩ y) b x y := by
  have e1 : (w.setCell ⟨b, 0, none⟩ x).cell? ⟨b, 1, none⟩ = some v := (World.cell?_setCell_other _ _ _ _ (by simp)).trans h.2.2.1
  exact ⟨by simpa using h.1, (World.cell?_setCell_other _ _ _ _ (by simp)).trans (World.cell?_setCell_same _ _ _ h.2.1), World.cell?_setCell_same _ _ _ e1, fun o => by simpa using h.2.2.2 o⟩
theorem At3.put3 {w : World} {b : Nat} {u v t : Value} (h : At3 w b u v t) (x y z : Value) : At3 (((w.setCell ⟨b, 0, none⟩ x).setCell ⟨b, 1, none⟩ y).setCell ⟨b, 2, none⟩ z) b x y z := ((h.set0 x).set1 y).set2 z
def ArrNew (A : List Int × VV) (w : World) (e : Ending) (w' : World) : Prop := ∃ so sc u, e = .returned (.agg #[.slice so A.1.length sc, u]) ∧ IsArr w' (fun b => w.heap.size ≤ b) (.slice so A.1.length sc) u A ∧ Below w.heap.size w w'

set_option maxHeartbeats 4000000 in
theorem lof_calls (ok : Nat → Prop) (p : PA) (u : Value) (n : Nat) (w : World) (hl : lo n p) (hp : IsP w ok u p) (hT : TabAt w) (hc : chk 40 p = 0) : Calls Tryz.prog 6 #[u] w (ArrNew (arrP 40 p) w) := by
  have HP := Lib.hid hp
  obtain ⟨so, sc, io, ic, rfl, hs, hit⟩ := hp.opened
  obtain ⟨W1, hW1⟩ : ∃ W1, W1 = (w.alloc (.cells #[.slice so p.s.length sc, .slice io p.l.length ic, .int .i64 p.f] 25)).alloc (.cells #[.slice none 0 0, .nilIface] 31) := ⟨_, rfl⟩
  have HA := Lib.hid (show At3 W1 w.heap.size (.slice so p.s.length sc) (.slice io p.l.length ic) (.int .i64 p.f) by rw [hW1]; exact (At3.new w _ _ _ _).below (below_new _ _))
  have HR := Lib.hid (show At2 W1 (w.heap.size + 1) (.slice none 0 0) .nilIface by rw [hW1]; have := At2.new (w.alloc (.cells #[.slice so p.s.length sc, .slice io p.l.length ic, .int .i64 p.f] 25)) (.slice none 0 0) .nilIface 31; simpa using this)
  have HB1 := Lib.hid (show Below w.heap.size w W1 by rw [hW1]; exact (below_new _ _).alloc (by simp) _)
  have HZ := Lib.hid (show w.heap.size + 1 < W1.heap.size by rw [hW1]; simp)
  have HQ := Lib.hid (of_calls ok p _ n W1 hl (HP.out.grow HB1.out) (fun j hj => keep_below HB1.out _ _ (hT j hj)))
  obtain ⟨A, hA⟩ : ∃ A, A = arrP 40 p := ⟨_, rfl⟩
  rw [hc, ← hA] at HQ
  rw [← hA]
  obtain ⟨_, a0, a1, a2, _⟩ := HA.out
  have hfold := hW1.symm
  clear hs hit hp hl hT hW1 hc hA
  go_enter Tryz.func6, Tryz.ntmps6
  go_wp2_with fail
  refine HQ.out.mono ?_
  rintro e w2 ⟨sh, u, rfl, hy, _, hB2⟩
  obtain ⟨hs1, hv1⟩ := hy rfl
  obtain ⟨so1, sc1, rfl, _⟩ := hs1.opened
  have hsx := hv1.store
  obtain ⟨W3, hW3⟩ : ∃ W3, W3 = w2.alloc (.cells #[.slice so1 A.1.length sc1, u] 31) := ⟨_, rfl⟩
  have HN := Lib.hid (show Below w2.heap.size w2 W3 by rw [hW3]; exact below_new _ _)
  have HAR := Lib.hid (show IsArr W3 (fun b => W1.heap.size ≤ b) (.slice so1 A.1.length sc1) u A from IsArr.grow ⟨hs1, hv1⟩ HN.out)
  have HV := Lib.hid (show At2 W3 w2.heap.size (.slice so1 A.1.length sc1) u by rw [hW3]; exact At2.new _ _ _ _)
  have HB3 := Lib.hid ((HB1.out.trans (hB2.mono HB1.out.size)).trans (HN.out.mono (Nat.le_trans HB1.out.size hB2.size)))
  obtain ⟨_, r0, r1, rf⟩ := (HR.out.below hB2).below HN.out
  have rf0 := rf 0
  have rf1 := rf 1
  obtain ⟨_, v0, v1, _⟩ := HV.out
  have HFW := Lib.hid hW3.symm
  clear hy hs1 hv1 hfold a0 a1 a2 hB2 hW3 rf
  have hfold := HFW.out
  go_wp2_with fail
  refine bodyPost_ret (v := .agg #[.slice so1 A.1.length sc1, u]) (by simp [results, Tryz.results6, go_sem, r0, r1]) rfl ⟨_, _, _, rfl, ?_, (HB3.out.setCell (Nat.le_succ _) _).setCell (Nat.le_succ _) _⟩
  exact HAR.out.keep ((Kept.setCell _ _ _ (by have := HZ.out; simp <;> omega)).trans (Kept.setCell _ _ _ (by have := HZ.out; simp <;> omega))) (fun b _ (h : W1.heap.size ≤ b) => by have := HZ.out; omega)
end Go.Proofs.YtbfcdpabjailcaaGreatDoor

/- Package value, walked: Num, Char, Box, List. -/
namespace Go.Proofs.YtbfcdpabjailcaaGreatDoor
open Go.RowKit Fl
set_option linter.unusedVariables false
set_option maxRecDepth 100000

theorem alone_new2 {w w2 : World} {u : Value} {V : VV} (b : Nat) (hb : w.heap.size ≤ b) (hv : IsV w2 (V.nb (fun c => b < c)) u V) (hB : Below w.heap.size w w2) :
    IsArr ((w2.setCell ⟨b, 0, none⟩ (.slice none 0 0)).setCell ⟨b, 1, none⟩ u) (fun c => w.heap.size ≤ c) (.slice none 0 0) u ([], V) ∧ Below w.heap.size w ((w2.setCell ⟨b, 0, none⟩ (.slice none 0 0)).setCell ⟨b, 1, none⟩ u) :=
  ⟨IsArr.keep (ok := fun c => b < c) ((Kept.setCell _ _ _ (by simp)).trans (Kept.setCell _ _ _ (by simp))) (fun c _ (h : b < c) => by omega) ⟨Slc.nil _ _, hv⟩, (hB.setCell hb _).setCell hb _⟩

theorem valNum_yes (x : Nat) (w : World) (hx : Fnt x) (hT : TabAt w) : Calls Tryz.prog 29 #[.float .f64 x] w (fun e w' => ∃ u, e = .returned (.tuple #[.agg #[.slice none 0 0, u], .bool true]) ∧ IsArr w' (fun b => w.heap.size ≤ b) (.slice none 0 0) u ([], (VV.floats [ze x]).sq) ∧ Below w.heap.size w w') := by
  obtain ⟨W1, hW1⟩ : ∃ W1, W1 = (w.alloc (.cells #[.slice none 0 0, .nilIface] 31)).alloc (.cells #[.float .f64 x] 38) := ⟨_, rfl⟩
  have HB1 := Lib.hid (show Below w.heap.size w W1 by rw [hW1]; exact (below_new _ _).alloc (by simp) _)
  have HR := Lib.hid (show At2 W1 w.heap.size (.slice none 0 0) .nilIface by rw [hW1]; exact (At2.new w _ _ _).below (below_new _ _))
  have HZ := Lib.hid (show W1.heap.size = w.heap.size + 2 by rw [hW1]; simp)
  have HS := Lib.hid (show Slc W1 (fun _ => True) (.slice (some ⟨w.heap.size + 1, 0, none⟩) 1 1) 1 (f64s [x]) by
    have h1 := World.ownsRow_lit (base := w.heap.size + 1) (e := 38) (size := 1) (w.alloc (.cells #[.slice none 0 0, .nilIface] 31)) #[.float .f64 x] 1 (by simp) (by unfold maxLen; omega) rfl
    rw [World.size_alloc] at h1
    rw [hW1]; exact (Slc.owned h1).any)
  have HF := Lib.hid (show ∀ y ∈ [x], Fnt y by simpa using hx)
  have HT := Lib.hid (show TabAt W1 from fun j hj => keep_below HB1.out _ _ (hT j hj))
  have hfold := hW1.symm
  clear hW1 hx hT
  go_enter Tryz.func29, Tryz.ntmps29
  go_wp2_with fail
  refine (numbers_yes _ [x] W1 HS.out (by simp) HF.out HT.out).mono ?_
  rintro e w2 ⟨u, rfl, hv, hB⟩
  obtain ⟨W3, hW3⟩ : ∃ W3, W3 = w2.alloc (.cells #[u] 29) := ⟨_, rfl⟩
  have HN := Lib.hid (show Below w2.heap.size w2 W3 by rw [hW3]; exact below_new _ _)
  have HA1 := Lib.hid (show At1 W3 w2.heap.size u by rw [hW3]; exact At1.new _ _ _)
  have HB := Lib.hid ((HB1.out.trans (hB.mono HB1.out.size)).trans (HN.out.mono (Nat.le_trans HB1.out.size hB.size)))
  obtain ⟨_, r0, r1, rf⟩ := (HR.out.below hB).below HN.out
  have rf0 := rf 0
  have rf1 := rf 1
  have a0 := HA1.out.2.1
  have hfold3 := hW3.symm
  have HV := Lib.hid (hv.grow HN.out)
  have hsx := hv.store
  clear hv hB hfold rf hW3
  go_wp2_with fail
  refine bodyPost_ret (v := .tuple #[.agg #[.slice none 0 0, u], .bool true]) (by simp [results, Tryz.results29, go_sem, r0, r1]) rfl ⟨u, rfl, ?_⟩
  exact alone_new2 _ (Nat.le_refl _) (HV.out.wide (fun b _ (h : W1.heap.size ≤ b) => by have := HZ.out; show w.heap.size < b; omega)) HB.out

end Go.Proofs.YtbfcdpabjailcaaGreatDoor

/- The reference's Num. -/
namespace Go.Proofs.YtbfcdpabjailcaaGreatDoor
open Go.RowKit Fl
set_option linter.unusedVariables false
set_option maxRecDepth 100000

/-- A plain array of one number and no axes. -/
def numP (x : Nat) : PA := .mk [] [(0, x, 0, [])] 0
theorem rNum_calls (x : Nat) (w : World) : Calls Tryz.prog 12 #[.float .f64 x] w (fun e w' => ∃ u, e = .returned u ∧ IsP w' (fun b => w.heap.size ≤ b) u (numP x) ∧ Below w.heap.size w w') := by
  obtain ⟨it, hit⟩ : ∃ it : Value, it = .slice (some ⟨w.heap.size + 1, 0, none⟩) 1 1 := ⟨_, rfl⟩
  obtain ⟨W1, hW1⟩ : ∃ W1, W1 = (w.alloc (.cells #[.slice none 0 0, .slice (some ⟨w.heap.size + 1, 0, none⟩) 1 1, .int .i64 0] 25)).alloc (.cells #[.int .i64 0, .float .f64 x, .int .i32 0, .slice none 0 0] 48) := ⟨_, rfl⟩
  have HB1 := Lib.hid (show Below w.heap.size w W1 by rw [hW1]; exact (below_new _ _).alloc (by simp) _)
  have HR := Lib.hid (show At3 W1 w.heap.size (.slice none 0 0) (.slice (some ⟨w.heap.size + 1, 0, none⟩) 1 1) (.int .i64 0) by rw [hW1]; exact (At3.new w _ _ _ _).below (below_new _ _))
  have HC := Lib.hid (show ∀ j u, [Value.int .i64 0, .float .f64 x, .int .i32 0, .slice none 0 0][j]? = some u → W1.cell? ((⟨w.heap.size + 1, 0, none⟩ : Addr).add j) = some u by
    have := cell_four_new (w.alloc (.cells #[.slice none 0 0, .slice (some ⟨w.heap.size + 1, 0, none⟩) 1 1, .int .i64 0] 25)) (.int .i64 0) (.float .f64 x) (.int .i32 0) (.slice none 0 0) 48
    rw [World.size_alloc] at this
    rw [hW1]; exact this)
  have HF := Lib.hid hW1
  clear hW1
  go_enter Tryz.func12, Tryz.ntmps12
  go_wp2_with fail
  rw [← HF.out]
  obtain ⟨_, r0, r1, r2, _⟩ := HR.out
  refine bodyPost_ret (v := .agg #[.slice none 0 0, .slice (some ⟨w.heap.size + 1, 0, none⟩) 1 1, .int .i64 0]) (by simp [results, Tryz.results12, go_sem, r0, r1, r2]) rfl ⟨_, rfl, ?_, HB1.out⟩
  refine IsP.of (Slc.nil _ _) ⟨_, _, fun _ => .slice none 0 0, rfl, Nat.le_refl _, by unfold maxLen; omega, fun i x hx => ?_, fun i x hx => ?_⟩
  · obtain ⟨rfl, rfl⟩ : i = 0 ∧ x = ((0, _, 0, []) : PI) := by
      cases i with
      | zero => exact ⟨rfl, by simpa [numP, eq_comm] using hx⟩
      | succ i => simp at hx
    exact ⟨_, _, rfl, Nat.le_succ _, HC.out 0 _ rfl, HC.out 1 _ rfl, HC.out 2 _ rfl, HC.out 3 _ rfl⟩
  · obtain ⟨rfl, rfl⟩ : i = 0 ∧ x = ((0, _, 0, []) : PI) := by
      cases i with
      | zero => exact ⟨rfl, by simpa [numP, eq_comm] using hx⟩
      | succ i => simp at hx
    exact IsB.nil _ _
end Go.Proofs.YtbfcdpabjailcaaGreatDoor

/- The reference's Nums. -/
namespace Go.Proofs.YtbfcdpabjailcaaGreatDoor
open Go.RowKit Fl
set_option linter.unusedVariables false
set_option maxRecDepth 100000

def numI (x : Nat) : PI := (0, x, 0, [])
/-- A plain array of numbers, of one axis. -/
def numsP (l : List Nat) : PA := .mk [(l.length : Int)] (l.map numI) 0
def NRel (w : World) (n : Int) (B : Nat) (k : Nat) (v : Value) (L : List QI) (l : List PI) (wr : World) : Prop :=
  wr.ownsRow B 48 4 v k (flatI L) ∧ Quad wr (fun b => B ≤ b ∧ v.ownBlock ≠ some b) L l ∧ At3 wr w.heap.size (.slice none 0 0) (.slice none 0 0) (.int .i64 0) ∧ At3 wr (w.heap.size + 1 + 1) (.slice (some ⟨w.heap.size + 1, 0, none⟩) 1 1) v (.int .i64 0) ∧ Slc wr (fun b => b = w.heap.size + 1) (.slice (some ⟨w.heap.size + 1, 0, none⟩) 1 1) 1 (ints [n]) ∧ Below w.heap.size w wr
theorem NRel.step {w wr W4 w5 : World} {B k : Nat} {n : Int} {v v' : Value} {L : List QI} {l : List PI} {x : Nat} (h : NRel w n B k v L l wr) (hB : w.heap.size + 1 + 1 < B) (hr4 : Below wr.heap.size wr W4)
    (hown : w5.ownsRow B 48 4 v' (k + 1) (flatI L ++ quadV (0, x, 0, .slice none 0 0))) (hg : W4.grownBy w5 v.ownBlock)
    (hk : ∀ j, v'.ownBlock = some j → v.ownBlock = some j ∨ W4.heap.size ≤ j) : NRel w n B (k + 1) v' (L ++ [(0, x, 0, .slice none 0 0)]) (l ++ [numI x]) (w5.setCell ⟨w.heap.size + 1 + 1, 1, none⟩ v') := by
  obtain ⟨h1, h2, h4, h6, h5, h7⟩ := h
  have hsz : w.heap.size ≤ wr.heap.size := h7.size
  have hnot : ∀ b, b < B → some b ≠ v.ownBlock := fun b hb e => by have := (h1.lt b e.symm).1; omega
  have hA : ∀ {b : Nat} {x y z : Value}, b < B → At3 wr b x y z → At3 w5 b x y z := fun hb ha => (ha.below hr4).grown hg (hnot _ hb)
  refine ⟨?_, ?_, ?_, ?_, ?_, ?_⟩
  · rw [flatI_snoc]
    exact ownsRow_setCell_below hown (by show w.heap.size + 1 + 1 < B; omega) _
  · refine Quad.keep (w := w5) (ok := fun b => B ≤ b ∧ v'.ownBlock ≠ some b) (Kept.setCell _ _ _ (by
      rintro ⟨h, _⟩
      simp at h; omega)) (fun b _ h => h) ?_
    refine Quad.keep (w := wr) (ok := fun b => B ≤ b ∧ v.ownBlock ≠ some b) (Kept.trans (Kept.below hr4) (Kept.grown hg (fun b hb e => hb.2 e.symm))) (fun b hb ho => ⟨ho.1, fun e => ?_⟩) (h2.snoc (x := numI x) (IsB.nil _ _))
    rcases hk b e with e2 | e2
    · exact ho.2 e2
    · have := hr4.size; omega
  · exact (hA (by omega) h4).other _ (by simp; omega) _
  · exact (hA (by omega) h6).set1 _
  · exact h5.keep (Kept.trans (Kept.trans (Kept.below hr4) (Kept.grown hg (fun b hb e => hnot b (by omega) e))) (Kept.setCell _ _ _ (by simp))) (fun _ _ h => h)
  · refine Below.setCell ?_ (by show w.heap.size ≤ w.heap.size + 1 + 1; omega) _
    exact (h7.trans (hr4.mono hsz)).grown hg (by have := hr4.size; omega) (fun j hj => by have := (h1.lt j hj).1; omega)

set_option maxHeartbeats 4000000 in
theorem rNums_calls {ok : Nat → Prop} (v : Value) (l : List Nat) (w : World) (hv : Slc w ok v l.length (f64s l)) (hm : l.length ≤ 100000) : Calls Tryz.prog 19 #[v] w (fun e w' => ∃ u, e = .returned u ∧ IsP w' (fun b => w.heap.size ≤ b) u (numsP l) ∧ Below w.heap.size w w') := by
  have HV := Lib.hid hv.lt
  obtain ⟨ao0, cap0, rfl, hc0, hc1, _⟩ := hv.opened
  unfold maxLen at hc1
  obtain ⟨i0, hi, hz0, hz1, hz2⟩ := info_parts info_item
  have HI0 := Lib.hid (And.intro hi (And.intro hz0 (And.intro hz1 hz2)))
  clear hi hz0 hz1 hz2 hv
  obtain ⟨W1, hW1⟩ : ∃ W1, W1 = ((w.alloc (.cells #[.slice none 0 0, .slice none 0 0, .int .i64 0] 25)).alloc (.cells #[.int .i64 (l.length : Int)] 3)).alloc (.cells #[.slice (some ⟨w.heap.size + 1, 0, none⟩) 1 1, .slice none 0 0, .int .i64 0] 25) := ⟨_, rfl⟩
  have HSW1 := Lib.hid (show w.heap.size + 1 + 1 < W1.heap.size by rw [hW1]; simp)
  have HR0 := Lib.hid (show NRel w l.length W1.heap.size 0 (.slice none 0 0) [] [] W1 by
    refine ⟨World.ownsRow_nil _ _ _ _, Quad.nil _ _, ?_, ?_, ?_, ?_⟩
    · rw [hW1]; exact ((At3.new w _ _ _ _).below (below_new _ _)).below (below_new _ _)
    · rw [hW1]; have := At3.new ((w.alloc (.cells #[.slice none 0 0, .slice none 0 0, .int .i64 0] 25)).alloc (.cells #[.int .i64 (l.length : Int)] 3)) (.slice (some ⟨w.heap.size + 1, 0, none⟩) 1 1) (.slice none 0 0) (.int .i64 0) 25; simpa using this
    · rw [hW1]
      have h1 := World.ownsRow_lit (base := w.heap.size + 1) (e := 3) (size := 1) (w.alloc (.cells #[.slice none 0 0, .slice none 0 0, .int .i64 0] 25)) #[.int .i64 (l.length : Int)] 1 (by simp) (by unfold maxLen; omega) rfl
      rw [World.size_alloc] at h1
      have h2 := Slc.owned h1
      have h3 := h2.ltw
      exact (h3.below (below_new _ _)).keep (Kept.refl _ _) (fun b _ h => by have := h.1; have := h.2; simp at this; omega)
    · rw [hW1]; exact (((Below.refl _ _).alloc (Nat.le_refl _) _).alloc (by simp) _).alloc (by simp; omega) _)
  go_enter Tryz.func19, Tryz.ntmps19
  go_wp2_with fail
  rw [← hW1]
  clear hW1
  go_loopw [4] (fun i wr => ∃ (k : Nat) (V : Value) (L : List QI), k ≤ l.length ∧ i = .int .i64 k ∧ NRel w l.length W1.heap.size k V L ((l.take k).map numI) wr ∧ W1.heap.size ≤ wr.heap.size) (fun i _ => l.length - (intOf i).toNat)
  case atStart => exact ⟨0, _, _, by omega, rfl, by simpa using HR0.out, Nat.le_refl _⟩
  case round =>
    obtain ⟨k, V, L, hk, rfl, hR, hSW⟩ := hrel
    obtain ⟨ao, cap, rfl⟩ := owns_form hR.1
    have HR := Lib.hid hR
    have HSW := Lib.hid hSW
    obtain ⟨_, o0, o1, o2, of⟩ := hR.2.2.2.1
    have HBr := Lib.hid hR.2.2.2.2.2
    clear hR
    by_cases hlt : k < l.length
    · have hx := List.getElem?_eq_getElem hlt
      obtain ⟨x, hxx⟩ : ∃ x, x = l[k] := ⟨_, rfl⟩
      rw [← hxx] at hx
      clear hxx
      have HX := Lib.hid hx
      obtain ⟨b, off, cap1, x1, e, hx1, c0⟩ := Slc.at_map (Value.float .f64) (HV.out.below HBr.out) k hlt
      obtain rfl : x = x1 := Option.some.inj (hx.symm.trans hx1)
      cases e
      clear hx hx1
      have HB4 := Lib.hid (show Below wr.heap.size wr (wr.drew.alloc (.cells #[.int .i64 0, .float .f64 x, .int .i32 0, .slice none 0 0] 48)) from (Below.drewN' (Below.refl _ _) 1).alloc (Nat.le_refl _) _)
      have HO4 := Lib.hid (show (wr.drew.alloc (.cells #[.int .i64 0, .float .f64 x, .int .i32 0, .slice none 0 0] 48)).ownsRow W1.heap.size 48 4 (.slice ao k cap) k (flatI L) from owns_below2 HR.out.1 HB4.out)
      have HN4 := Lib.hid (show ∀ j u, (quadV (0, x, 0, .slice none 0 0))[j]? = some u → (wr.drew.alloc (.cells #[.int .i64 0, .float .f64 x, .int .i32 0, .slice none 0 0] 48)).cell? ((⟨wr.heap.size, 0, none⟩ : Addr).add j) = some u from cell_four_new wr.drew _ _ _ _ _)
      have HSZ := Lib.hid (show W1.heap.size ≤ (wr.drew.alloc (.cells #[.int .i64 0, .float .f64 x, .int .i32 0, .slice none 0 0] 48)).heap.size from Nat.le_trans HSW.out HB4.out.size)
      have HON := Lib.hid (show ∀ u ∈ quadV (0, x, 0, .slice none 0 0), u.oneCell' = true by intro u hu; simp [quadV] at hu; rcases hu with rfl | rfl | rfl | rfl <;> rfl)
      have HM1 : Hid (k + 1 ≤ maxLen) := Lib.hid (by unfold maxLen; omega)
      have HM2 : Hid ((k + 1) * 48 ≤ 140737488355328) := Lib.hid (by omega)
      have HAo := Lib.hid (HR.out.2.2.2.1.below HB4.out)
      go_wp2_with fail
      go_region_law ((refine step_append_blk rfl _ _ 23 rfl W1.heap.size 48 i0 _ 4 48 Tryz.underlying23 HI0.out.1 HI0.out.2.1 HI0.out.2.2.1 HI0.out.2.2.2 rfl (by decide) _ k (flatI L) rfl HO4.out ⟨wr.heap.size, 0, none⟩ 1 1 (quadV (0, x, 0, .slice none 0 0)) rfl rfl HN4.out HON.out HM1.out HM2.out HSZ.out ?_; intro v' w5 hown hgrow hblk; obtain ⟨ao', cap', rfl⟩ := owns_form hown; have HS5 := Lib.hid (HR.out.step HSW1.out HB4.out hown hgrow hblk); have HAo5 := Lib.hid (HAo.out.grown hgrow (by intro e; have := (HO4.out.lt _ e.symm).1; have := HSW1.out; omega)); have HZ5 := Lib.hid (show W1.heap.size ≤ w5.heap.size from Nat.le_trans HSZ.out hgrow.size); have r1 := HAo5.out.2.2.1; have r3 := HAo5.out.2.2.2.2 1; clear hown hgrow hblk))
      all_goals
        go_wp2
        go_roundw
        case rel =>
          refine ⟨k + 1, .slice ao' (k + 1) cap', L ++ [(0, x, 0, .slice none 0 0)], by omega, by go_num, ?_, by simpa using HZ5.out⟩
          rw [ptake HX.out, List.map_append, List.map_cons, List.map_nil]
          exact HS5.out
        case measure => simp [intOf]; omega
    · have hkl : k = l.length := by omega
      have HTK := Lib.hid (show (l.take k).map numI = l.map numI by rw [hkl, List.take_length])
      rw [HTK.out] at HR
      have HFIN := Lib.hid (plain_done (s := [(l.length : Int)]) (f := 0) (r := w.heap.size) (ok := fun b => w.heap.size + 1 ≤ b) (HR.out.2.2.2.2.1.keep (Kept.refl _ _) (fun b _ (h : b = w.heap.size + 1) => by omega)) ((Its.of_own (ok := fun b => W1.heap.size ≤ b) HR.out.1 (HR.out.2.1.keep (Kept.refl _ _) (fun b _ h => h.1))).wide (fun b _ h => by
        have := HSW1.out
        rcases h with h | h <;> omega)) (by omega))
      have HBF := Lib.hid (show ∀ x y z, Below w.heap.size w (((wr.setCell ⟨w.heap.size, 0, none⟩ x).setCell ⟨w.heap.size, 1, none⟩ y).setCell ⟨w.heap.size, 2, none⟩ z) from fun x y z => ((HBr.out.setCell (Nat.le_refl _) _).setCell (Nat.le_refl _) _).setCell (Nat.le_refl _) _)
      obtain ⟨_, r0, r1, r2, rf⟩ := HR.out.2.2.1
      have rf0 := rf 0
      have rf1 := rf 1
      have rf2 := rf 2
      clear hkl rf
      go_wp2_with fail
      refine bodyPost_ret (v := .agg #[.slice (some ⟨w.heap.size + 1, 0, none⟩) 1 1, .slice ao k cap, .int .i64 0]) (by simp [results, Tryz.results19, go_sem, r0, r1, r2]) rfl ⟨_, rfl, ?_, HBF.out _ _ _⟩
      exact (HFIN.out _ _ _).wide (fun b _ h => by omega)
end Go.Proofs.YtbfcdpabjailcaaGreatDoor

/- Plain arrays of one element, and of numbers: what is wrong with them, their arrays, tidied. -/
namespace Go.Proofs.YtbfcdpabjailcaaGreatDoor
open Go.RowKit Fl
set_option linter.unusedVariables false
set_option maxRecDepth 100000

theorem nums_prod (l : List Nat) (hl : l.length ≤ 1048576) : prodR [(l.length : Int)] 1048576 = ((l.length : Int), 0) := by
  have hn : anyN [(l.length : Int)] = false := by simp [anyN]
  by_cases h0 : l.length = 0
  · rw [prodR_fit (by simp) hn (by simp [nzp, h0])]
    simp [anyZ, h0]
  · have hz : nzp [(l.length : Int)] = l.length := by simp [nzp]; intro h; exact absurd (by simp [h]) h0
    have ha : anyZ [(l.length : Int)] = false := by simp [anyZ]; intro h; exact h0 (by simp [h])
    rw [prodR_fit (by simp) hn (by rw [hz]; omega), if_neg (by rw [ha, if_neg (by simp), hz]; omega), ha, if_neg (by simp), hz]
/-- A list of one item that a call makes. -/
theorem Its.one {w : World} {ok : Nat → Prop} (x : PI) {bx : Value} (hb : IsB w ok bx x.2.2.2) : Its (w.alloc (.cells #[.int .i64 x.1, .float .f64 x.2.1, .int .i32 x.2.2.1, bx] 48)) (fun b => ok b ∨ w.heap.size ≤ b) (.slice (some ⟨w.heap.size, 0, none⟩) 1 1) [x] := by
  have hc := cell_four_new w (.int .i64 x.1) (.float .f64 x.2.1) (.int .i32 x.2.2.1) bx 48
  refine ⟨_, _, fun _ => bx, rfl, Nat.le_refl _, by unfold maxLen; omega, fun i y hy => ?_, fun i y hy => ?_⟩
  · cases i with
    | succ i => simp at hy
    | zero =>
      obtain rfl : x = y := by simpa using hy
      exact ⟨_, _, rfl, Or.inr (Nat.le_refl _), hc 0 _ rfl, hc 1 _ rfl, hc 2 _ rfl, hc 3 _ rfl⟩
  · cases i with
    | succ i => simp at hy
    | zero =>
      obtain rfl : x = y := by simpa using hy
      exact (hb.grow (below_new _ _)).wide (fun b _ h => Or.inl h)
end Go.Proofs.YtbfcdpabjailcaaGreatDoor

/- Package value, walked: List. -/
namespace Go.Proofs.YtbfcdpabjailcaaGreatDoor
open Go.RowKit Fl
set_option linter.unusedVariables false
set_option maxRecDepth 100000

set_option maxHeartbeats 4000000 in
theorem valList_calls {ok : Nat → Prop} (u : Value) (V : VV) (w : World) (hv : IsV w ok u V) (hok : V.ok) (hn : V.nm) (hT : TabAt w) :
    Calls Tryz.prog 28 #[.agg #[u]] w (fun e w' => ∃ so sc u', e = .returned (.agg #[.slice so 1 sc, u']) ∧ IsArr w' (fun b => (ok b ∧ b < w.heap.size) ∨ w.heap.size ≤ b) (.slice so 1 sc) u' ([(V.len : Int)], V.sq) ∧ Below w.heap.size w w') := by
  obtain ⟨W1, hW1⟩ : ∃ W1, W1 = (w.alloc (.cells #[u] 29)).alloc (.cells #[.slice none 0 0, .nilIface] 31) := ⟨_, rfl⟩
  have HB := Lib.hid (show Below w.heap.size w W1 by rw [hW1]; exact (below_new _ _).alloc (by simp) _)
  have HWW := Lib.hid (show W1.heap.size = w.heap.size + 2 by rw [hW1]; simp)
  have HU := Lib.hid (show At1 W1 w.heap.size u by rw [hW1]; exact (At1.new w _ _).below (below_new _ _))
  have HR := Lib.hid (show At2 W1 (w.heap.size + 1) (.slice none 0 0) .nilIface by rw [hW1]; have := At2.new (w.alloc (.cells #[u] 29)) (.slice none 0 0) .nilIface 31; simpa using this)
  have HV := Lib.hid (hv.keep (Kept.below HB.out) (ok' := fun b => ok b ∧ b < w.heap.size) (fun b h1 h2 => ⟨h2, h1⟩))
  have HT := Lib.hid (show TabAt W1 from fun j hj => keep_below HB.out _ _ (hT j hj))
  have HOK := Lib.hid hok
  have HNM := Lib.hid hn
  have hfold := hW1.symm
  clear hW1 hv hok hn hT
  go_enter Tryz.func28, Tryz.ntmps28
  go_wp2_with fail
  clear hfold
  have HS0 := Lib.hid (Nat.le_refl W1.heap.size)
  have HZ := Lib.hid (And.intro HB.out.size (Nat.le_refl W1.heap.size))
  obtain ⟨W11, hWD⟩ : ∃ xw9, W1.drew = xw9 := ⟨_, rfl⟩
  have hB : Below W1.heap.size W1 W11 := by rw [← hWD]; exact Below.drewN' (Below.refl _ _) 1
  replace HZ := Lib.hid (And.intro HZ.out hB.size)
  replace HU := Lib.hid (HU.out.below hB)
  replace HR := Lib.hid (HR.out.below hB)
  replace HB := Lib.hid (HB.out.trans (hB.mono HB.out.size))
  replace HV := Lib.hid (HV.out.grow hB)
  replace HT := Lib.hid (fun j hj => keep_below hB _ _ (HT.out j hj))
  clear hB
  refine wp_region_held_drew (S := fun w' => w'.cell? ⟨w.heap.size, 0, none⟩ = some u) (by kernel_rfl) (by rw [hWD]; exact HU.out.2.1) (fun hHeld => ?_)
  rw [hWD] at hHeld ⊢
  clear hWD
  refine wpAnyH_take (i := 0) (v := ?_) rfl (by kernel_rfl) (by kernel_rfl) (by kernel_rfl) (fun _ _ _ h => h) (Or.inl ⟨by rfl, ?_⟩) (by assumption) ?_
  rotate_left
  · (intro w hSw; (try dsimp only at hSw); go_simp; try with_reducible rfl)
  simp only [Act.put, List.getElem_toArray, List.getElem_cons_zero, List.setIfInBounds_toArray, List.set_cons_zero, List.set_cons_succ]
  refine wpAnyH_take (i := 3) (v := ?_) rfl (by kernel_rfl) (by kernel_rfl) (by kernel_rfl) (fun _ _ _ h => h) (Or.inl ⟨by rfl, ?_⟩) (by assumption) ?_
  rotate_left
  · (intro w hSw; (try dsimp only at hSw); go_simp; try with_reducible rfl)
  simp only [Act.put, List.getElem_toArray, List.getElem_cons_succ, List.getElem_cons_zero, List.setIfInBounds_toArray, List.set_cons_zero, List.set_cons_succ]
  refine wpAnyH_ready (rs := [1]) (by kernel_rfl) (by simp) ?_
  refine AllReadyH.cons (o := _) rfl (fun K hK => ?_) ?_
  · clear hHeld
    go_simp
    refine (vlen_calls _ _ _ HV.out).mono ?_
    rintro e W12 ⟨rfl, hB⟩
    replace HZ := Lib.hid (And.intro HZ.out hB.size)
    replace HU := Lib.hid (HU.out.below hB)
    replace HR := Lib.hid (HR.out.below hB)
    replace HB := Lib.hid (HB.out.trans (hB.mono HB.out.size))
    replace HV := Lib.hid (HV.out.grow hB)
    replace HT := Lib.hid (fun j hj => keep_below hB _ _ (HT.out j hj))
    clear hB
    refine hK.out _ _ ?_ (fun hHeld => ?_)
    · exact HU.out.2.1
    clear hK K
    refine wpAnyH_ready (rs := [2, 4]) (by kernel_rfl) (by simp) ?_
    refine AllReadyH.cons (o := _) rfl (fun K hK => ?_) ?_
    · clear hHeld
      go_simp
      obtain ⟨W13, hWn⟩ : ∃ xw9, W12.alloc (.cells #[.int .i64 (V.len : Int)] 3) = xw9 := ⟨_, rfl⟩
      have hB : Below W12.heap.size W12 W13 := by rw [← hWn]; exact below_new _ _
      have hNB : Slc W13 (fun b => w.heap.size + 2 ≤ b) (.slice (some ⟨W12.heap.size, 0, none⟩) 1 1) 1 (ints [(V.len : Int)]) := by
        rw [← hWn]; exact Slc.owned (World.ownsRow_lit (base := w.heap.size + 2) (e := 3) (size := 1) W12 #[.int .i64 (V.len : Int)] 1 (by have := HWW.out; have := HZ.out; omega) (by unfold maxLen; omega) rfl)
      rw [hWn]
      clear hWn
      obtain ⟨bl, hnm⟩ : ∃ x, W12.heap.size = x := ⟨_, rfl⟩
      rw [hnm] at hNB ⊢
      replace HZ := Lib.hid (And.intro HZ.out (And.intro hnm hB.size))
      replace HU := Lib.hid (HU.out.below hB)
      replace HR := Lib.hid (HR.out.below hB)
      replace HB := Lib.hid (HB.out.trans (hB.mono HB.out.size))
      replace HV := Lib.hid (HV.out.grow hB)
      replace HT := Lib.hid (fun j hj => keep_below hB _ _ (HT.out j hj))
      have HL := Lib.hid hNB
      clear hNB hB hnm
      refine hK.out _ _ ?_ (fun hHeld => ?_)
      · exact HU.out.2.1
      clear hK K
      refine wpAnyH_ready (rs := [4]) (by kernel_rfl) (by simp) ?_
      refine AllReadyH.cons (o := _) rfl (fun K hK => ?_) ?_
      · clear hHeld
        go_simp
        refine (squeeze_calls _ V _ HV.out HOK.out HNM.out HT.out).mono ?_
        rintro e W14 ⟨u', rfl, hv', hB⟩
        replace HZ := Lib.hid (And.intro HZ.out hB.size)
        replace HU := Lib.hid (HU.out.below hB)
        replace HR := Lib.hid (HR.out.below hB)
        replace HB := Lib.hid (HB.out.trans (hB.mono HB.out.size))
        replace HV := Lib.hid (HV.out.grow hB)
        replace HT := Lib.hid (fun j hj => keep_below hB _ _ (HT.out j hj))
        replace HL := Lib.hid (HL.out.below hB)
        have HQ := Lib.hid (show IsV W14 (fun b => (ok b ∧ b < w.heap.size) ∨ w.heap.size + 2 ≤ b) u' V.sq from IsV.wide hv' (fun b _ h => h.imp id (fun h => by have := HWW.out; have := HZ.out; omega)))
        have hsx := hv'.store
        clear hv'
        clear hB
        refine hK.out _ _ ?_ (fun hHeld => ?_)
        · exact HU.out.2.1
        clear hK K
        refine wpAnyH_take (i := 5) (v := ?_) rfl (by kernel_rfl) (by kernel_rfl) (by kernel_rfl) (fun _ _ _ h => h) (Or.inl ⟨by rfl, ?_⟩) (by assumption) ?_
        rotate_left
        · (intro w hSw; (try dsimp only at hSw); go_simp; try with_reducible rfl)
        simp only [Act.put, List.getElem_toArray, List.getElem_cons_succ, List.getElem_cons_zero, List.setIfInBounds_toArray, List.set_cons_zero, List.set_cons_succ]
        refine wpAnyH_ready (rs := [6]) (by kernel_rfl) (by simp) ?_
        refine AllReadyH.cons (o := _) rfl (fun K hK => ?_) ?_
        · clear hHeld
          have s0 := HR.out.2.1
          have t0 := HR.out.2.2.2 0
          have s1 := HR.out.2.2.1
          have t1 := HR.out.2.2.2 1
          go_simp
          clear s0 t0 s1 t1
          obtain ⟨W15, hWn⟩ : ∃ xw9, ((W14.setCell ⟨w.heap.size + 1, 0, none⟩ (.slice (some ⟨bl, 0, none⟩) 1 1)).setCell ⟨w.heap.size + 1, 1, none⟩ u') = xw9 := ⟨_, rfl⟩
          rw [hWn]
          have hno : ¬ (w.heap.size + 2 ≤ w.heap.size + 1) := by omega
          have hno2 : ¬ ((ok (w.heap.size + 1) ∧ w.heap.size + 1 < w.heap.size) ∨ w.heap.size + 2 ≤ w.heap.size + 1) := by omega
          replace HR := Lib.hid (show At2 W15 (w.heap.size + 1) (.slice (some ⟨bl, 0, none⟩) 1 1) u' by rw [← hWn]; exact At2.put2 HR.out _ _)
          replace HU := Lib.hid (show At1 W15 w.heap.size u by rw [← hWn]; exact (HU.out.grown (grown_setCell _ ⟨w.heap.size + 1, 0, none⟩ _) (by simp)).grown (grown_setCell _ ⟨w.heap.size + 1, 1, none⟩ _) (by simp))
          replace HL := Lib.hid (show Slc W15 (fun b => w.heap.size + 2 ≤ b) (.slice (some ⟨bl, 0, none⟩) 1 1) 1 (ints [(V.len : Int)]) by rw [← hWn]; exact HL.out.keep ((Kept.setCell _ _ _ hno).trans (Kept.setCell _ _ _ hno)) (fun _ _ h => h))
          replace HQ := Lib.hid (show IsV W15 (fun b => (ok b ∧ b < w.heap.size) ∨ w.heap.size + 2 ≤ b) u' V.sq by rw [← hWn]; exact HQ.out.keep ((Kept.setCell _ _ _ hno2).trans (Kept.setCell _ _ _ hno2)) (fun _ _ h => h))
          replace HB := Lib.hid (show Below w.heap.size w W15 by rw [← hWn]; exact (HB.out.setCell (Nat.le_succ _) _).setCell (Nat.le_succ _) _)
          clear hWn hno hno2
          refine hK.out _ _ ?_ (fun hHeld => ?_)
          · exact HU.out.2.1
          clear hK K
          refine wpAnyH_done (by kernel_rfl) ?_ _
          clear hHeld
          have cHR0 := HR.out.2.1
          have cHR1 := HR.out.2.2.1
          have cHU0 := HU.out.2.1
          go_wp2_with fail
          refine bodyPost_ret (v := .agg #[.slice (some ⟨bl, 0, none⟩) 1 1, u']) (by simp [results, Tryz.results28, go_sem, cHR0, cHR1]) rfl ⟨_, _, u', rfl, ⟨?_, ?_⟩, HB.out⟩
          exact HL.out.keep (Kept.refl _ _) (fun b _ (h : w.heap.size + 2 ≤ b) => Or.inr (by omega))
          exact HQ.out.wide (fun b _ h => h.imp id (fun h => by omega))
        exact AllReadyH.nil
      exact AllReadyH.nil
    refine AllReadyH.cons (o := _) rfl (fun K hK => ?_) ?_
    · clear hHeld
      go_simp
      refine (squeeze_calls _ V _ HV.out HOK.out HNM.out HT.out).mono ?_
      rintro e W13 ⟨u', rfl, hv', hB⟩
      replace HZ := Lib.hid (And.intro HZ.out hB.size)
      replace HU := Lib.hid (HU.out.below hB)
      replace HR := Lib.hid (HR.out.below hB)
      replace HB := Lib.hid (HB.out.trans (hB.mono HB.out.size))
      replace HV := Lib.hid (HV.out.grow hB)
      replace HT := Lib.hid (fun j hj => keep_below hB _ _ (HT.out j hj))
      have HQ := Lib.hid (show IsV W13 (fun b => (ok b ∧ b < w.heap.size) ∨ w.heap.size + 2 ≤ b) u' V.sq from IsV.wide hv' (fun b _ h => h.imp id (fun h => by have := HWW.out; have := HZ.out; omega)))
      have hsx := hv'.store
      clear hv'
      clear hB
      refine hK.out _ _ ?_ (fun hHeld => ?_)
      · exact HU.out.2.1
      clear hK K
      refine wpAnyH_ready (rs := [2]) (by kernel_rfl) (by simp) ?_
      refine AllReadyH.cons (o := _) rfl (fun K hK => ?_) ?_
      · clear hHeld
        go_simp
        obtain ⟨W14, hWn⟩ : ∃ xw9, W13.alloc (.cells #[.int .i64 (V.len : Int)] 3) = xw9 := ⟨_, rfl⟩
        have hB : Below W13.heap.size W13 W14 := by rw [← hWn]; exact below_new _ _
        have hNB : Slc W14 (fun b => w.heap.size + 2 ≤ b) (.slice (some ⟨W13.heap.size, 0, none⟩) 1 1) 1 (ints [(V.len : Int)]) := by
          rw [← hWn]; exact Slc.owned (World.ownsRow_lit (base := w.heap.size + 2) (e := 3) (size := 1) W13 #[.int .i64 (V.len : Int)] 1 (by have := HWW.out; have := HZ.out; omega) (by unfold maxLen; omega) rfl)
        rw [hWn]
        clear hWn
        obtain ⟨bl, hnm⟩ : ∃ x, W13.heap.size = x := ⟨_, rfl⟩
        rw [hnm] at hNB ⊢
        replace HZ := Lib.hid (And.intro HZ.out (And.intro hnm hB.size))
        replace HU := Lib.hid (HU.out.below hB)
        replace HR := Lib.hid (HR.out.below hB)
        replace HB := Lib.hid (HB.out.trans (hB.mono HB.out.size))
        replace HV := Lib.hid (HV.out.grow hB)
        replace HT := Lib.hid (fun j hj => keep_below hB _ _ (HT.out j hj))
        replace HQ := Lib.hid (HQ.out.grow hB)
        have HL := Lib.hid hNB
        clear hNB hB hnm
        refine hK.out _ _ ?_ (fun hHeld => ?_)
        · exact HU.out.2.1
        clear hK K
        refine wpAnyH_take (i := 5) (v := ?_) rfl (by kernel_rfl) (by kernel_rfl) (by kernel_rfl) (fun _ _ _ h => h) (Or.inl ⟨by rfl, ?_⟩) (by assumption) ?_
        rotate_left
        · (intro w hSw; (try dsimp only at hSw); go_simp; try with_reducible rfl)
        simp only [Act.put, List.getElem_toArray, List.getElem_cons_succ, List.getElem_cons_zero, List.setIfInBounds_toArray, List.set_cons_zero, List.set_cons_succ]
        refine wpAnyH_ready (rs := [6]) (by kernel_rfl) (by simp) ?_
        refine AllReadyH.cons (o := _) rfl (fun K hK => ?_) ?_
        · clear hHeld
          have s0 := HR.out.2.1
          have t0 := HR.out.2.2.2 0
          have s1 := HR.out.2.2.1
          have t1 := HR.out.2.2.2 1
          go_simp
          clear s0 t0 s1 t1
          obtain ⟨W15, hWn⟩ : ∃ xw9, ((W14.setCell ⟨w.heap.size + 1, 0, none⟩ (.slice (some ⟨bl, 0, none⟩) 1 1)).setCell ⟨w.heap.size + 1, 1, none⟩ u') = xw9 := ⟨_, rfl⟩
          rw [hWn]
          have hno : ¬ (w.heap.size + 2 ≤ w.heap.size + 1) := by omega
          have hno2 : ¬ ((ok (w.heap.size + 1) ∧ w.heap.size + 1 < w.heap.size) ∨ w.heap.size + 2 ≤ w.heap.size + 1) := by omega
          replace HR := Lib.hid (show At2 W15 (w.heap.size + 1) (.slice (some ⟨bl, 0, none⟩) 1 1) u' by rw [← hWn]; exact At2.put2 HR.out _ _)
          replace HU := Lib.hid (show At1 W15 w.heap.size u by rw [← hWn]; exact (HU.out.grown (grown_setCell _ ⟨w.heap.size + 1, 0, none⟩ _) (by simp)).grown (grown_setCell _ ⟨w.heap.size + 1, 1, none⟩ _) (by simp))
          replace HL := Lib.hid (show Slc W15 (fun b => w.heap.size + 2 ≤ b) (.slice (some ⟨bl, 0, none⟩) 1 1) 1 (ints [(V.len : Int)]) by rw [← hWn]; exact HL.out.keep ((Kept.setCell _ _ _ hno).trans (Kept.setCell _ _ _ hno)) (fun _ _ h => h))
          replace HQ := Lib.hid (show IsV W15 (fun b => (ok b ∧ b < w.heap.size) ∨ w.heap.size + 2 ≤ b) u' V.sq by rw [← hWn]; exact HQ.out.keep ((Kept.setCell _ _ _ hno2).trans (Kept.setCell _ _ _ hno2)) (fun _ _ h => h))
          replace HB := Lib.hid (show Below w.heap.size w W15 by rw [← hWn]; exact (HB.out.setCell (Nat.le_succ _) _).setCell (Nat.le_succ _) _)
          clear hWn hno hno2
          refine hK.out _ _ ?_ (fun hHeld => ?_)
          · exact HU.out.2.1
          clear hK K
          refine wpAnyH_done (by kernel_rfl) ?_ _
          clear hHeld
          have cHR0 := HR.out.2.1
          have cHR1 := HR.out.2.2.1
          have cHU0 := HU.out.2.1
          go_wp2_with fail
          refine bodyPost_ret (v := .agg #[.slice (some ⟨bl, 0, none⟩) 1 1, u']) (by simp [results, Tryz.results28, go_sem, cHR0, cHR1]) rfl ⟨_, _, u', rfl, ⟨?_, ?_⟩, HB.out⟩
          exact HL.out.keep (Kept.refl _ _) (fun b _ (h : w.heap.size + 2 ≤ b) => Or.inr (by omega))
          exact HQ.out.wide (fun b _ h => h.imp id (fun h => by omega))
        exact AllReadyH.nil
      exact AllReadyH.nil
    exact AllReadyH.nil
  exact AllReadyH.nil
end Go.Proofs.YtbfcdpabjailcaaGreatDoor

/- Package value, walked: New. -/
namespace Go.Proofs.YtbfcdpabjailcaaGreatDoor
set_option maxRecDepth 100000
open Go.RowKit Fl
set_option linter.unusedVariables false

/-- Why there is no array of a shape and a vector; 0, where there is one. -/
def newE (s : List Int) (V : VV) : Int := if (prodR s 1048576).2 ≠ 0 then (prodR s 1048576).2 else if V.kind = 0 then 1 else if (V.len : Int) ≠ (prodR s 1048576).1 then 23 else 0
/-- .. and where it lies. -/
def NewOk (ok : Nat → Prop) (c : Int) (A : List Int × VV) (w : World) (e : Ending) (w' : World) : Prop := ∃ sh u, e = .returned (.tuple #[.agg #[sh, u], .int .i64 c]) ∧ (c = 0 → IsArr w' (fun b => (ok b ∧ b < w.heap.size) ∨ w.heap.size ≤ b) sh u A) ∧ (c ≠ 0 → sh = .slice none 0 0 ∧ u = .nilIface) ∧ Below w.heap.size w w'
theorem At1.put1 {w : World} {b : Nat} {u : Value} (h : At1 w b u) (x : Value) : At1 (w.setCell ⟨b, 0, none⟩ x) b x :=
  ⟨by simpa using h.1, World.cell?_setCell_same _ _ _ h.2.1, fun o => by simpa using h.2.2 o⟩

set_option maxHeartbeats 8000000 in
theorem vnew_ok {ok ok2 : Nat → Prop} (v u : Value) (s : List Int) (V : VV) (w : World) (hs : Slc w ok2 v s.length (ints s)) (hsl : s.length ≤ 2000000) (hv : IsV w ok u V) (hok : V.ok) (hn : V.nm) (hT : TabAt w) :
    Calls Tryz.prog 32 #[v, .agg #[u]] w (NewOk ok (newE s V) (s, V.sq) w) := by
  obtain ⟨vo, vc, rfl, _⟩ := hs.opened
  have hsu := hv.store
  obtain ⟨W1, hW1⟩ : ∃ W1, W1 = (w.alloc (.cells #[u] 29)).alloc (.cells #[.slice none 0 0, .nilIface] 31) := ⟨_, rfl⟩
  have HB := Lib.hid (show Below w.heap.size w W1 by rw [hW1]; exact (below_new _ _).alloc (by simp) _)
  have HWW := Lib.hid (show W1.heap.size = w.heap.size + 2 by rw [hW1]; simp)
  have HA := Lib.hid (show At1 W1 w.heap.size u by rw [hW1]; exact (At1.new w _ _).below (below_new _ _))
  have HR := Lib.hid (show At2 W1 (w.heap.size + 1) (.slice none 0 0) .nilIface by rw [hW1]; have := At2.new (w.alloc (.cells #[u] 29)) (.slice none 0 0) .nilIface 31; simpa using this)
  have HV := Lib.hid (show IsV W1 (fun b => ok b ∧ b < w.heap.size) u V from hv.lt.grow HB.out)
  have HS := Lib.hid (show Slc W1 (fun b => b < w.heap.size) _ s.length (ints s) from (hs.keep (Kept.refl _ _) (fun b h _ => h)).below HB.out)
  have HT := Lib.hid (show TabAt W1 from fun j hj => keep_below HB.out _ _ (hT j hj))
  have HOK := Lib.hid hok
  have HNM := Lib.hid hn
  have HSL := Lib.hid hsl
  have HW1 := Lib.hid (Below.refl W1.heap.size W1)
  obtain ⟨pn, hpn⟩ : ∃ pn, pn = (prodR s 1048576).1 := ⟨_, rfl⟩
  obtain ⟨pe, hpe⟩ : ∃ pe, pe = (prodR s 1048576).2 := ⟨_, rfl⟩
  have HPN := Lib.hid hpn
  have HPE := Lib.hid hpe
  obtain ⟨ce, hce⟩ : ∃ ce, ce = newE s V := ⟨_, rfl⟩
  have HCE := Lib.hid hce
  obtain ⟨kd, hkd⟩ : ∃ kd, kd = V.kind := ⟨_, rfl⟩
  have HKD := Lib.hid hkd
  have hce2 := hce
  unfold newE at hce2
  rw [← hpe, ← hkd, ← hpn] at hce2
  have HCX := Lib.hid hce2
  have hfold := hW1.symm
  clear hs hv hT hok hn hW1 hpn hpe hce hce2 hkd hsl
  have cHA0 := HA.out.2.1
  have cHR0 := HR.out.2.1
  have cHR1 := HR.out.2.2.1
  go_enter Tryz.func32, Tryz.ntmps32
  go_wp2_with fail
  clear hfold
  refine (sproduct_calls _ s 1048576 _ HS.out (by have := HSL.out; omega)).mono ?_
  rintro e W11 ⟨rfl, hB⟩
  clear cHA0 cHR0 cHR1
  replace HA := Lib.hid (HA.out.below hB)
  replace HR := Lib.hid (HR.out.below hB)
  replace HB := Lib.hid (HB.out.trans (hB.mono HB.out.size))
  replace HW1 := Lib.hid (HW1.out.trans (hB.mono HW1.out.size))
  replace HV := Lib.hid (HV.out.grow hB)
  replace HS := Lib.hid (HS.out.below hB)
  replace HT := Lib.hid (fun j hj => keep_below hB _ _ (HT.out j hj))
  rw [← HPN.out, ← HPE.out]
  clear hB
  have cHA0 := HA.out.2.1
  have cHR0 := HR.out.2.1
  have cHR1 := HR.out.2.2.1
  by_cases h0 : pe = 0
  rotate_left
  · have HCV := Lib.hid (show ce = pe by rw [HCX.out, if_pos h0])
    have HC0 := Lib.hid (show ce ≠ 0 by rw [HCV.out]; exact h0)
    have h0e : (pe != 0) = true := by simpa using h0
    clear h0
    clear cHA0 cHR0 cHR1
    have cHA0 := HA.out.2.1
    have cHR0 := HR.out.2.1
    have cHR1 := HR.out.2.2.1
    have zHR0 := HR.out.2.2.2 0
    have zHR1 := HR.out.2.2.2 1
    go_wp2_with fail
    refine bodyPost_ret (v := .tuple #[.agg #[.slice none 0 0, .nilIface], .int .i64 pe]) (by simp [results, Tryz.results32, go_sem, World.cell?_setCell_same, cHR0, cHR1]) rfl ?_
    rw [← HCE.out]
    exact ⟨_, _, by rw [HCV.out], fun h => absurd h HC0.out, fun _ => ⟨rfl, rfl⟩, (HB.out.setCell (Nat.le_succ _) _).setCell (Nat.le_succ _) _⟩
  replace HCX := Lib.hid (by have := HCX.out; rw [if_neg (by simpa using h0)] at this; exact this)
  have h0e : (pe != 0) = false := by simpa using h0
  go_wp2_with fail
  refine (kind_calls _ V _ HV.out).mono ?_
  rintro e W12 ⟨rfl, hB⟩
  clear cHA0 cHR0 cHR1
  replace HA := Lib.hid (HA.out.below hB)
  replace HR := Lib.hid (HR.out.below hB)
  replace HB := Lib.hid (HB.out.trans (hB.mono HB.out.size))
  replace HW1 := Lib.hid (HW1.out.trans (hB.mono HW1.out.size))
  replace HV := Lib.hid (HV.out.grow hB)
  replace HS := Lib.hid (HS.out.below hB)
  replace HT := Lib.hid (fun j hj => keep_below hB _ _ (HT.out j hj))
  rw [← HKD.out]
  clear hB
  have cHA0 := HA.out.2.1
  have cHR0 := HR.out.2.1
  have cHR1 := HR.out.2.2.1
  by_cases hk0 : kd = 0
  · have HCV := Lib.hid (show ce = 1 by rw [HCX.out, if_pos hk0])
    have HC0 := Lib.hid (show ce ≠ 0 by rw [HCV.out]; decide)
    have hke : (kd == 0) = true := by simpa using hk0
    clear hk0
    clear cHA0 cHR0 cHR1
    have cHA0 := HA.out.2.1
    have cHR0 := HR.out.2.1
    have cHR1 := HR.out.2.2.1
    have zHR0 := HR.out.2.2.2 0
    have zHR1 := HR.out.2.2.2 1
    go_wp2_with fail
    refine bodyPost_ret (v := .tuple #[.agg #[.slice none 0 0, .nilIface], .int .i64 1]) (by simp [results, Tryz.results32, go_sem, World.cell?_setCell_same, cHR0, cHR1]) rfl ?_
    rw [← HCE.out]
    exact ⟨_, _, by rw [HCV.out], fun h => absurd h HC0.out, fun _ => ⟨rfl, rfl⟩, (HB.out.setCell (Nat.le_succ _) _).setCell (Nat.le_succ _) _⟩
  replace HCX := Lib.hid (by have := HCX.out; rw [if_neg hk0] at this; exact this)
  have hke : (kd == 0) = false := by simpa using hk0
  go_wp2_with fail
  refine (vlen_calls _ V _ HV.out).mono ?_
  rintro e W13 ⟨rfl, hB⟩
  clear cHA0 cHR0 cHR1
  replace HA := Lib.hid (HA.out.below hB)
  replace HR := Lib.hid (HR.out.below hB)
  replace HB := Lib.hid (HB.out.trans (hB.mono HB.out.size))
  replace HW1 := Lib.hid (HW1.out.trans (hB.mono HW1.out.size))
  replace HV := Lib.hid (HV.out.grow hB)
  replace HS := Lib.hid (HS.out.below hB)
  replace HT := Lib.hid (fun j hj => keep_below hB _ _ (HT.out j hj))
  clear hB
  have cHA0 := HA.out.2.1
  have cHR0 := HR.out.2.1
  have cHR1 := HR.out.2.2.1
  by_cases hl0 : (V.len : Int) = pn
  rotate_left
  · have HCV := Lib.hid (show ce = 23 by rw [HCX.out, if_pos hl0])
    have HC0 := Lib.hid (show ce ≠ 0 by rw [HCV.out]; decide)
    have hle : ((V.len : Int) != pn) = true := by simpa using hl0
    clear hl0
    clear cHA0 cHR0 cHR1
    have cHA0 := HA.out.2.1
    have cHR0 := HR.out.2.1
    have cHR1 := HR.out.2.2.1
    have zHR0 := HR.out.2.2.2 0
    have zHR1 := HR.out.2.2.2 1
    go_wp2_with fail
    refine bodyPost_ret (v := .tuple #[.agg #[.slice none 0 0, .nilIface], .int .i64 23]) (by simp [results, Tryz.results32, go_sem, World.cell?_setCell_same, cHR0, cHR1]) rfl ?_
    rw [← HCE.out]
    exact ⟨_, _, by rw [HCV.out], fun h => absurd h HC0.out, fun _ => ⟨rfl, rfl⟩, (HB.out.setCell (Nat.le_succ _) _).setCell (Nat.le_succ _) _⟩
  have HCV := Lib.hid (show ce = 0 by rw [HCX.out, if_neg (by simpa using hl0)])
  have hle : ((V.len : Int) != pn) = false := by simpa using hl0
  clear hl0 hk0 h0
  go_wp2_with fail
  obtain ⟨W14, hWD⟩ : ∃ xw9, W13.drew = xw9 := ⟨_, rfl⟩
  have hB : Below W13.heap.size W13 W14 := by rw [← hWD]; exact Below.drewN' (Below.refl _ _) 1
  clear cHA0 cHR0 cHR1
  replace HA := Lib.hid (HA.out.below hB)
  replace HR := Lib.hid (HR.out.below hB)
  replace HB := Lib.hid (HB.out.trans (hB.mono HB.out.size))
  replace HW1 := Lib.hid (HW1.out.trans (hB.mono HW1.out.size))
  replace HV := Lib.hid (HV.out.grow hB)
  replace HS := Lib.hid (HS.out.below hB)
  replace HT := Lib.hid (fun j hj => keep_below hB _ _ (HT.out j hj))
  clear hB
  refine wp_region_held_drew (S := fun w' => w'.cell? ⟨w.heap.size, 0, none⟩ = some u) (by kernel_rfl) (by rw [hWD]; exact HA.out.2.1) (fun hHeld => ?_)
  rw [hWD] at hHeld ⊢
  clear hWD
  refine wpAnyH_take (i := 0) (v := ?_) rfl (by kernel_rfl) (by kernel_rfl) (by kernel_rfl) (fun _ _ _ h => h) (Or.inl ⟨by rfl, ?_⟩) (by assumption) ?_
  rotate_left
  · (intro w hSw; (try dsimp only at hSw); go_simp; try with_reducible rfl)
  simp only [Act.put, List.getElem_toArray, List.getElem_cons_zero, List.setIfInBounds_toArray, List.set_cons_zero, List.set_cons_succ]
  refine wpAnyH_take (i := 2) (v := ?_) rfl (by kernel_rfl) (by kernel_rfl) (by kernel_rfl) (fun _ _ _ h => h) (Or.inl ⟨by rfl, ?_⟩) (by assumption) ?_
  rotate_left
  · (intro w hSw; (try dsimp only at hSw); go_simp; try with_reducible rfl)
  simp only [Act.put, List.getElem_toArray, List.getElem_cons_succ, List.getElem_cons_zero, List.setIfInBounds_toArray, List.set_cons_zero, List.set_cons_succ]
  refine wpAnyH_ready (rs := [1]) (by kernel_rfl) (by simp) ?_
  refine AllReadyH.cons (o := _) rfl (fun K hK => ?_) ?_
  · clear hHeld
    go_simp
    have HO := HW1.out.size
    refine (CloneInt_calls _ s _ HS.out HSL.out).mono ?_
    rintro e W15 ⟨vs, rfl, hvs, hB⟩
    replace HA := Lib.hid (HA.out.below hB)
    replace HR := Lib.hid (HR.out.below hB)
    replace HB := Lib.hid (HB.out.trans (hB.mono HB.out.size))
    replace HW1 := Lib.hid (HW1.out.trans (hB.mono HW1.out.size))
    replace HV := Lib.hid (HV.out.grow hB)
    replace HS := Lib.hid (HS.out.below hB)
    replace HT := Lib.hid (fun j hj => keep_below hB _ _ (HT.out j hj))
    have HSC := Lib.hid (show Slc W15 (fun b => w.heap.size + 2 ≤ b) vs s.length (ints s) from hvs.keep (Kept.refl _ _) (fun b _ (h : _ ≤ b) => Nat.le_trans (by have := HWW.out; omega) h))
    obtain ⟨co, cc, rfl, _⟩ := HSC.out.opened
    clear hvs HO
    clear hB
    refine hK.out _ _ ?_ (fun hHeld => ?_)
    · exact HA.out.2.1
    clear hK K
    refine wpAnyH_ready (rs := [3]) (by kernel_rfl) (by simp) ?_
    refine AllReadyH.cons (o := _) rfl (fun K hK => ?_) ?_
    · clear hHeld
      go_simp
      have HO := HW1.out.size
      refine (squeeze_calls _ V _ HV.out HOK.out HNM.out HT.out).mono ?_
      rintro e W16 ⟨u', rfl, hv', hB⟩
      replace HA := Lib.hid (HA.out.below hB)
      replace HR := Lib.hid (HR.out.below hB)
      replace HB := Lib.hid (HB.out.trans (hB.mono HB.out.size))
      replace HW1 := Lib.hid (HW1.out.trans (hB.mono HW1.out.size))
      replace HV := Lib.hid (HV.out.grow hB)
      replace HS := Lib.hid (HS.out.below hB)
      replace HT := Lib.hid (fun j hj => keep_below hB _ _ (HT.out j hj))
      replace HSC := Lib.hid (HSC.out.below hB)
      have HQ := Lib.hid (show IsV W16 (fun b => (ok b ∧ b < w.heap.size) ∨ w.heap.size + 2 ≤ b) u' V.sq from IsV.wide hv' (fun b _ h => h.imp id (fun h => by have := HWW.out; omega)))
      have hsx := hv'.store
      clear hv' HO
      clear hB
      refine hK.out _ _ ?_ (fun hHeld => ?_)
      · exact HA.out.2.1
      clear hK K
      refine wpAnyH_take (i := 4) (v := ?_) rfl (by kernel_rfl) (by kernel_rfl) (by kernel_rfl) (fun _ _ _ h => h) (Or.inl ⟨by rfl, ?_⟩) (by assumption) ?_
      rotate_left
      · (intro w hSw; (try dsimp only at hSw); go_simp; try with_reducible rfl)
      simp only [Act.put, List.getElem_toArray, List.getElem_cons_succ, List.getElem_cons_zero, List.setIfInBounds_toArray, List.set_cons_zero, List.set_cons_succ]
      refine wpAnyH_ready (rs := [5]) (by kernel_rfl) (by simp) ?_
      refine AllReadyH.cons (o := _) rfl (fun K hK => ?_) ?_
      · clear hHeld
        have s0 := HR.out.2.1
        have t0 := HR.out.2.2.2 0
        have s1 := HR.out.2.2.1
        have t1 := HR.out.2.2.2 1
        go_simp
        clear s0 t0 s1 t1
        obtain ⟨W17, hWn⟩ : ∃ xw9, ((W16.setCell ⟨w.heap.size + 1, 0, none⟩ (.slice co s.length cc)).setCell ⟨w.heap.size + 1, 1, none⟩ u') = xw9 := ⟨_, rfl⟩
        rw [hWn]
        replace HR := Lib.hid (show At2 W17 (w.heap.size + 1) (.slice co s.length cc) u' by rw [← hWn]; exact At2.put2 HR.out _ _)
        replace HA := Lib.hid (show At1 W17 w.heap.size u by rw [← hWn]; exact (HA.out.grown (grown_setCell _ ⟨w.heap.size + 1, 0, none⟩ _) (by simp)).grown (grown_setCell _ ⟨w.heap.size + 1, 1, none⟩ _) (by simp))
        replace HSC := Lib.hid (show Slc W17 (fun b => w.heap.size + 2 ≤ b) (.slice co s.length cc) s.length (ints s) by rw [← hWn]; exact HSC.out.keep ((Kept.setCell _ _ _ (by simp)).trans (Kept.setCell _ _ _ (by simp))) (fun _ _ h => h))
        replace HQ := Lib.hid (show IsV W17 (fun b => (ok b ∧ b < w.heap.size) ∨ w.heap.size + 2 ≤ b) u' V.sq by rw [← hWn]; exact HQ.out.keep ((Kept.setCell _ _ _ (by simp)).trans (Kept.setCell _ _ _ (by simp))) (fun _ _ h => h))
        replace HB := Lib.hid (show Below w.heap.size w W17 by rw [← hWn]; exact (HB.out.setCell (Nat.le_succ _) _).setCell (Nat.le_succ _) _)
        clear hWn
        refine hK.out _ _ ?_ (fun hHeld => ?_)
        · exact HA.out.2.1
        clear hK K
        refine wpAnyH_take (i := 6) (v := ?_) rfl (by kernel_rfl) (by kernel_rfl) (by kernel_rfl) (fun _ _ _ h => h) (Or.inl ⟨by rfl, ?_⟩) (by assumption) ?_
        rotate_left
        · (intro w hSw; (try dsimp only at hSw); go_simp; try with_reducible rfl)
        simp only [Act.put, List.getElem_toArray, List.getElem_cons_succ, List.getElem_cons_zero, List.setIfInBounds_toArray, List.set_cons_zero, List.set_cons_succ]
        refine wpAnyH_done (by kernel_rfl) ?_ _
        clear hHeld
        have cHA0 := HA.out.2.1
        have cHR0 := HR.out.2.1
        have cHR1 := HR.out.2.2.1
        go_wp2_with fail
        refine bodyPost_ret (v := .tuple #[.agg #[.slice co s.length cc, u'], .int .i64 0]) (by simp [results, Tryz.results32, go_sem, cHR0, cHR1]) rfl ?_
        rw [← HCE.out]
        exact ⟨_, _, by rw [HCV.out], fun _ => ⟨HSC.out.keep (Kept.refl _ _) (fun b _ (h : w.heap.size + 2 ≤ b) => Or.inr (by omega)), HQ.out.wide (fun b _ h => h.imp id (fun h => by omega))⟩, fun h => absurd HCV.out h, HB.out⟩
      exact AllReadyH.nil
    exact AllReadyH.nil
  exact AllReadyH.nil

end Go.Proofs.YtbfcdpabjailcaaGreatDoor

/- An argument that is a plain array, opened. -/
namespace Go.Proofs.YtbfcdpabjailcaaGreatDoor
open Go.RowKit Go.ChangeShapes Go.WideShapes
set_option linter.unusedVariables false
set_option maxRecDepth 100000

section
variable {H : Type} {enc : TypeId × Value → H} {w : World} {base : Nat} {spare : Nat → Bool} {held : Bool}

/-- A slice of elements of c cells. -/
theorem cells_slice {P : Program} {t e : TypeId} {fuel c : Nat} {cs : List Value} {x : DataW H × List MemPlace} (ht : P.underlying t = some (.slice e)) (hc : P.cellsOf e = c) (hpos : 0 < c)
    (h : DataW.trod enc P w base spare held fuel t cs = some x) :
    ∃ ao len cap n, n < fuel ∧ cs = [.slice ao len cap] ∧ len ≤ cap ∧ cap ≤ maxLen ∧
      ∀ i, i < len → ∃ b off cs' y, ao = some ⟨b, off, none⟩ ∧ cs'.length = c ∧ (∀ j, j < c → w.cell? ⟨b, off + i * c + j, none⟩ = cs'[j]?) ∧ DataW.trod enc P w base spare held n e cs' = some y := by
  cases fuel with
  | zero => simp [DataW.trod] at h
  | succ m =>
    rcases DataW.trod_slice ht h with ⟨h0, _⟩ | ⟨a, len, cap, elems, rest, n, hn, rfl, rfl, hb, hl, hm, hlen, hel, hsp, hns⟩
    · exact ⟨none, 0, 0, m, by omega, h0, Nat.le_refl _, by unfold maxLen; omega, fun i hi => by omega⟩
    have each : ∀ i, i < len → ∃ cs' y, cs'.length = c ∧ (∀ j, j < c → w.cell? ((a.add (i * c)).add j) = cs'[j]?) ∧ DataW.trod enc P w base spare held n e cs' = some y := by
      intro i hi
      have h1 := hel i hi
      rw [hc] at h1
      have hlt : i < elems.length := by omega
      rw [List.getElem?_eq_getElem hlt] at h1
      obtain ⟨cs', hcs, hy'⟩ := Option.bind_eq_some_iff.1 h1
      obtain ⟨_, hcl, hat⟩ := World.cells?_some hcs
      exact ⟨cs', _, hcl, hat, hy'⟩
    refine ⟨some a, len, cap, n, by omega, rfl, hl, hm, fun i hi => ?_⟩
    obtain ⟨b, off, spot⟩ := a
    have hspot : spot = none := by
      obtain ⟨cs', y, hcl, hat, _⟩ := each 0 (by omega)
      have h0 := hat 0 hpos
      rw [List.getElem?_eq_getElem (by omega)] at h0
      simpa [Addr.add] using World.cell?_spot h0
    subst hspot
    obtain ⟨cs', y, hcl, hat, hy⟩ := each i hi
    refine ⟨b, off, cs', y, rfl, hcl, fun j hj => ?_, hy⟩
    have := hat j hj
    simpa [Go.WideShapes.add_plain, Nat.add_assoc] using this

theorem cint_of {t : TypeId} {k : IntKind} {fuel : Nat} {cs : List Value} {P : Program} {y : DataW H × List MemPlace} (ht : P.underlying t = some (.int k)) (h : DataW.trod enc P w base spare held fuel t cs = some y) : ∃ z, cs = [.int k z] := by
  obtain ⟨u, rfl, z, rfl, _⟩ := elem_int ht _ _ _ h
  exact ⟨z, rfl⟩
theorem cfloat_of {t : TypeId} {k : FloatKind} {fuel : Nat} {cs : List Value} {P : Program} {y : DataW H × List MemPlace} (ht : P.underlying t = some (.float k)) (h : DataW.trod enc P w base spare held fuel t cs = some y) : ∃ z, cs = [.float k z] ∧ (Lit.float k z).wf = true := by
  obtain ⟨u, rfl, z, rfl, hz⟩ := elem_float ht _ _ _ h
  exact ⟨z, rfl, hz⟩
theorem ints_of {t e : TypeId} {fuel : Nat} {cs : List Value} {P : Program} {y : DataW H × List MemPlace} (ht : P.underlying t = some (.slice e)) (hc : P.cellsOf e = 1) (he : P.underlying e = some (.int .i64)) (h : DataW.trod enc P w base spare held fuel t cs = some y) :
    ∃ v l, cs = [v] ∧ Slc w (fun _ => True) v (l : List Int).length (ints l) := by
  obtain ⟨v, xs, rfl, hr, hq, hl⟩ := open_row ht hc (fun u => ∃ z, u = .int .i64 z ∧ (Lit.int .i64 z).wf = true) (elem_int he) h
  obtain ⟨zs, rfl, _⟩ := list_of (Value.int .i64) (fun z => (Lit.int .i64 z).wf = true) xs hq
  refine ⟨v, zs, rfl, ?_⟩
  have := hr.slc
  simpa [ints] using this

theorem listAll {α : Type} (n : Nat) (q : Nat → α → Prop) (h : ∀ i, i < n → ∃ x, q i x) : ∃ l : List α, l.length = n ∧ ∀ i x, l[i]? = some x → q i x := by
  induction n with
  | zero => exact ⟨[], rfl, fun i x h => by simp at h⟩
  | succ n ih =>
    obtain ⟨l, hl, hq⟩ := ih (fun i hi => h i (by omega))
    obtain ⟨x, hx⟩ := h n (by omega)
    refine ⟨l ++ [x], by simp [hl], fun i y hy => ?_⟩
    by_cases hi : i < l.length
    · rw [List.getElem?_append_left hi] at hy; exact hq i y hy
    · obtain ⟨h1, _⟩ := List.getElem?_eq_some_iff.1 hy
      have : i = n := by simp at h1; omega
      subst this
      rw [List.getElem?_append_right (by omega), hl] at hy
      simp at hy
      exact hy ▸ hx

theorem und_plain : ∃ f0 f1 f2 : Field, Tryz.prog.underlying 25 = some (.struct #[f0, f1, f2]) ∧ f0.type = 22 ∧ f1.type = 23 ∧ f2.type = 3 ∧ f0.offset = 0 ∧ f1.offset = 1 ∧ f2.offset = 2 := ⟨_, _, _, Tryz.underlying25, rfl, rfl, rfl, rfl, rfl, rfl⟩
theorem und_item : ∃ f0 f1 f2 f3 : Field, Tryz.prog.underlying 48 = some (.struct #[f0, f1, f2, f3]) ∧ f0.type = 3 ∧ f1.type = 38 ∧ f2.type = 21 ∧ f3.type = 46 ∧ f0.offset = 0 ∧ f1.offset = 1 ∧ f2.offset = 2 ∧ f3.offset = 3 := ⟨_, _, _, _, Tryz.underlying48, rfl, rfl, rfl, rfl, rfl, rfl, rfl, rfl⟩
theorem co_plain : Tryz.prog.cellsOf 25 = 3 := by kernel_rfl
theorem co_item : Tryz.prog.cellsOf 48 = 4 := by kernel_rfl
theorem co_slInt : Tryz.prog.cellsOf 22 = 1 := by kernel_rfl
theorem co_slItem : Tryz.prog.cellsOf 23 = 1 := by kernel_rfl
theorem co_slPlain : Tryz.prog.cellsOf 46 = 1 := by kernel_rfl
theorem co_int : Tryz.prog.cellsOf 3 = 1 := by kernel_rfl
theorem co_f64 : Tryz.prog.cellsOf 38 = 1 := by kernel_rfl
theorem co_i32 : Tryz.prog.cellsOf 21 = 1 := by kernel_rfl

/-- Some depth for all of finitely many. -/
theorem lo_all {n : Nat} (q : Nat → Nat → Prop) (mono : ∀ i a b, a ≤ b → q i a → q i b) (h : ∀ i, i < n → ∃ d, q i d) : ∃ d, ∀ i, i < n → q i d := Go.Deep.fuel_lt mono h

theorem lt_of_wf {x : Nat} (h : (Lit.float .f64 x).wf = true) : x < 18446744073709551616 := by
  simpa [Lit.wf] using h
theorem plain_of (fuel : Nat) : ∀ (cs : List Value) (y : DataW H × List MemPlace), DataW.trod enc Tryz.prog w base spare held fuel 25 cs = some y →
    ∃ a b c p d, cs = [a, b, c] ∧ IsP w (fun _ => True) (.agg #[a, b, c]) p ∧ lo d p := by
  induction fuel using Nat.strongRecOn with
  | ind fuel ih =>
    intro cs y h
    obtain ⟨f0, f1, f2, hu, t0, t1, t2, o0, o1, o2⟩ := und_plain
    obtain ⟨xs, n, rfl, _, hl, hxl, hf⟩ := DataW.trod_struct hu h
    rw [co_plain] at hl
    match cs, hl with
    | [a, b, c], _ =>
      have g0 := hf 0 f0 rfl
      have g1 := hf 1 f1 rfl
      have g2 := hf 2 f2 rfl
      rw [t0, o0, co_slInt] at g0
      rw [t1, o1, co_slItem] at g1
      rw [t2, o2, co_int] at g2
      simp only [List.drop, List.take] at g0 g1 g2
      match xs, hxl with
      | [y0, y1, y2], _ =>
        simp only [List.getElem?_cons_zero, List.getElem?_cons_succ] at g0 g1 g2
        obtain ⟨v, s, e0, hs⟩ := ints_of Tryz.underlying22 co_int Tryz.underlying3 g0
        obtain rfl : a = v := by simpa using e0
        obtain ⟨z, e2⟩ := cint_of Tryz.underlying3 g2
        cases e2
        obtain ⟨ao, len, cap, n1, hn1, e1, hl1, hl2, hitem⟩ := cells_slice Tryz.underlying23 co_item (by omega) g1
        cases e1
        -- each item
        have one : ∀ i, i < len → ∃ x : PI × (Value × Nat), (∃ b off, ao = some ⟨b, off, none⟩ ∧ w.cell? ⟨b, off + i * 4, none⟩ = some (.int .i64 x.1.1) ∧ w.cell? ⟨b, off + i * 4 + 1, none⟩ = some (.float .f64 x.1.2.1) ∧
            w.cell? ⟨b, off + i * 4 + 2, none⟩ = some (.int .i32 x.1.2.2.1) ∧ w.cell? ⟨b, off + i * 4 + 3, none⟩ = some x.2.1) ∧ IsB w (fun _ => True) x.2.1 x.1.2.2.2 ∧ x.1.2.1 < 18446744073709551616 ∧ ∀ q ∈ x.1.2.2.2, lo x.2.2 q := by
          intro i hi
          obtain ⟨b, off, cs', y', hao, hcl, hcells, htr⟩ := hitem i hi
          obtain ⟨k0, k1, k2, k3, hu', u0, u1, u2, u3, p0, p1, p2, p3⟩ := und_item
          obtain ⟨xs', n', rfl, _, _, hxl', hf'⟩ := DataW.trod_struct hu' htr
          match cs', hcl with
          | [c0, c1, c2, c3], _ =>
            have q0 := hf' 0 k0 rfl
            have q1 := hf' 1 k1 rfl
            have q2 := hf' 2 k2 rfl
            have q3 := hf' 3 k3 rfl
            rw [u0, p0, co_int] at q0
            rw [u1, p1, co_f64] at q1
            rw [u2, p2, co_i32] at q2
            rw [u3, p3, co_slPlain] at q3
            simp only [List.drop, List.take] at q0 q1 q2 q3
            match xs', hxl' with
            | [z0, z1, z2, z3], _ =>
              simp only [List.getElem?_cons_zero, List.getElem?_cons_succ] at q0 q1 q2 q3
              obtain ⟨kd, e0⟩ := cint_of Tryz.underlying3 q0
              cases e0
              obtain ⟨nm, e1, hnm⟩ := cfloat_of Tryz.underlying38 q1
              cases e1
              obtain ⟨ch, e2⟩ := cint_of Tryz.underlying21 q2
              cases e2
              obtain ⟨bo, blen, bcap, n3, hn3, e3, hb1, hb2, hbox⟩ := cells_slice Tryz.underlying46 co_plain (by omega) q3
              cases e3
              have each : ∀ k, k < blen → ∃ x : PA × (Value × Value × Value) × Nat, (∃ b off, bo = some ⟨b, off, none⟩ ∧ w.cell? ⟨b, off + k * 3, none⟩ = some x.2.1.1 ∧ w.cell? ⟨b, off + k * 3 + 1, none⟩ = some x.2.1.2.1 ∧ w.cell? ⟨b, off + k * 3 + 2, none⟩ = some x.2.1.2.2) ∧
                  IsP w (fun _ => True) (.agg #[x.2.1.1, x.2.1.2.1, x.2.1.2.2]) x.1 ∧ lo x.2.2 x.1 := by
                intro k hk
                obtain ⟨b', off', cs2, y2, hbo, hcl2, hcells2, htr2⟩ := hbox k hk
                obtain ⟨a', b2, c', p, d, rfl, hp, hd⟩ := ih n3 (by omega) cs2 y2 htr2
                exact ⟨(p, (a', b2, c'), d), ⟨b', off', hbo, by simpa using hcells2 0 (by omega), by simpa using hcells2 1 (by omega), by simpa using hcells2 2 (by omega)⟩, hp, hd⟩
              obtain ⟨L, hL, hq⟩ := listAll blen _ each
              obtain ⟨D, hD⟩ := lo_all (n := blen) (fun k d => ∀ x, L[k]? = some x → lo d x.1) (fun i a b hab h x hx => lo_mono (h x hx) hab) (fun k hk => ⟨((L[k]?).map (fun x => x.2.2)).getD 0, fun x hx => by rw [hx]; exact (hq k x hx).2.2⟩)
              refine ⟨((kd, nm, ch, L.map (·.1)), (.slice bo blen bcap, D)), ⟨b, off, hao, by simpa using hcells 0 (by omega), by simpa using hcells 1 (by omega), by simpa using hcells 2 (by omega), by simpa using hcells 3 (by omega)⟩, ?_, lt_of_wf hnm, ?_⟩
              · refine ⟨bo, bcap, fun k => ((L[k]?).map (fun x => x.2.1.1)).getD undef, fun k => ((L[k]?).map (fun x => x.2.1.2.1)).getD undef, fun k => ((L[k]?).map (fun x => x.2.1.2.2)).getD undef, by simp [hL], by simpa [hL] using hb1, hb2, fun k hk => ?_, fun k p hp => ?_⟩
                · have hk' : k < L.length := by simpa using hk
                  obtain ⟨⟨b', off', e, c0, c1, c2⟩, _⟩ := hq k _ (List.getElem?_eq_getElem hk')
                  exact ⟨b', off', e, trivial, by simp only [List.getElem?_eq_getElem hk']; exact c0, by simp only [List.getElem?_eq_getElem hk']; exact c1, by simp only [List.getElem?_eq_getElem hk']; exact c2⟩
                · simp only [List.getElem?_map, Option.map_eq_some_iff] at hp
                  obtain ⟨x, hx, rfl⟩ := hp
                  simp only [hx]
                  exact (hq k x hx).2.1
              · intro q hqm
                obtain ⟨x, hx, rfl⟩ := List.mem_map.1 hqm
                obtain ⟨k, hk⟩ := List.mem_iff_getElem?.1 hx
                exact hD k (by rw [← hL]; exact (List.getElem?_eq_some_iff.1 hk).1) x hk
        obtain ⟨L, hL, hq⟩ := listAll len _ one
        obtain ⟨D, hD⟩ := lo_all (n := len) (fun k d => ∀ x, L[k]? = some x → ∀ q ∈ x.1.2.2.2, lo d q) (fun i a b hab h x hx q hq => lo_mono (h x hx q hq) hab) (fun k hk => ⟨((L[k]?).map (fun x => x.2.2)).getD 0, fun x hx => by rw [hx]; exact (hq k x hx).2.2.2⟩)
        refine ⟨_, _, _, .mk s (L.map (·.1)) z, D + 1, rfl, ?_, ?_⟩
        · have : IsP w (fun _ => True) (.agg #[a, .slice ao (L.map (·.1)).length cap, .int .i64 z]) (.mk s (L.map (·.1)) z) := by
            refine IsP.of hs ⟨ao, cap, fun k => ((L[k]?).map (fun x => x.2.1)).getD undef, rfl, by simpa [hL] using hl1, hl2, fun i x hx => ?_, fun i x hx => ?_⟩
            · simp only [List.getElem?_map, Option.map_eq_some_iff] at hx
              obtain ⟨x, hx, rfl⟩ := hx
              obtain ⟨⟨b', off', e, c0, c1, c2, c3⟩, _⟩ := hq i x hx
              exact ⟨b', off', e, trivial, c0, c1, c2, by simp only [hx]; exact c3⟩
            · simp only [List.getElem?_map, Option.map_eq_some_iff] at hx
              obtain ⟨x, hx, rfl⟩ := hx
              simp only [hx]
              exact (hq i x hx).2.1
          simpa [hL] using this
        · intro x hx
          obtain ⟨y, hy, rfl⟩ := List.mem_map.1 (show _ ∈ L.map (·.1) from hx)
          obtain ⟨k, hk⟩ := List.mem_iff_getElem?.1 hy
          exact ⟨(hq k y hk).2.2.1, hD k (by rw [← hL]; exact (List.getElem?_eq_some_iff.1 hk).1) y hk⟩
end
/-- An argument that is a plain array. -/
theorem open_plain {H : Type} {enc : TypeId × Value → H} {w : World} {base : Nat} {spare : Nat → Bool} {held : Bool} {r : Reach} {b0 : Nat} {v : Value} {d : DataW H} {p : List MemPlace}
    (hv : Value.okWide Tryz.prog w r b0 25 v) (h : DataW.Trod enc Tryz.prog w base spare held 25 v d p) : ∃ P n, IsP w (fun _ => True) v P ∧ lo n P := by
  obtain ⟨f0, f1, f2, hu, _⟩ := und_plain
  obtain ⟨cs, rfl, hsz⟩ := okWide_struct hu hv
  obtain ⟨fuel, hf⟩ := h
  obtain ⟨a, b, c, P, n, e, hp, hn⟩ := plain_of fuel _ _ hf
  obtain ⟨l⟩ := cs
  have : l = [a, b, c] := e
  subst this
  exact ⟨P, n, hp, hn⟩
end Go.Proofs.YtbfcdpabjailcaaGreatDoor

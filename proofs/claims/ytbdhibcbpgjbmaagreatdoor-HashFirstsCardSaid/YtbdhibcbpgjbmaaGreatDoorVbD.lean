/- The reference's Nums. -/
import Derived.Test.YtbdhibcbpgjbmaaGreatDoorVbC
namespace Go.Proofs.YtbdhibcbpgjbmaaGreatDoor
open Go.RowKit Fl
set_option linter.unusedVariables false
set_option maxRecDepth 100000

def numI (x : Nat) : PI := (0, x, 0, [])
/-- A plain array of numbers, of one axis. -/
def numsP (l : List Nat) : PA := .mk [(l.length : Int)] (l.map numI) 0
def NRel (w : World) (n : Int) (B : Nat) (k : Nat) (v : Value) (L : List QI) (l : List PI) (wr : World) : Prop :=
 wr.ownsRow B 34 4 v k (flatI L) ∧ Quad wr (fun b => B ≤ b ∧ v.ownBlock ≠ some b) L l ∧ At3 wr w.heap.size (.slice none 0 0) (.slice none 0 0) (.int .i64 0) ∧ At3 wr (w.heap.size + 1 + 1) (.slice (some ⟨w.heap.size + 1, 0, none⟩) 1 1) v (.int .i64 0) ∧ Slc wr (fun b => b = w.heap.size + 1) (.slice (some ⟨w.heap.size + 1, 0, none⟩) 1 1) 1 (ints [n]) ∧ Below w.heap.size w wr
theorem NRel.step {w wr W4 w5 : World} {B k : Nat} {n : Int} {v v' : Value} {L : List QI} {l : List PI} {x : Nat} (h : NRel w n B k v L l wr) (hB : w.heap.size + 1 + 1 < B) (hr4 : Below wr.heap.size wr W4)
  (hown : w5.ownsRow B 34 4 v' (k + 1) (flatI L ++ quadV (0, x, 0, .slice none 0 0))) (hg : W4.grownBy w5 v.ownBlock)
  (hk : ∀ j, v'.ownBlock = some j → v.ownBlock = some j ∨ W4.heap.size ≤ j) : NRel w n B (k + 1) v' (L ++ [(0, x, 0, .slice none 0 0)]) (l ++ [numI x]) (w5.setCell ⟨w.heap.size + 1 + 1, 1, none⟩ v') := by
 obtain ⟨h1, h2, h4, h6, h5, h7⟩ := h
 have hsz : w.heap.size ≤ wr.heap.size := h7.size
 have hnot : ∀ b, b < B → some b ≠ v.ownBlock := fun b hb e => by have := (h1.lt b e.symm).1; omega
 have hA : ∀ {b : Nat} {x y z : Value}, b < B → At3 wr b x y z → At3 w5 b x y z := fun hb ha => (ha.below hr4).grown hg (hnot _ hb)
 refine ⟨?_, ?_, ?_, ?_, ?_, ?_⟩
 ·rw [flatI_snoc]
  exact ownsRow_setCell_below hown (by show w.heap.size + 1 + 1 < B; omega) _
 ·refine Quad.keep (w := w5) (ok := fun b => B ≤ b ∧ v'.ownBlock ≠ some b) (Kept.setCell _ _ _ (by
   rintro ⟨h, _⟩
   simp at h; omega)) (fun b _ h => h) ?_
  refine Quad.keep (w := wr) (ok := fun b => B ≤ b ∧ v.ownBlock ≠ some b) (Kept.trans (Kept.below hr4) (Kept.grown hg (fun b hb e => hb.2 e.symm))) (fun b hb ho => ⟨ho.1, fun e => ?_⟩) (h2.snoc (x := numI x) (IsB.nil _ _))
  rcases hk b e with e2 | e2
  ·exact ho.2 e2
  ·have := hr4.size; omega
 ·exact (hA (by omega) h4).other _ (by simp; omega) _
 ·exact (hA (by omega) h6).set1 _
 ·exact h5.keep (Kept.trans (Kept.trans (Kept.below hr4) (Kept.grown hg (fun b hb e => hnot b (by omega) e))) (Kept.setCell _ _ _ (by simp))) (fun _ _ h => h)
 ·refine Below.setCell ?_ (by show w.heap.size ≤ w.heap.size + 1 + 1; omega) _
  exact (h7.trans (hr4.mono hsz)).grown hg (by have := hr4.size; omega) (fun j hj => by have := (h1.lt j hj).1; omega)

end Go.Proofs.YtbdhibcbpgjbmaaGreatDoor

/- The reference's shapes, walked: All. -/
import Derived.Test.YtbdhibcbpgjbmaaGreatDoorShD
import Derived.Test.YtbdhibcbpgjbmaaGreatDoorAp
namespace Go.Proofs.YtbdhibcbpgjbmaaGreatDoor
open Go.RowKit
set_option linter.unusedVariables false
set_option maxRecDepth 100000

/-- One more axis, as the reference lists it. -/
def flatX (l : List (List Int)) (x : Int) : List (List Int) := l.flatMap fun p => (List.range x.toNat).map fun j : Nat => p ++ [(j : Int)]
theorem flatX_cons (p : List Int) (l : List (List Int)) (x : Int) : flatX (p :: l) x = ((List.range x.toNat).map fun j : Nat => p ++ [(j : Int)]) ++ flatX l x := by simp [flatX]
theorem flatX_len (x : Int) : ∀ l : List (List Int), (flatX l x).length = l.length * x.toNat
 | [] => by simp [flatX]
 | p :: l => by rw [flatX_cons, List.length_append, flatX_len x l]; simp [Nat.succ_mul, Nat.add_comm]
theorem flatX_get (x : Int) : ∀ (l : List (List Int)) (k j : Nat) (hk : k < l.length), j < x.toNat → (flatX l x)[k * x.toNat + j]? = some (l[k] ++ [(j : Int)])
 | [], k, j, hk, _ => by simp at hk
 | p :: l, 0, j, hk, hj => by
  rw [flatX_cons, Nat.zero_mul, Nat.zero_add, List.getElem?_append_left (by simpa using hj)]
  simp [List.getElem?_range hj]
 | p :: l, k + 1, j, hk, hj => by
  have := flatX_get x l k j (by simpa using hk) hj
  rw [flatX_cons]
  obtain ⟨X, hX⟩ : ∃ X, x.toNat = X := ⟨_, rfl⟩
  rw [hX] at this ⊢
  have e : (k + 1) * X + j = X + (k * X + j) := by rw [Nat.succ_mul]; omega
  rw [e, List.getElem?_append_right (by simp), List.length_map, List.length_range, Nat.add_sub_cancel_left, this]
  simp
/-- What the reference's All makes, at most so many. -/
def allM (s : List Int) (m : Nat) : List (List Int) := s.foldl (fun l x => (flatX l x).take m) [[]]
theorem allM_nil (m : Nat) : allM [] m = [[]] := rfl
theorem allM_snoc (s : List Int) (x : Int) (m : Nat) : allM (s ++ [x]) m = (flatX (allM s m) x).take m := by simp [allM, List.foldl_append]
theorem allM_take {s : List Int} {k : Nat} {x : Int} (m : Nat) (h : s[k]? = some x) : allM (s.take (k + 1)) m = (flatX (allM (s.take k) m) x).take m := by rw [take_snoc h, allM_snoc]
theorem allM_len (s : List Int) (m : Nat) (hm : 1 ≤ m) : (allM s m).length ≤ m := by
 have : ∀ (s : List Int) (l : List (List Int)), l.length ≤ m → (s.foldl (fun l x => (flatX l x).take m) l).length ≤ m := by
  intro s
  induction s with
  | nil => intro l h; exact h
  | cons x s ih => intro l h; rw [List.foldl_cons]; exact ih _ (by rw [List.length_take]; omega)
 exact this s _ (by simpa using hm)
theorem allM_mem (s : List Int) (m : Nat) : ∀ p ∈ allM s m, p.length = s.length := by
 have : ∀ (s : List Int) (l : List (List Int)) (n : Nat), (∀ p ∈ l, p.length = n) → ∀ p ∈ s.foldl (fun l x => (flatX l x).take m) l, p.length = n + s.length := by
  intro s
  induction s with
  | nil => intro l n h p hp; exact h p hp
  | cons x s ih =>
   intro l n h p hp
   rw [List.foldl_cons] at hp
   have := ih _ (n + 1) (fun q hq => by
    have hq2 := List.mem_of_mem_take hq
    simp only [flatX, List.mem_flatMap, List.mem_map] at hq2
    obtain ⟨r, hr, j, _, rfl⟩ := hq2
    rw [List.length_append, h r hr]; rfl) p hp
   rw [this, List.length_cons]; omega
 intro p hp
 have := this s [[]] 0 (by intro q hq; simp at hq; subst hq; rfl) p hp
 omega
theorem allL_flat (s : List Int) (x : Int) : allL (s ++ [x]) = flatX (allL s) x := allL_snoc s x
theorem allL_len {s : List Int} (hp : Pos s) : (allL s).length = (nzp s).toNat := by rw [allL_eq s hp]; simp
theorem allM_pos (s : List Int) (m : Nat) (hm : 1 ≤ m) (hp : Pos s) (h : nzp s ≤ m) : allM s m = allL s := by
 have key : ∀ k, k ≤ s.length → allM (s.take k) m = allL (s.take k) := by
  intro k
  induction k with
  | zero => intro _; rfl
  | succ k ih =>
   intro hk
   obtain ⟨x, hx⟩ : ∃ x, s[k]? = some x := ⟨_, List.getElem?_eq_getElem (by omega)⟩
   have hp2 : Pos (s.take (k + 1)) := fun y hy => hp y (List.mem_of_mem_take hy)
   rw [allM_take m hx, ih (by omega), ← allL_flat, ← take_snoc hx, List.take_of_length_le]
   rw [allL_len hp2]
   have := nzp_take_le s (k + 1) hk
   omega
 have := key s.length (Nat.le_refl _)
 rwa [List.take_length] at this
theorem foldl_none (m : Nat) (s : List Int) : s.foldl (fun l x => (flatX l x).take m) [] = [] := by
 induction s with
 | nil => rfl
 | cons x s ih => simpa [flatX] using ih
theorem allM_zero (s : List Int) (m : Nat) (h : ∃ x ∈ s, x ≤ 0) : allM s m = [] := by
 have : ∀ (s : List Int) (l : List (List Int)), (∃ x ∈ s, x ≤ 0) → s.foldl (fun l x => (flatX l x).take m) l = [] := by
  intro s
  induction s with
  | nil => intro l h; obtain ⟨x, hx, _⟩ := h; cases hx
  | cons a s ih =>
   intro l h
   rw [List.foldl_cons]
   by_cases ha : a ≤ 0
   ·have : flatX l a = [] := List.eq_nil_of_length_eq_zero (by rw [flatX_len, show a.toNat = 0 by omega, Nat.mul_zero])
    rw [this]
    simpa using foldl_none m s
   ·obtain ⟨x, hx, h0⟩ := h
    rcases List.mem_cons.1 hx with rfl | hx
    ·omega
    ·exact ih _ ⟨x, hx, h0⟩
 exact this s _ h
/-- v is a slice of slices: the lists L. -/
def RowsI (w : World) (ok : Nat → Prop) (v : Value) (L : List (List Int)) : Prop :=
 ∃ f : Nat → Value, Slc w ok v L.length ((List.range L.length).map f) ∧ ∀ i (h : i < L.length), Slc w ok (f i) (L[i]).length (ints (L[i]))
theorem RowsI.below {w w' : World} {ok : Nat → Prop} {v : Value} {L : List (List Int)} (h : RowsI w ok v L) (hb : Below w.heap.size w w') : RowsI w' ok v L := by
 obtain ⟨f, h1, h2⟩ := h
 exact ⟨f, h1.below hb, fun i hi => (h2 i hi).below hb⟩
def updI (f : Nat → Value) (k : Nat) (x : Value) : Nat → Value := fun i => if i = k then x else f i
/-- One more row: what the first c were, and the new one, lie apart from the row of rows. -/
theorem rows_step {wr wp w3 : World} {F : List (List Int)} {c base : Nat} {e : TypeId} {f : Nat → Value} {v v' u : Value} {xs : List Value} {p : List Int} (hF : F[c]? = some p)
  (hown : wr.ownsRow base e 1 v c xs) (hEL : ∀ i (h : i < F.length), i < c → Slc wr (fun b => v.ownBlock ≠ some b) (f i) (F[i]).length (ints (F[i])))
  (hB : Below wr.heap.size wr wp) (hu : Slc wp (fun b => wr.heap.size ≤ b) u p.length (ints p))
  (hg : wp.grownBy w3 v.ownBlock) (hblk : ∀ q, v'.ownBlock = some q → v.ownBlock = some q ∨ wp.heap.size ≤ q) :
  ∀ i (h : i < F.length), i < c + 1 → Slc w3 (fun b => v'.ownBlock ≠ some b) (updI f c u i) (F[i]).length (ints (F[i])) := by
 have kk : Kept (fun b => v.ownBlock ≠ some b) wp w3 := fun a x ho hx => hg.cell hx (fun e => ho e.symm)
 have mm : ∀ b, b < wp.heap.size → v.ownBlock ≠ some b → v'.ownBlock ≠ some b := fun b hb hn e => by
  rcases hblk b e with h | h
  ·exact hn h
  ·omega
 have nn : ∀ b, b < wp.heap.size → wr.heap.size ≤ b → v.ownBlock ≠ some b := fun b _ hb e => by have := (hown.lt b e).2; omega
 intro i hi hik
 by_cases e : i = c
 ·subst e
  obtain ⟨_, ep⟩ := List.getElem?_eq_some_iff.1 hF
  simp only [updI, if_true, ep]
  exact (hu.keep (Kept.refl _ _) nn).keep kk mm
 ·simp only [updI, if_neg e]
  exact ((hEL i hi (by omega)).below hB).keep kk mm
theorem rows_done {wr : World} {F : List (List Int)} {m c base : Nat} {e : TypeId} {f : Nat → Value} {v : Value} (hc : c = (F.take m).length) (hown : wr.ownsRow base e 1 v c ((List.range c).map f))
  (hEL : ∀ i (h : i < F.length), i < c → Slc wr (fun b => v.ownBlock ≠ some b) (f i) (F[i]).length (ints (F[i]))) : RowsI wr (fun _ => True) v (F.take m) := by
 subst hc
 refine ⟨f, (Slc.owned hown).any, fun i hi => ?_⟩
 have h2 := hi
 rw [List.length_take] at h2
 have := (hEL i (by omega) hi).any
 rw [List.getElem_take]
 exact this
theorem cell_one_newI (w : World) (z : Value) (t : TypeId) : ∀ (j : Nat) (u : Value), ([z] : List Value)[j]? = some u → (w.alloc (.cells #[z] t)).cell? ((⟨w.heap.size, 0, none⟩ : Addr).add j) = some u := by
 intro j u hj
 match j, hj with
 | 0, hj => simp at hj; subst hj; simp [Addr.add]
theorem one_intI (z : Int) : ∀ u ∈ ([.int .i64 z] : List Value), u.oneCell' = true := by intro u hu; simp at hu; subst hu; rfl
theorem info_slI : (Tryz.prog.info? 22).map (fun i => (i.zero, i.size, i.bytes)) = some (some (.slice none 0 0), 1, 24) := by kernel_rfl
theorem range_snoc (f : Nat → Value) (c : Nat) (u : Value) : (List.range (c + 1)).map (updI f c u) = (List.range c).map f ++ [u] := by
 rw [List.range_succ, List.map_append]
 congr 1
 ·apply List.map_congr_left
  intro i hi
  have := List.mem_range.1 hi
  simp only [updI, if_neg (show i ≠ c by omega)]
 ·simp [updI]

end Go.Proofs.YtbdhibcbpgjbmaaGreatDoor

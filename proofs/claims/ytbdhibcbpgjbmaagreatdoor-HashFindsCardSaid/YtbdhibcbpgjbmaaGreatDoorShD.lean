/- Shapes: places and indexes, plain. -/
import Derived.Test.YtbdhibcbpgjbmaaGreatDoorShC
namespace Go.Proofs.YtbdhibcbpgjbmaaGreatDoor
set_option maxRecDepth 100000
open Go.RowKit
set_option linter.unusedVariables false

/-- Every length is above 0. -/
def Pos (s : List Int) : Prop := ∀ x ∈ s, 0 < x
theorem Pos.tail {a : Int} {s : List Int} (h : Pos (a :: s)) : 0 < a ∧ Pos s := ⟨h a List.mem_cons_self, fun x hx => h x (List.mem_cons_of_mem _ hx)⟩
/-- The indexes of a place. -/
def unp : List Int → Int → List Int
 | [], _ => []
 | _ :: s, i => (i / nzp s) :: unp s (i % nzp s)
theorem unp_len : ∀ (s : List Int) (i : Int), (unp s i).length = s.length
 | [], _ => rfl
 | _ :: s, i => by simp [unp, unp_len s]
theorem plc_unp : ∀ (s : List Int) (i : Int), Pos s → 0 ≤ i → i < nzp s → plc s (unp s i) = some i
 | [], i, _, h0, h1 => by
  have : i = 0 := by rw [nzp_nil] at h1; omega
  subst this; rfl
 | a :: s, i, hp, h0, h1 => by
  have hn := nzp_pos s
  have hm0 := Int.emod_nonneg i (show nzp s ≠ 0 by omega)
  have hm1 := Int.emod_lt_of_pos i (show 0 < nzp s by omega)
  have ih := plc_unp s (i % nzp s) hp.tail.2 hm0 hm1
  have hq0 : 0 ≤ i / nzp s := Int.ediv_nonneg h0 (by omega)
  have hq1 : i / nzp s < a := by
   rw [nzp_cons hp.tail.1] at h1
   exact Int.ediv_lt_of_lt_mul (by omega) h1
  show plc (a :: s) ((i / nzp s) :: unp s (i % nzp s)) = some i
  rw [plc, ih]
  simp only
  rw [if_pos ⟨hq0, hq1⟩]
  congr 1
  have := Int.mul_ediv_add_emod i (nzp s)
  rw [Int.mul_comm]; exact this
theorem unp_plc : ∀ (s t : List Int) (p : Int), plc s t = some p → unp s p = t
 | [], [], p, h => rfl
 | [], _ :: _, p, h => by simp [plc] at h
 | _ :: _, [], p, h => by simp [plc] at h
 | a :: s, j :: t, p, h => by
  rw [plc] at h
  cases hq : plc s t with
  | none => rw [hq] at h; simp at h
  | some q =>
   rw [hq] at h
   simp only at h
   split at h
   ·have hb := plc_bound s t q hq
    have hn := nzp_pos s
    have ih := unp_plc s t q hq
    have e : p = j * nzp s + q := (Option.some.inj h).symm
    have e1 : p / nzp s = j := by
     rw [e, Int.add_comm, Int.add_mul_ediv_right _ _ (by omega), Int.ediv_eq_zero_of_lt hb.1 hb.2.1]; omega
    have e2 : p % nzp s = q := by
     rw [e, Int.add_comm, Int.add_mul_emod_self_right, Int.emod_eq_of_lt hb.1 hb.2.1]
    show (p / nzp s) :: unp s (p % nzp s) = j :: t
    rw [e1, e2, ih]
   ·cases h
/-- The indexes of all elements, as they are listed axis by axis. -/
def allL (s : List Int) : List (List Int) := s.foldl (fun l x => l.flatMap fun p => (List.range x.toNat).map fun j : Nat => p ++ [(j : Int)]) [[]]
theorem allL_snoc (s : List Int) (x : Int) : allL (s ++ [x]) = (allL s).flatMap fun p => (List.range x.toNat).map fun j : Nat => p ++ [(j : Int)] := by simp [allL, List.foldl_append]
theorem allF (s : List Int) : ∀ l : List (List Int), s.foldl (fun l x => l.flatMap fun p => (List.range x.toNat).map fun j : Nat => p ++ [(j : Int)]) l = l.flatMap fun p => (allL s).map fun q => p ++ q := by
 induction s with
 | nil => intro l; simp [allL]
 | cons x s ih =>
  intro l
  rw [List.foldl_cons, ih]
  rw [show allL (x :: s) = s.foldl (fun l x => l.flatMap fun p => (List.range x.toNat).map fun j : Nat => p ++ [(j : Int)]) ([[]].flatMap fun p => (List.range x.toNat).map fun j : Nat => p ++ [(j : Int)]) from rfl, ih]
  simp [List.flatMap_assoc, List.flatMap_map, List.map_flatMap, Function.comp_def]
theorem allL_cons (a : Int) (s : List Int) : allL (a :: s) = (List.range a.toNat).flatMap fun j : Nat => (allL s).map fun q => (j : Int) :: q := by
 rw [show allL (a :: s) = s.foldl (fun l x => l.flatMap fun p => (List.range x.toNat).map fun j : Nat => p ++ [(j : Int)]) ([[]].flatMap fun p => (List.range a.toNat).map fun j : Nat => p ++ [(j : Int)]) from rfl, allF]
 simp [List.flatMap_map]
theorem range_mul (a n : Nat) : List.range (a * n) = (List.range a).flatMap fun j => (List.range n).map fun i => j * n + i := by
 induction a with
 | zero => simp
 | succ a ih => rw [Nat.succ_mul, List.range_add, ih, List.range_succ, List.flatMap_append]; simp
theorem allL_eq : ∀ (s : List Int), Pos s → allL s = (List.range (nzp s).toNat).map fun i : Nat => unp s (i : Int)
 | [], _ => rfl
 | a :: s, hp => by
  have hn := nzp_pos s
  have ha := hp.tail.1
  rw [allL_cons, allL_eq s hp.tail.2, nzp_cons ha]
  have e : (a * nzp s).toNat = a.toNat * (nzp s).toNat := by
   obtain ⟨x, rfl⟩ := Int.eq_ofNat_of_zero_le (show 0 ≤ a by omega)
   obtain ⟨y, hy⟩ := Int.eq_ofNat_of_zero_le (show 0 ≤ nzp s by omega)
   rw [hy, ← Int.natCast_mul, Int.toNat_natCast, Int.toNat_natCast, Int.toNat_natCast]
  rw [e, range_mul, List.map_flatMap]
  congr 1
  funext j
  rw [List.map_map, List.map_map]
  apply List.map_congr_left
  intro i hi
  have hi' : i < (nzp s).toNat := List.mem_range.1 hi
  simp only [Function.comp]
  obtain ⟨y, hy⟩ := Int.eq_ofNat_of_zero_le (show 0 ≤ nzp s by omega)
  rw [hy, Int.toNat_natCast] at hi' ⊢
  show (j : Int) :: unp s (i : Int) = (((j * y + i : Nat) : Int) / nzp s) :: unp s (((j * y + i : Nat) : Int) % nzp s)
  rw [hy]
  have e1 : ((j * y + i : Nat) : Int) / (y : Int) = (j : Int) := by
   rw [← Int.natCast_ediv]
   congr 1
   rw [Nat.mul_comm, Nat.mul_add_div (by omega), Nat.div_eq_of_lt hi']; omega
  have e2 : ((j * y + i : Nat) : Int) % (y : Int) = (i : Int) := by
   rw [← Int.natCast_emod]
   congr 1
   rw [Nat.mul_comm, Nat.mul_add_mod, Nat.mod_eq_of_lt hi']
  rw [e1, e2]
theorem allL_zero : ∀ (s : List Int), (∃ x ∈ s, x ≤ 0) → allL s = []
 | [], h => by obtain ⟨x, hx, _⟩ := h; cases hx
 | a :: s, h => by
  rw [allL_cons]
  by_cases ha : a ≤ 0
  ·rw [show a.toNat = 0 by omega]; simp
  ·obtain ⟨x, hx, h0⟩ := h
   rcases List.mem_cons.1 hx with rfl | hx
   ·omega
   ·rw [allL_zero s ⟨x, hx, h0⟩]; simp
/-- The distances along the axes. -/
def strd : List Int → List Int
 | [] => []
 | _ :: s => nzp s :: strd s
theorem strd_len : ∀ s : List Int, (strd s).length = s.length
 | [] => rfl
 | _ :: s => by simp [strd, strd_len s]
theorem strd_get : ∀ (s : List Int) (k : Nat) (h : k < (strd s).length), (strd s)[k] = nzp (s.drop (k + 1))
 | [], k, h => by simp [strd] at h
 | _ :: s, 0, h => by simp [strd]
 | _ :: s, k + 1, h => by simp only [strd, List.getElem_cons_succ]; rw [strd_get s k]; simp
/-- The sum of the first k products. -/
def dotTo (a b : List Int) : Nat → Int
 | 0 => 0
 | k + 1 => dotTo a b k + a.getD k 0 * b.getD k 0
theorem dotTo_cons (x y : Int) (a b : List Int) : ∀ k, dotTo (x :: a) (y :: b) (k + 1) = x * y + dotTo a b k
 | 0 => by simp [dotTo]
 | k + 1 => by
  rw [dotTo, dotTo_cons x y a b k, dotTo]
  simp only [List.getD_cons_succ]
  omega
theorem dot_plc : ∀ (s t : List Int) (p : Int), plc s t = some p → dotTo (strd s) t s.length = p
 | [], [], p, h => by simp [plc] at h; subst h; rfl
 | [], _ :: _, p, h => by simp [plc] at h
 | _ :: _, [], p, h => by simp [plc] at h
 | a :: s, j :: t, p, h => by
  rw [plc] at h
  cases hq : plc s t with
  | none => rw [hq] at h; simp at h
  | some q =>
   rw [hq] at h
   simp only at h
   split at h
   ·have ih := dot_plc s t q hq
    show dotTo (nzp s :: strd s) (j :: t) (s.length + 1) = p
    rw [dotTo_cons, ih, ← Option.some.inj h, Int.mul_comm]
   ·cases h
end Go.Proofs.YtbdhibcbpgjbmaaGreatDoor

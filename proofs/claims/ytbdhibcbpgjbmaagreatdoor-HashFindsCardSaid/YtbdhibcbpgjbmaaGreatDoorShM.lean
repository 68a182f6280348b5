/- Shapes: how many elements, plain. -/
import Derived.Test.YtbdhibcbpgjbmaaGreatDoorFr
namespace Go.Proofs.YtbdhibcbpgjbmaaGreatDoor
set_option maxRecDepth 100000
set_option linter.unusedVariables false
/-- The product of what is not 0. -/
def nzp (s : List Int) : Int := s.foldl (fun n x => if 0 < x then n * x else n) 1
def anyZ (s : List Int) : Bool := s.any (fun x => x == 0)
def anyN (s : List Int) : Bool := s.any (fun x => decide (x < 0))
/-- P6.1: how many elements, and what is wrong. -/
def prodR (s : List Int) (most : Int) : Int × Int :=
  if 8 < s.length then (0, 26) else if anyN s = true then (0, 24) else if 1048576 < nzp s then (0, 26)
  else if most < (if anyZ s = true then 0 else nzp s) then (0, 26) else ((if anyZ s = true then 0 else nzp s), 0)
theorem nzp_nil : nzp [] = 1 := rfl
theorem nzp_snoc (s : List Int) (x : Int) : nzp (s ++ [x]) = if 0 < x then nzp s * x else nzp s := by simp [nzp, List.foldl_append]
theorem nzp_pos (s : List Int) : 1 ≤ nzp s := by
  have : ∀ (l : List Int) (a : Int), 1 ≤ a → 1 ≤ l.foldl (fun n x => if 0 < x then n * x else n) a := by
    intro l
    induction l with
    | nil => intro a h; exact h
    | cons x l ih =>
      intro a h
      rw [List.foldl_cons]
      apply ih
      split
      · have : a * 1 ≤ a * x := Int.mul_le_mul_of_nonneg_left (by omega) (by omega)
        omega
      · exact h
  exact this s 1 (by omega)
theorem take_snoc {s : List Int} {k : Nat} {x : Int} (h : s[k]? = some x) : s.take (k + 1) = s.take k ++ [x] := by
  obtain ⟨hk, e⟩ := List.getElem?_eq_some_iff.1 h
  rw [List.take_succ_eq_append_getElem hk, e]
theorem nzp_take {s : List Int} {k : Nat} {x : Int} (h : s[k]? = some x) : nzp (s.take (k + 1)) = if 0 < x then nzp (s.take k) * x else nzp (s.take k) := by rw [take_snoc h, nzp_snoc]
theorem nzp_mono {s : List Int} {k : Nat} {x : Int} (h : s[k]? = some x) : nzp (s.take k) ≤ nzp (s.take (k + 1)) ∧ (0 < x → x ≤ nzp (s.take (k + 1))) := by
  rw [nzp_take h]
  have hp := nzp_pos (s.take k)
  split
  · rename_i hx
    have h1 : nzp (s.take k) * 1 ≤ nzp (s.take k) * x := Int.mul_le_mul_of_nonneg_left (by omega) (by omega)
    have h2 : 1 * x ≤ nzp (s.take k) * x := Int.mul_le_mul_of_nonneg_right hp (by omega)
    exact ⟨by omega, fun _ => by omega⟩
  · exact ⟨Int.le_refl _, fun h => absurd h (by assumption)⟩
theorem nzp_le (s : List Int) : ∀ d k, k + d = s.length → nzp (s.take k) ≤ nzp s := by
  intro d
  induction d with
  | zero => intro k h; rw [List.take_of_length_le (by omega)]; exact Int.le_refl _
  | succ d ih =>
    intro k h
    have hk : k < s.length := by omega
    have := (nzp_mono (List.getElem?_eq_getElem hk)).1
    exact Int.le_trans this (ih (k + 1) (by omega))
theorem nzp_take_le (s : List Int) (k : Nat) (hk : k ≤ s.length) : nzp (s.take k) ≤ nzp s := nzp_le s (s.length - k) k (by omega)
theorem nzp_mem {s : List Int} {k : Nat} {x : Int} (h : s[k]? = some x) (hx : 0 < x) : x ≤ nzp s := by
  obtain ⟨hk, _⟩ := List.getElem?_eq_some_iff.1 h
  exact Int.le_trans ((nzp_mono h).2 hx) (nzp_take_le s (k + 1) (by omega))
theorem anyZ_take {s : List Int} {k : Nat} {x : Int} (h : s[k]? = some x) : anyZ (s.take (k + 1)) = (anyZ (s.take k) || x == 0) := by rw [take_snoc h]; simp [anyZ]
theorem anyN_take {s : List Int} {k : Nat} {x : Int} (h : s[k]? = some x) : anyN (s.take (k + 1)) = (anyN (s.take k) || decide (x < 0)) := by rw [take_snoc h]; simp [anyN]
theorem anyN_mem {s : List Int} {k : Nat} {x : Int} (h : s[k]? = some x) (hn : anyN s = false) : ¬ x < 0 := by
  intro hx
  have : anyN s = true := List.any_eq_true.2 ⟨x, List.mem_of_getElem? h, by simpa using hx⟩
  rw [hn] at this; cases this
theorem anyN_hit {s : List Int} {k : Nat} {x : Int} (h : s[k]? = some x) (hx : x < 0) : anyN s = true := List.any_eq_true.2 ⟨x, List.mem_of_getElem? h, by simpa using hx⟩
theorem prodR_long {s : List Int} {most : Int} (h : 8 < s.length) : prodR s most = (0, 26) := by unfold prodR; rw [if_pos h]
theorem prodR_neg {s : List Int} {most : Int} (h : ¬ 8 < s.length) (hn : anyN s = true) : prodR s most = (0, 24) := by unfold prodR; rw [if_neg h, if_pos hn]
theorem prodR_much {s : List Int} {most : Int} (h : ¬ 8 < s.length) (hn : anyN s = false) (hm : 1048576 < nzp s) : prodR s most = (0, 26) := by unfold prodR; rw [if_neg h, if_neg (by rw [hn]; simp), if_pos hm]
theorem prodR_fit {s : List Int} {most : Int} (h : ¬ 8 < s.length) (hn : anyN s = false) (hm : ¬ 1048576 < nzp s) : prodR s most = if most < (if anyZ s = true then 0 else nzp s) then (0, 26) else ((if anyZ s = true then 0 else nzp s), 0) := by
  unfold prodR; rw [if_neg h, if_neg (by rw [hn]; simp), if_neg hm]
end Go.Proofs.YtbdhibcbpgjbmaaGreatDoor

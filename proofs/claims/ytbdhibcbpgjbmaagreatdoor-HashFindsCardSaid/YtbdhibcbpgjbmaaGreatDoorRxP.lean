/- Layer 17, plain: places put by counting; passes that begin where keys differ; what the keys are. -/
import Derived.Test.YtbdhibcbpgjbmaaGreatDoorRxN
namespace Go.Proofs.YtbdhibcbpgjbmaaGreatDoor
set_option maxRecDepth 100000
open Go.RowKit Fl
set_option linter.unusedVariables false

/-- A row of 2048 numbers. -/
def rowF (f : Nat → Int) : List Int := (List.range 2048).map f
theorem rowF_len (f : Nat → Int) : (rowF f).length = 2048 := by simp [rowF]
theorem rowF_at {f : Nat → Int} {d : Nat} (h : d < 2048) : (rowF f)[d]? = some (f d) := by simp [rowF, h]
theorem rowF_congr {f g : Nat → Int} (h : ∀ d, d < 2048 → f d = g d) : rowF f = rowF g := by
 unfold rowF; exact List.map_congr_left fun d hd => h d (List.mem_range.1 hd)
theorem rowF_set (f : Nat → Int) (d : Nat) (x : Int) : (rowF f).set d x = rowF fun e => if e = d then x else f e := by
 apply List.ext_getElem?
 intro i
 rw [List.getElem?_set, rowF_len]
 by_cases h : d = i
 ·subst h
  rw [if_pos rfl]
  by_cases hd : d < 2048
  ·rw [if_pos hd, rowF_at hd, if_pos rfl]
  ·rw [if_neg hd, List.getElem?_eq_none (by rw [rowF_len]; omega)]
 ·rw [if_neg h]
  by_cases hi : i < 2048
  ·rw [rowF_at hi, rowF_at hi, if_neg (fun e => h e.symm)]
  ·rw [List.getElem?_eq_none (by rw [rowF_len]; omega), List.getElem?_eq_none (by rw [rowF_len]; omega)]
theorem rowF_zero : rowF (fun _ => 0) = List.replicate 2048 0 := by
 unfold rowF; rw [List.map_const', List.length_range]
/-- How many of the first k have a digit. -/
def cntL (dg : Nat → Nat) (l : List Nat) (k d : Nat) : Nat := ((l.take k).filter (fun x => dg x == d)).length
theorem cntL_zero (dg : Nat → Nat) (l : List Nat) (d : Nat) : cntL dg l 0 d = 0 := by simp [cntL]
theorem take_getX {α : Type} {l : List α} {k : Nat} {x : α} (h : l[k]? = some x) : l.take (k + 1) = l.take k ++ [x] := by
 obtain ⟨h1, h2⟩ := List.getElem?_eq_some_iff.1 h
 rw [List.take_succ_eq_append_getElem h1, h2]
theorem cntL_succ {dg : Nat → Nat} {l : List Nat} {k x : Nat} (h : l[k]? = some x) (d : Nat) : cntL dg l (k + 1) d = if d = dg x then cntL dg l k d + 1 else cntL dg l k d := by
 unfold cntL
 rw [take_getX h, List.filter_append]
 by_cases e : d = dg x
 ·rw [if_pos e, List.filter_cons_of_pos (by simp [e])]; simp
 ·rw [if_neg e, List.filter_cons_of_neg (by simpa using fun h => e h.symm)]; simp
theorem cntL_le (dg : Nat → Nat) (l : List Nat) (k d : Nat) : cntL dg l k d ≤ k := by
 unfold cntL
 exact Nat.le_trans (List.length_filter_le _ _) (by rw [List.length_take]; omega)
theorem cntL_mono {dg : Nat → Nat} {l : List Nat} {j k d : Nat} (h : j ≤ k) : cntL dg l j d ≤ cntL dg l k d := by
 unfold cntL
 have : l.take j = (l.take k).take j := by rw [List.take_take, Nat.min_eq_left h]
 rw [this]
 exact ((List.take_sublist j (l.take k)).filter _).length_le
theorem cntL_all (dg : Nat → Nat) (l : List Nat) (d : Nat) : cntL dg l l.length d = (l.filter (fun x => dg x == d)).length := by
 unfold cntL; rw [List.take_length]
/-- How many have a lesser digit. -/
def stL (dg : Nat → Nat) (l : List Nat) (d : Nat) : Nat := (segL dg l 0 d).length
theorem stL_zero (dg : Nat → Nat) (l : List Nat) : stL dg l 0 = 0 := rfl
theorem stL_succ (dg : Nat → Nat) (l : List Nat) (d : Nat) : stL dg l (d + 1) = stL dg l d + cntL dg l l.length d := by
 unfold stL; rw [segL_succ, List.length_append, cntL_all, Nat.zero_add]
theorem stL_mono {dg : Nat → Nat} {l : List Nat} {d e : Nat} (h : d ≤ e) : stL dg l d ≤ stL dg l e := by
 induction e with
 | zero => rw [show d = 0 by omega]; exact Nat.le_refl _
 | succ e ih =>
  by_cases hd : d = e + 1
  ·rw [hd]; exact Nat.le_refl _
  ·have := ih (by omega); rw [stL_succ]; omega
theorem stL_le {dg : Nat → Nat} {l : List Nat} (d : Nat) (h : d ≤ 2048) (hd : ∀ x ∈ l, dg x < 2048) : stL dg l d ≤ l.length := by
 have h1 := stL_mono (dg := dg) (l := l) h
 have h2 : stL dg l 2048 = l.length := (passL_perm hd).length_eq
 omega
/-- Where one comes to stand. -/
def posL (dg : Nat → Nat) (l : List Nat) (k : Nat) : Nat := stL dg l (dg (l.getD k 0)) + cntL dg l k (dg (l.getD k 0))
theorem filter_at {α : Type} {p : α → Bool} {l : List α} {k : Nat} {x : α} (h : l[k]? = some x) (hp : p x = true) : (l.filter p)[((l.take k).filter p).length]? = some x := by
 obtain ⟨h1, h2⟩ := List.getElem?_eq_some_iff.1 h
 have e : l = l.take k ++ x :: l.drop (k + 1) := by
  rw [← h2, List.getElem_cons_drop, List.take_append_drop]
 conv => lhs; arg 1; rw [e]
 rw [List.filter_append, List.getElem?_append_right (Nat.le_refl _), Nat.sub_self, List.filter_cons_of_pos hp]
 rfl
theorem posL_at {dg : Nat → Nat} {l : List Nat} (hd : ∀ x ∈ l, dg x < 2048) {k x : Nat} (h : l[k]? = some x) : (passL dg l)[posL dg l k]? = some x := by
 have hx : l.getD k 0 = x := by rw [List.getD_eq_getElem?_getD, h]; rfl
 have hdx := hd x (List.mem_of_getElem? h)
 unfold posL
 rw [hx]
 unfold passL stL cntL
 have e : 2048 = (dg x + 1) + (2047 - dg x) := by omega
 conv => lhs; arg 1; rw [e]
 rw [segL_add, segL_succ, Nat.zero_add, List.append_assoc, List.getElem?_append_right (Nat.le_add_right _ _), Nat.add_sub_cancel_left]
 have h1 := filter_at (p := fun y => dg y == dg x) h (by simp)
 have h2 := (List.getElem?_eq_some_iff.1 h1).1
 rw [List.getElem?_append_left h2]
 exact h1
theorem posL_lt {dg : Nat → Nat} {l : List Nat} (hd : ∀ x ∈ l, dg x < 2048) {k : Nat} (h : k < l.length) : posL dg l k < l.length := by
 have h1 := posL_at hd (List.getElem?_eq_getElem h)
 have h2 := (List.getElem?_eq_some_iff.1 h1).1
 rwa [(passL_perm hd).length_eq] at h2
theorem posL_ne {dg : Nat → Nat} {l : List Nat} {j k : Nat} (hjk : j < k) (hk : k < l.length) : posL dg l j ≠ posL dg l k := by
 have hj : j < l.length := by omega
 unfold posL
 have e1 : l.getD j 0 = l[j] := by rw [List.getD_eq_getElem?_getD, List.getElem?_eq_getElem hj]; rfl
 have e2 : l.getD k 0 = l[k] := by rw [List.getD_eq_getElem?_getD, List.getElem?_eq_getElem hk]; rfl
 rw [e1, e2]
 have a1 := cntL_succ (dg := dg) (List.getElem?_eq_getElem hj) (dg l[j])
 have a2 := cntL_succ (dg := dg) (List.getElem?_eq_getElem hk) (dg l[k])
 rw [if_pos rfl] at a1 a2
 have b1 := cntL_mono (dg := dg) (l := l) (d := dg l[j]) (show j + 1 ≤ l.length by omega)
 have b2 := cntL_mono (dg := dg) (l := l) (d := dg l[k]) (show k + 1 ≤ l.length by omega)
 have b3 := cntL_mono (dg := dg) (l := l) (d := dg l[j]) (show j + 1 ≤ k by omega)
 generalize dg l[j] = p at *
 generalize dg l[k] = q at *
 rcases Nat.lt_trichotomy p q with h | h | h
 ·have := stL_mono (dg := dg) (l := l) (show p + 1 ≤ q by omega)
  rw [stL_succ] at this; omega
 ·subst h; omega
 ·have := stL_mono (dg := dg) (l := l) (show q + 1 ≤ p by omega)
  rw [stL_succ] at this; omega
/-- The list in the making. -/
def plcT (dg : Nat → Nat) (l : List Nat) : Nat → List Nat
 | 0 => List.replicate l.length 0
 | k + 1 => (plcT dg l k).set (posL dg l k) (l.getD k 0)
theorem plcT_len (dg : Nat → Nat) (l : List Nat) : ∀ k, (plcT dg l k).length = l.length
 | 0 => by simp [plcT]
 | k + 1 => by simp only [plcT, List.length_set]; exact plcT_len dg l k
theorem plcT_at {dg : Nat → Nat} {l : List Nat} (hd : ∀ x ∈ l, dg x < 2048) : ∀ k, k ≤ l.length → ∀ m, m < k → (plcT dg l k)[posL dg l m]? = l[m]? := by
 intro k
 induction k with
 | zero => intro _ m hm; exact absurd hm (Nat.not_lt_zero _)
 | succ k ih =>
  intro hk m hm
  simp only [plcT]
  rw [List.getElem?_set]
  by_cases e : m = k
  ·subst e
   rw [if_pos rfl, plcT_len, if_pos (posL_lt hd (by omega)), List.getD_eq_getElem?_getD, List.getElem?_eq_getElem (show m < l.length by omega)]; rfl
  ·rw [if_neg (fun h => posL_ne (dg := dg) (show m < k by omega) (by omega) h.symm)]
   exact ih (by omega) m (by omega)
theorem plcT_all {dg : Nat → Nat} {l : List Nat} (hd : ∀ x ∈ l, dg x < 2048) : plcT dg l l.length = passL dg l := by
 have hf := full_of (n := l.length) (l := (List.range l.length).map (posL dg l)) (by
  rw [List.nodup_iff_pairwise_ne, List.pairwise_map]
  refine List.Pairwise.imp_of_mem (fun {a b} ha hb hab => ?_) (range_pair l.length)
  exact posL_ne hab (List.mem_range.1 hb)) (by simp) (fun x hx => by
   obtain ⟨m, hm, rfl⟩ := List.mem_map.1 hx
   exact posL_lt hd (List.mem_range.1 hm))
 apply List.ext_getElem?
 intro i
 by_cases hi : i < l.length
 ·obtain ⟨m, hm, rfl⟩ := List.mem_map.1 (hf i hi)
  have hm2 := List.mem_range.1 hm
  rw [plcT_at hd _ (Nat.le_refl _) m hm2, posL_at hd (List.getElem?_eq_getElem hm2), List.getElem?_eq_getElem hm2]
 ·rw [List.getElem?_eq_none (by rw [plcT_len]; omega), List.getElem?_eq_none (by rw [(passL_perm hd).length_eq]; omega)]
/-- Bits that all keys share may be passed over. -/
theorem lsR_stride {down : Bool} {K : Nat → Nat} {sh s : Nat} {l : List Nat} (hs : sh ≤ s) (h : l.Pairwise (lsR down K sh)) (hd : ∀ x ∈ l, ∀ y ∈ l, ∀ j, sh ≤ j → j < s → (K x).testBit j = (K y).testBit j) : l.Pairwise (lsR down K s) := by
 refine List.Pairwise.imp_of_mem (fun {x y} hx hy hxy => ?_) h
 have e : K x % 2 ^ s / 2 ^ sh = K y % 2 ^ s / 2 ^ sh := by
  apply Nat.eq_of_testBit_eq
  intro j
  rw [Nat.testBit_div_two_pow, Nat.testBit_div_two_pow, Nat.testBit_mod_two_pow, Nat.testBit_mod_two_pow]
  by_cases hj : j + sh < s
  ·rw [hd x hx y hy (j + sh) (by omega) hj]
  ·rw [decide_eq_false hj, Bool.false_and, Bool.false_and]
 have m1 : K x % 2 ^ s % 2 ^ sh = K x % 2 ^ sh := Nat.mod_mod_of_dvd _ (Nat.pow_dvd_pow 2 hs)
 have m2 : K y % 2 ^ s % 2 ^ sh = K y % 2 ^ sh := Nat.mod_mod_of_dvd _ (Nat.pow_dvd_pow 2 hs)
 have h1 := Nat.div_add_mod (K x % 2 ^ s) (2 ^ sh)
 have h2 := Nat.div_add_mod (K y % 2 ^ s) (2 ^ sh)
 rw [m1, e] at h1
 rw [m2] at h2
 unfold lsR at hxy ⊢
 cases down <;> simp only [Bool.false_eq_true, if_false, if_true] at hxy ⊢ <;> rcases hxy with h3 | ⟨h3, h4⟩ <;> first | (left; omega) | (right; exact ⟨by omega, h4⟩)
/-- The bits left: those from sh on in which keys differ. -/
def RestIs (keys : List Nat) (sh r : Nat) : Prop := ∀ j, r.testBit j = (decide (sh ≤ j) && (decide (j < 64) && spB keys j))
theorem rest_start (keys : List Nat) : RestIs keys 0 (spN keys 64) := fun j => by rw [spN_bit]; simp
theorem rest_step {keys : List Nat} {sh r r2 s : Nat} (hs : sh ≤ s) (h : RestIs keys sh r) (hlow : ∀ j, j < s → r.testBit j = false) (hr : ∀ j, r2.testBit j = (r.testBit j && !decide (s ≤ j ∧ j < s + 11))) : RestIs keys (s + 11) r2 := by
 intro j
 rw [hr j]
 by_cases h1 : s + 11 ≤ j
 ·rw [h j, decide_eq_true (show sh ≤ j by omega), decide_eq_true h1, decide_eq_false (show ¬ (s ≤ j ∧ j < s + 11) by omega)]; simp
 ·rw [decide_eq_false h1, Bool.false_and]
  by_cases h4 : s ≤ j
  ·rw [decide_eq_true (show s ≤ j ∧ j < s + 11 by omega)]; simp
  ·rw [hlow j (by omega)]; simp
end Go.Proofs.YtbdhibcbpgjbmaaGreatDoor

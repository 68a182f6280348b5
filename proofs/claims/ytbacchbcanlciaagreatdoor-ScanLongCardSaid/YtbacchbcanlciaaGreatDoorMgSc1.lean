/- Merged: ScM, ScN, ScP, ScO, ScB, ScC, ScD, ScE, ScG, ScT, ScW, ScH, ScI, ScJ, ScF, ScK, ScA. -/
import Derived.OrdersHeld
import Derived.Deep.RegionHeld
import Derived.StillTail
import Derived.Laws.Cover1
import Derived.Test.YtbacchbcanlciaaGreatDoorMgFo1
import Derived.Test.YtbacchbcanlciaaGreatDoorMgVe1
import Derived.Test.YtbacchbcanlciaaGreatDoorMgVa1
import Derived.Test.YtbacchbcanlciaaGreatDoorMgBv1
import Derived.Test.YtbacchbcanlciaaGreatDoorMgFl1
import Derived.Test.YtbacchbcanlciaaGreatDoorMgRe1
import Derived.Test.YtbacchbcanlciaaGreatDoorMgBx1
namespace Go.Proofs.YtbacchbcanlciaaGreatDoor
set_option maxRecDepth 100000
open Go.RowKit Fl
set_option linter.unusedVariables false

def preR (l : List Nat) (n inner p : Nat) : List Nat := (lineG 0 l n inner (p / inner / n) (p % inner)).take (p / inner % n + 1)
def upRows (l : List Nat) (outer n inner : Nat) : List (List Nat) := (List.range (outer * n * inner)).map (preR l n inner)
theorem upRows_len (l : List Nat) (outer n inner : Nat) : (upRows l outer n inner).length = outer * n * inner := by simp [upRows]
theorem place_parts {n inner o i k : Nat} (hi : i < n) (hk : k < inner) : ((o * n + i) * inner + k) % inner = k ∧ ((o * n + i) * inner + k) / inner % n = i ∧ ((o * n + i) * inner + k) / inner / n = o := by
 have e1 : ((o * n + i) * inner + k) / inner = o * n + i := by rw [Nat.mul_comm, Nat.mul_add_div (by omega), Nat.div_eq_of_lt hk]; rfl
 rw [e1]
 refine ⟨by rw [Nat.mul_comm, Nat.mul_add_mod, Nat.mod_eq_of_lt hk], ?_, ?_⟩
 ·rw [Nat.mul_comm, Nat.mul_add_mod, Nat.mod_eq_of_lt hi]
 ·rw [Nat.mul_comm, Nat.mul_add_div (by omega), Nat.div_eq_of_lt hi]; rfl
theorem place_back {n inner p : Nat} : ((p / inner / n) * n + p / inner % n) * inner + p % inner = p := by
 have h1 : (p / inner / n) * n + p / inner % n = p / inner := by rw [Nat.mul_comm]; exact Nat.div_add_mod _ _
 rw [h1, Nat.mul_comm]; exact Nat.div_add_mod _ _
theorem preR_at (l : List Nat) {n inner o i k : Nat} (hi : i < n) (hk : k < inner) : preR l n inner ((o * n + i) * inner + k) = (lineG 0 l n inner o k).take (i + 1) := by
 obtain ⟨h1, h2, h3⟩ := place_parts (o := o) hi hk
 unfold preR
 rw [h1, h2, h3]
theorem upRows_num {f : Int} {l : List Nat} {outer n inner : Nat} (h : ∀ x ∈ l, Num x) : ∀ r ∈ upRows l outer n inner, Num (rowN f r).1 := by
 intro r hr
 obtain ⟨p, _, rfl⟩ := List.mem_map.1 hr
 exact rowN_num fun x hx => lineG_num h x (List.mem_of_mem_take hx)
theorem upRows_get {l : List Nat} {outer n inner o i k : Nat} (ho : o < outer) (hi : i < n) (hk : k < inner) : (upRows l outer n inner)[(o * n + i) * inner + k]? = some ((lineG 0 l n inner o k).take (i + 1)) := by
 rw [upRows, List.getElem?_map, List.getElem?_range (place_lt ho hi hk)]
 exact congrArg some (preR_at l hi hk)
theorem upRows_err {f : Int} (hk : fknown f = true) {l : List Nat} {outer n inner : Nat} {r : List Nat} (hr : r ∈ upRows l outer n inner) (he : (rowN f r).2 ≠ 0) : errG (rowN f) (upRows l outer n inner) = (rowN f r).2 := by
 have h1 := errG_err (c := 24) (rowN_err hk) (upRows l outer n inner)
 have h2 := rowN_err hk r
 rcases h1 with h1 | h1
 ·exact absurd (errG_zero h1 r hr) he
 ·rcases h2 with h2 | h2
  ·exact absurd h2 he
  ·rw [h1, h2]
def cameUp (n inner o k i p : Nat) : Bool := decide (p / inner / n < o) || (decide (p / inner / n = o) && (decide (p % inner < k) || (decide (p % inner = k) && decide (p / inner % n < i))))
noncomputable def fillU (f : Int) (l : List Nat) (outer n inner o k i : Nat) : List Nat := (List.range (outer * n * inner)).map fun p => if cameUp n inner o k i p = true then (rowN f (preR l n inner p)).1 else 0
theorem fillU_len (f : Int) (l : List Nat) (outer n inner o k i : Nat) : (fillU f l outer n inner o k i).length = outer * n * inner := by simp [fillU]
theorem fillU_zero (f : Int) (l : List Nat) (outer n inner : Nat) : fillU f l outer n inner 0 0 0 = List.replicate (outer * n * inner) 0 := by
 refine List.eq_replicate_iff.2 ⟨fillU_len .., ?_⟩
 intro x hx
 obtain ⟨p, _, rfl⟩ := List.mem_map.1 hx
 rw [if_neg]
 simp [cameUp]
theorem fillU_ext {f : Int} {l : List Nat} {outer n inner o k i o' k' i' : Nat} (h : ∀ p, p < outer * n * inner → cameUp n inner o k i p = cameUp n inner o' k' i' p) : fillU f l outer n inner o k i = fillU f l outer n inner o' k' i' := by
 unfold fillU
 exact List.map_congr_left fun p hp => by rw [h p (List.mem_range.1 hp)]
theorem inner_pos {outer n inner p : Nat} (h : p < outer * n * inner) : 0 < inner ∧ 0 < n := by
 refine ⟨Nat.pos_of_ne_zero fun e => ?_, Nat.pos_of_ne_zero fun e => ?_⟩
 ·subst e; simp at h
 ·subst e; simp at h
theorem fillU_row (f : Int) (l : List Nat) (outer n inner o k : Nat) : fillU f l outer n inner o k n = fillU f l outer n inner o (k + 1) 0 := by
 refine fillU_ext fun p hp => ?_
 have hn := Nat.mod_lt (p / inner) (inner_pos hp).2
 unfold cameUp
 rw [Bool.eq_iff_iff]
 simp only [Bool.or_eq_true, Bool.and_eq_true, decide_eq_true_eq]
 omega
theorem fillU_cell (f : Int) (l : List Nat) (outer n inner o : Nat) : fillU f l outer n inner o inner 0 = fillU f l outer n inner (o + 1) 0 0 := by
 refine fillU_ext fun p hp => ?_
 have hi := Nat.mod_lt p (inner_pos hp).1
 unfold cameUp
 rw [Bool.eq_iff_iff]
 simp only [Bool.or_eq_true, Bool.and_eq_true, decide_eq_true_eq]
 omega
theorem fillU_all (f : Int) (l : List Nat) (outer n inner : Nat) : fillU f l outer n inner outer 0 0 = outG (rowN f) (upRows l outer n inner) := by
 unfold fillU outG upRows
 rw [List.map_map]
 refine List.map_congr_left fun p hp => ?_
 have hp := List.mem_range.1 hp
 have h1 : p / inner / n < outer := by
  obtain ⟨a, b⟩ := inner_pos hp
  rw [Nat.div_lt_iff_lt_mul b, Nat.div_lt_iff_lt_mul a]; exact hp
 rw [if_pos (by simp [cameUp, h1])]
 rfl
theorem fillU_set (f : Int) (l : List Nat) {outer n inner o k i : Nat} (ho : o < outer) (hk : k < inner) (hi : i < n) :
  (fillU f l outer n inner o k i).set ((o * n + i) * inner + k) (rowN f ((lineG 0 l n inner o k).take (i + 1))).1 = fillU f l outer n inner o k (i + 1) := by
 apply List.ext_getElem (by rw [List.length_set, fillU_len, fillU_len])
 intro p h1 h2
 rw [fillU_len] at h2
 rw [List.getElem_set]
 simp only [fillU, List.getElem_map, List.getElem_range]
 by_cases hp : (o * n + i) * inner + k = p
 ·rw [if_pos hp, ← hp, preR_at l hi hk, if_pos]
  obtain ⟨e1, e2, e3⟩ := place_parts (o := o) hi hk
  unfold cameUp
  rw [e1, e2, e3]
  simp
 ·rw [if_neg hp]
  have : cameUp n inner o k i p = cameUp n inner o k (i + 1) p := by
   unfold cameUp
   rw [Bool.eq_iff_iff]
   simp only [Bool.or_eq_true, Bool.and_eq_true, decide_eq_true_eq]
   have hb := place_back (n := n) (inner := inner) (p := p)
   constructor
   ·rintro (h | ⟨h, h' | ⟨h', h''⟩⟩)
    ·exact .inl h
    ·exact .inr ⟨h, .inl h'⟩
    ·exact .inr ⟨h, .inr ⟨h', by omega⟩⟩
   ·rintro (h | ⟨h, h' | ⟨h', h''⟩⟩)
    ·exact .inl h
    ·exact .inr ⟨h, .inl h'⟩
    ·refine .inr ⟨h, .inr ⟨h', ?_⟩⟩
     rcases Nat.lt_or_eq_of_le (Nat.lt_succ_iff.1 h'') with h9 | h9
     ·exact h9
     ·rw [h, h', h9] at hb; exact absurd hb hp
  rw [this]

def okU (f : Int) (l : List Nat) (outer n inner o k i : Nat) : Prop := ∀ p, p < outer * n * inner → cameUp n inner o k i p = true → (rowN f (preR l n inner p)).2 = 0
theorem okU_zero (f : Int) (l : List Nat) (outer n inner : Nat) : okU f l outer n inner 0 0 0 := fun p _ h => by simp [cameUp] at h
theorem came_row {n inner o k p : Nat} (hn : 0 < n) : cameUp n inner o k n p = cameUp n inner o (k + 1) 0 p := by
 have h := Nat.mod_lt (p / inner) hn
 unfold cameUp
 rw [Bool.eq_iff_iff]
 simp only [Bool.or_eq_true, Bool.and_eq_true, decide_eq_true_eq]
 omega
theorem came_cell {n inner o p : Nat} (hi : 0 < inner) : cameUp n inner o inner 0 p = cameUp n inner (o + 1) 0 0 p := by
 have h := Nat.mod_lt p hi
 unfold cameUp
 rw [Bool.eq_iff_iff]
 simp only [Bool.or_eq_true, Bool.and_eq_true, decide_eq_true_eq]
 omega
theorem okU_row {f : Int} {l : List Nat} {outer n inner o k : Nat} (h : okU f l outer n inner o k n) : okU f l outer n inner o (k + 1) 0 := fun p hp hc => h p hp (by rw [came_row (inner_pos hp).2]; exact hc)
theorem okU_cell {f : Int} {l : List Nat} {outer n inner o : Nat} (h : okU f l outer n inner o inner 0) : okU f l outer n inner (o + 1) 0 0 := fun p hp hc => h p hp (by rw [came_cell (inner_pos hp).1]; exact hc)
theorem okU_step {f : Int} {l : List Nat} {outer n inner o k i : Nat} (hk : k < inner) (hi : i < n) (h : okU f l outer n inner o k i) (he : (rowN f ((lineG 0 l n inner o k).take (i + 1))).2 = 0) : okU f l outer n inner o k (i + 1) := fun p hp hc => by
 by_cases h9 : p / inner / n = o ∧ p % inner = k ∧ p / inner % n = i
 ·have hb := place_back (n := n) (inner := inner) (p := p)
  rw [h9.1, h9.2.1, h9.2.2] at hb
  rw [← hb, preR_at l hi hk]
  exact he
 ·refine h p hp ?_
  unfold cameUp at hc ⊢
  simp only [Bool.or_eq_true, Bool.and_eq_true, decide_eq_true_eq] at hc ⊢
  rcases hc with hc | ⟨a, b | ⟨b, c⟩⟩
  ·exact .inl hc
  ·exact .inr ⟨a, .inl b⟩
  ·refine .inr ⟨a, .inr ⟨b, ?_⟩⟩
   rcases Nat.lt_or_eq_of_le (Nat.lt_succ_iff.1 c) with d | d
   ·exact d
   ·exact absurd ⟨a, b, d⟩ h9
theorem okU_all {f : Int} {l : List Nat} {outer n inner : Nat} (h : okU f l outer n inner outer 0 0) : errG (rowN f) (upRows l outer n inner) = 0 :=
 errG_all fun r hr => by
  obtain ⟨p, hp, rfl⟩ := List.mem_map.1 hr
  have hp := List.mem_range.1 hp
  refine h p hp ?_
  have h1 : p / inner / n < outer := by
   obtain ⟨a, b⟩ := inner_pos hp
   rw [Nat.div_lt_iff_lt_mul b, Nat.div_lt_iff_lt_mul a]; exact hp
  simp [cameUp, h1]

noncomputable def scE (f : Int) (V : VV) (outer n inner : Nat) : Int :=
 if fknown f = true then (if V.cls = 2 ∨ (V.cls = 1 ∧ 1 < n) then 24 else if n ≤ 1 then 0 else errG (rowN f) (upRows V.nums outer n inner)) else 1
noncomputable def scV (f : Int) (V : VV) (outer n inner : Nat) : VV :=
 if scE f V outer n inner = 0 then (if n ≤ 1 then V else sqL (outG (rowN f) (upRows V.nums outer n inner))) else .none
noncomputable def rsE (f : Int) (l : List Nat) (outer n inner : Nat) : Int := if fknown f = true then errG (rowN f) (upRows l outer n inner) else 1
noncomputable def rsL (f : Int) (l : List Nat) (outer n inner : Nat) : List Nat := if rsE f l outer n inner = 0 then outG (rowN f) (upRows l outer n inner) else []
theorem scE_1 {f : Int} {V : VV} {outer n inner : Nat} (h : fknown f = false) : scE f V outer n inner = 1 := by unfold scE; rw [if_neg (by simp [h])]
theorem scE_24 {f : Int} {V : VV} {outer n inner : Nat} (h : fknown f = true) (hc : V.cls = 2 ∨ (V.cls = 1 ∧ 1 < n)) : scE f V outer n inner = 24 := by unfold scE; rw [if_pos h, if_pos hc]
theorem scE_one {f : Int} {V : VV} {outer n inner : Nat} (h : fknown f = true) (hc : V.cls ≠ 2) (h1 : n ≤ 1) : scE f V outer n inner = 0 := by unfold scE; rw [if_pos h, if_neg (by omega), if_pos h1]
theorem scE_num {f : Int} {V : VV} {outer n inner : Nat} (h : fknown f = true) (hc : V.cls = 0) (h1 : 1 < n) : scE f V outer n inner = errG (rowN f) (upRows V.nums outer n inner) := by unfold scE; rw [if_pos h, if_neg (by omega), if_neg (by omega)]
theorem scV_bad {f : Int} {V : VV} {outer n inner : Nat} (h : scE f V outer n inner ≠ 0) : scV f V outer n inner = .none := if_neg h
theorem scV_one {f : Int} {V : VV} {outer n inner : Nat} (h : scE f V outer n inner = 0) (h1 : n ≤ 1) : scV f V outer n inner = V := by unfold scV; rw [if_pos h, if_pos h1]
theorem scV_num {f : Int} {V : VV} {outer n inner : Nat} (h : scE f V outer n inner = 0) (h1 : 1 < n) : scV f V outer n inner = sqL (outG (rowN f) (upRows V.nums outer n inner)) := by unfold scV; rw [if_pos h, if_neg (by omega)]
theorem rsE_1 {f : Int} {l : List Nat} {outer n inner : Nat} (h : fknown f = false) : rsE f l outer n inner = 1 := by unfold rsE; rw [if_neg (by simp [h])]
theorem rsE_yes {f : Int} {l : List Nat} {outer n inner : Nat} (h : fknown f = true) : rsE f l outer n inner = errG (rowN f) (upRows l outer n inner) := by unfold rsE; rw [if_pos h]
theorem rsL_bad {f : Int} {l : List Nat} {outer n inner : Nat} (h : rsE f l outer n inner ≠ 0) : rsL f l outer n inner = [] := if_neg h
theorem rsL_yes {f : Int} {l : List Nat} {outer n inner : Nat} (h : rsE f l outer n inner = 0) : rsL f l outer n inner = outG (rowN f) (upRows l outer n inner) := if_pos h
theorem up_few {f : Int} (l : List Nat) {outer n inner : Nat} (hl : l.length = outer * n * inner) (hn : n ≤ 1) : errG (rowN f) (upRows l outer n inner) = 0 ∧ outG (rowN f) (upRows l outer n inner) = l := by
 have hr : upRows l outer n inner = l.map fun x => [x] := by
  apply List.ext_getElem (by rw [upRows_len, List.length_map, hl])
  intro p h1 h2
  have hp : p < l.length := by rw [List.length_map] at h2; exact h2
  have h0 : 0 < n := by rw [upRows_len] at h1; exact (inner_pos h1).2
  have hn1 : n = 1 := by omega
  subst hn1
  have e : p / inner * inner + p % inner = p := by rw [Nat.mul_comm]; exact Nat.div_add_mod p inner
  simp [upRows, preR, lineG, e, hp, Nat.mod_one]
 rw [hr]
 refine ⟨errG_all fun r hr => ?_, ?_⟩
 ·obtain ⟨x, _, rfl⟩ := List.mem_map.1 hr; rfl
 ·unfold outG; rw [List.map_map]
  exact (List.map_congr_left fun x _ => rfl).trans (List.map_id l)
theorem scan_meet {f : Int} {V : VV} {outer n inner : Nat} (hok : V.ok) (hn : V.nm) (hc : V.cls = 0) (hl : V.nums.length = outer * n * inner) :
  scE f V outer n inner = rsE f V.nums outer n inner ∧ (scE f V outer n inner = 0 → (scV f V outer n inner).nums = rsL f V.nums outer n inner ∧ (scV f V outer n inner).ok ∧ (scV f V outer n inner).nm ∧ (n ≤ 1 ∨ (0 < (scV f V outer n inner).kind ∧ (scV f V outer n inner).kind = (scV f V outer n inner).least))) := by
 have hE : scE f V outer n inner = rsE f V.nums outer n inner := by
  by_cases hk : fknown f = true
  ·by_cases h1 : n ≤ 1
   ·rw [scE_one hk (by omega) h1, rsE_yes hk, (up_few V.nums hl h1).1]
   ·rw [scE_num hk hc (by omega), rsE_yes hk]
  ·rw [scE_1 (by simpa using hk), rsE_1 (by simpa using hk)]
 refine ⟨hE, fun h => ?_⟩
 have hr : rsE f V.nums outer n inner = 0 := by rw [← hE]; exact h
 rw [rsL_yes hr]
 by_cases h1 : n ≤ 1
 ·rw [scV_one h h1]
  exact ⟨((up_few V.nums hl h1).2).symm, hok, hn, .inl h1⟩
 ·rw [scV_num h (by omega)]
  have hs := VV.ok_len hok
  rw [← VV.nums_len0 hc, hl] at hs
  obtain ⟨s1, s2, s3, s4, s5, s6, s7⟩ := sqL_spec (l := outG (rowN f) (upRows V.nums outer n inner)) (by rw [outG_len, upRows_len]; exact hs) (outG_num (upRows_num (VV.nums_num hok hn)))
  exact ⟨s1, s2, s3, .inr ⟨s5, s6⟩⟩
theorem scan_last {f : Int} {l : List Nat} {n : Nat} (hk : fknown f = true) (hn : 0 < n) (h : rsE f l 1 n 1 = 0) :
  rfE f l 1 n 1 = 0 ∧ rfL f l 1 n 1 = [(rowN f (lineG 0 l n 1 0 0)).1] ∧ (rsL f l 1 n 1)[n - 1]? = some (rowN f (lineG 0 l n 1 0 0)).1 := by
 have hg := upRows_get (l := l) (outer := 1) (n := n) (inner := 1) (o := 0) (i := n - 1) (k := 0) (by omega) (by omega) (by omega)
 rw [show (0 * n + (n - 1)) * 1 + 0 = n - 1 by omega, show n - 1 + 1 = n by omega, List.take_of_length_le (by rw [lineG_len]; exact Nat.le_refl _)] at hg
 have hz : (rowN f (lineG 0 l n 1 0 0)).2 = 0 := by
  rw [rsE_yes hk] at h
  exact errG_zero h _ (List.mem_of_getElem? hg)
 have hr : rowsL l 1 n 1 = [lineG 0 l n 1 0 0] := by
  show (List.range (1 * 1)).map _ = _
  rfl
 have hE : rfE f l 1 n 1 = 0 := by
  unfold rfE
  rw [if_pos hk, if_neg (by omega), hr]
  exact errG_all fun r h => by rw [List.mem_singleton.1 h]; exact hz
 refine ⟨hE, ?_, ?_⟩
 ·unfold rfL
  rw [if_pos hE, hr]
  rfl
 ·rw [rsL_yes h]
  unfold outG
  rw [List.getElem?_map, hg]
  rfl
end Go.Proofs.YtbacchbcanlciaaGreatDoor

namespace Go.Proofs.YtbacchbcanlciaaGreatDoor
set_option maxRecDepth 100000
open Go.RowKit Fl
set_option linter.unusedVariables false

def upsR (r : List Nat) : List (List Nat) := (List.range r.length).map fun k => r.take (k + 1)
theorem upsR_len (r : List Nat) : (upsR r).length = r.length := by simp [upsR]
theorem upsR_get {r : List Nat} {k : Nat} (h : k < r.length) : (upsR r)[k]? = some (r.take (k + 1)) := by
 rw [upsR, List.getElem?_map, List.getElem?_range h]; rfl
def Beg (f : Int) (r z : List Nat) : Prop := z.length ≤ r.length ∧ ∀ k, k < z.length → rowN f (r.take (k + 1)) = (z.getD k 0, 0)
theorem Beg.out {f : Int} {r z : List Nat} (h : Beg f r z) : z = outG (rowN f) ((upsR r).take z.length) ∧ errG (rowN f) ((upsR r).take z.length) = 0 := by
 have hl : ((upsR r).take z.length).length = z.length := by rw [List.length_take, upsR_len]; exact Nat.min_eq_left h.1
 have hk : ∀ k, k < z.length → ((upsR r).take z.length)[k]? = some (r.take (k + 1)) := fun k hk => by
  rw [List.getElem?_take_of_lt hk, upsR_get (by have := h.1; omega)]
 refine ⟨?_, ?_⟩
 ·apply List.ext_getElem (by rw [outG_len, hl])
  intro k h1 h2
  have e := hk k h1
  obtain ⟨h3, e⟩ := List.getElem?_eq_some_iff.1 e
  simp only [outG, List.getElem_map]
  rw [e, h.2 k h1, List.getD_eq_getElem?_getD, List.getElem?_eq_getElem h1]
  rfl
 ·refine errG_all fun y hy => ?_
  obtain ⟨k, hk2, e⟩ := List.getElem_of_mem hy
  rw [hl] at hk2
  have e2 := hk k hk2
  obtain ⟨h3, e3⟩ := List.getElem?_eq_some_iff.1 e2
  rw [← e, e3, h.2 k hk2]
theorem errG_split {α : Type} {g : α → Nat × Int} {l : List α} {k : Nat} (h : errG g (l.take k) = 0) : errG g l = errG g (l.drop k) := by
 induction k generalizing l with
 | zero => rw [List.drop_zero]
 | succ k ih =>
  cases l with
  | nil => rfl
  | cons x l =>
   rw [List.take_succ_cons] at h
   have h0 : (g x).2 = 0 := errG_zero h x (by simp)
   rw [List.drop_succ_cons]
   show (if (g x).2 = 0 then errG g l else (g x).2) = _
   rw [if_pos h0]
   refine ih ?_
   have h9 : (if (g x).2 = 0 then errG g (l.take k) else (g x).2) = 0 := h
   rwa [if_pos h0] at h9
theorem up_chain {f : Int} {r : List Nat} {k : Nat} (hk : k < r.length) (G : Nat → Nat) (hl : r.getD k 0 = G k) (hs : ∀ i, i < k → fone f (r.getD i 0) (G (i + 1)) = (G i, 0)) : rowN f (r.take (k + 1)) = (G 0, 0) := by
 have hlen : (r.take (k + 1)).length = k + 1 := by rw [List.length_take]; omega
 have key : ∀ d i, i + d = k → rowN f ((r.take (k + 1)).drop i) = (G i, 0) := by
  intro d
  induction d with
  | zero =>
   intro i hi
   have hik : i = k := by omega
   subst hik
   have h := rowN_last f (l := r.take (i + 1)) (by omega)
   rw [hlen, show i + 1 - 1 = i by omega] at h
   rw [h, ← hl]
   simp only [List.getD_eq_getElem?_getD]
   rw [List.getElem?_take_of_lt (by omega)]
  | succ d ih =>
   intro i hi
   rw [rowN_step f (l := r.take (k + 1)) (i := i) (by omega), ih (i + 1) (by omega), if_pos rfl]
   have e : (r.take (k + 1)).getD i 0 = r.getD i 0 := by
    simp only [List.getD_eq_getElem?_getD]
    rw [List.getElem?_take_of_lt (by omega)]
   rw [e, hs i (by omega), nrm_ok rfl]
 have := key k 0 (by omega)
 rwa [List.drop_zero] at this

def psW (l : List Nat) (k : Nat) : Int := ((l.take k).map wnOf).sum
theorem psW_zero (l : List Nat) : psW l 0 = 0 := rfl
theorem psW_succ {l : List Nat} {k : Nat} (h : k < l.length) : psW l (k + 1) = psW l k + wnOf (l.getD k 0) := by
 unfold psW
 rw [List.take_add_one, List.getElem?_eq_getElem h, List.getD_eq_getElem?_getD, List.getElem?_eq_getElem h, List.map_append, List.sum_append]
 simp
def isW (x : Nat) : Prop := ∃ n, Wh x n
theorem isW_wn {x : Nat} (h : isW x) : Wh x (wnOf x) := by
 obtain ⟨n, hn⟩ := h
 rw [wnOf_wh hn]; exact hn
def SumOk (l z : List Nat) : Prop := z.length ≤ l.length ∧ (∀ i, i < z.length → isW (l.getD i 0)) ∧ (∀ a b, a ≤ z.length → b ≤ z.length → (psW l a - psW l b).natAbs ≤ 9007199254740992) ∧ ∀ k, k < z.length → z.getD k 0 = floatOfInt .f64 (psW l (k + 1))
theorem num_w {x : Nat} (hx : Num x) (h : isW x) : x = floatOfInt .f64 (wnOf x) := num_of_wh hx (isW_wn h)
theorem w_small {x : Nat} (h : isW x) : sm (wnOf x) = true := by
 have := (isW_wn h).2.1
 exact sm_yes (by omega) (by omega)
theorem getD_num {r : List Nat} (h : ∀ x ∈ r, Num x) (i : Nat) : Num (r.getD i 0) := by
 rw [List.getD_eq_getElem?_getD]
 cases e : r[i]? with
 | none => exact num_zero
 | some y => exact h y (List.mem_of_getElem? e)
theorem sm_abs {n : Int} (h : n.natAbs ≤ 9007199254740992) : sm n = true := sm_yes (by omega) (by omega)
theorem sums_add {r z : List Nat} (hN : ∀ x ∈ r, Num x) (h : SumOk r z) : Beg 1 r z := by
 obtain ⟨h1, h2, h3, h4⟩ := h
 refine ⟨h1, fun k hk => ?_⟩
 rw [h4 k hk]
 have hx : ∀ i, i ≤ k → r.getD i 0 = floatOfInt .f64 (wnOf (r.getD i 0)) := fun i hi => num_w (getD_num hN i) (h2 i (by omega))
 have := up_chain (f := 1) (r := r) (k := k) (by omega) (fun i => floatOfInt .f64 (psW r (k + 1) - psW r i)) ?_ ?_
 ·rw [this, psW_zero, Int.sub_zero]
 ·rw [hx k (Nat.le_refl _)]
  congr 1
  rw [psW_succ (by omega)]; omega
 ·intro i hi
  have e := psW_succ (l := r) (k := i) (by omega)
  rw [hx i (by omega), fone_a _ _ (by omega)]
  have hs := h3 (k + 1) i (by omega) (by omega)
  have ha : sm (wnOf (r.getD i 0) + (psW r (k + 1) - psW r (i + 1))) = true := sm_abs (by
   rw [show wnOf (r.getD i 0) + (psW r (k + 1) - psW r (i + 1)) = psW r (k + 1) - psW r i by omega]; exact hs)
  have hw := whA_one (f := 1) (w_small (h2 i (by omega))) (sm_abs (h3 (k + 1) (i + 1) (by omega) (by omega))) (by simpa [whA] using ha)
  rw [hw.1]
  simp only [whA, if_pos, if_pos ha]
  congr 2
  omega
def ngw (x : Nat) : Nat := x ^^^ 9223372036854775808
theorem ngw_eq {x : Nat} (h : x < 18446744073709551616) : ngw x = if x < 9223372036854775808 then x + 9223372036854775808 else x - 9223372036854775808 := by
 obtain ⟨q, r, hr, e⟩ : ∃ q r, r < 2 ^ 63 ∧ x = 2 ^ 63 * q + r := ⟨x / 2 ^ 63, x % 2 ^ 63, Nat.mod_lt _ (by decide), (Nat.div_add_mod x (2 ^ 63)).symm⟩
 have key : ngw x = 2 ^ 63 * (q ^^^ 1) + r := by
  unfold ngw
  rw [e, show (9223372036854775808 : Nat) = 2 ^ 63 * 1 + 0 by decide]
  apply Nat.eq_of_testBit_eq
  intro j
  rw [Nat.testBit_xor, Nat.testBit_two_pow_mul_add _ hr, Nat.testBit_two_pow_mul_add _ (by decide), Nat.testBit_two_pow_mul_add _ hr]
  split
  ·simp
  ·rw [Nat.testBit_xor]
 have hq : q = 0 ∨ q = 1 := by omega
 rw [key]
 rcases hq with h0 | h0 <;> subst h0
 ·rw [if_pos (by omega), show (0 : Nat) ^^^ 1 = 1 by decide]; omega
 ·rw [if_neg (by omega), show (1 : Nat) ^^^ 1 = 0 by decide]; omega
theorem ngw_spec {x : Nat} (h : Fnt x) : Fnt (ngw x) ∧ V (ngw x) = -V x := by
 obtain ⟨h1, h2⟩ := h
 rw [ngw_eq h1]
 unfold Fnt V
 split
 ·rename_i hx
  have e1 : (x + 9223372036854775808) % 9223372036854775808 = x % 9223372036854775808 := by omega
  have e2 : (x + 9223372036854775808) / 9223372036854775808 % 2 = 1 := by omega
  have e3 : x / 9223372036854775808 % 2 = 0 := by omega
  rw [e1, e2, e3]
  exact ⟨⟨by omega, h2⟩, by simp⟩
 ·rename_i hx
  have e1 : (x - 9223372036854775808) % 9223372036854775808 = x % 9223372036854775808 := by omega
  have e2 : (x - 9223372036854775808) / 9223372036854775808 % 2 = 0 := by omega
  have e3 : x / 9223372036854775808 % 2 = 1 := by omega
  rw [e1, e2, e3]
  exact ⟨⟨by omega, h2⟩, by simp⟩
def altL (r : List Nat) (m : Nat) : List Nat := (List.range r.length).map fun j => if j % 2 = 1 ∧ j < m then ngw (r.getD j 0) else r.getD j 0
theorem altL_len (r : List Nat) (m : Nat) : (altL r m).length = r.length := by simp [altL]
theorem altL_one (r : List Nat) : altL r 1 = r := by
 apply List.ext_getElem (altL_len r 1)
 intro i h1 h2
 simp only [altL, List.getElem_map, List.getElem_range]
 rw [if_neg (by omega), List.getD_eq_getElem?_getD, List.getElem?_eq_getElem h2]
 rfl
theorem altL_at {r : List Nat} {m : Nat} (h : m < r.length) : (altL r m).getD m 0 = r.getD m 0 := by
 rw [List.getD_eq_getElem?_getD, List.getElem?_eq_getElem (by rw [altL_len]; exact h)]
 simp only [altL, List.getElem_map, List.getElem_range, Option.getD_some]
 rw [if_neg (by omega)]
theorem altL_set {r : List Nat} {m : Nat} (h : m < r.length) (ho : m % 2 = 1) : (altL r m).set m (ngw (r.getD m 0)) = altL r (m + 2) := by
 apply List.ext_getElem (by rw [List.length_set, altL_len, altL_len])
 intro j h1 h2
 rw [List.getElem_set]
 simp only [altL, List.getElem_map, List.getElem_range]
 by_cases hj : m = j
 ·subst hj
  rw [if_pos rfl, if_pos ⟨ho, by omega⟩]
 ·rw [if_neg hj]
  by_cases h3 : j % 2 = 1 ∧ j < m
  ·rw [if_pos h3, if_pos ⟨h3.1, by omega⟩]
  ·rw [if_neg h3, if_neg (by omega)]
def altS (i : Nat) : Int := if i % 2 = 0 then 1 else -1
theorem altS_succ (i : Nat) : altS (i + 1) = -altS i := by
 unfold altS
 have : i % 2 = 0 ∧ (i + 1) % 2 = 1 ∨ i % 2 = 1 ∧ (i + 1) % 2 = 0 := by omega
 rcases this with ⟨a, b⟩ | ⟨a, b⟩ <;> rw [a, b] <;> rfl
theorem altS_one (i : Nat) : altS i = 1 ∨ altS i = -1 := by unfold altS; split <;> simp
def AltOf (r a : List Nat) : Prop := a.length = r.length ∧ ∀ i, i < r.length → Fnt (a.getD i 0) ∧ V (a.getD i 0) = altS i * V (r.getD i 0)
theorem altL_of {r : List Nat} {m : Nat} (hF : ∀ x ∈ r, Num x) (h : r.length ≤ m) : AltOf r (altL r m) := by
 refine ⟨altL_len r m, fun i hi => ?_⟩
 have hN := getD_num hF i
 rw [List.getD_eq_getElem?_getD, List.getElem?_eq_getElem (by rw [altL_len]; exact hi)]
 simp only [altL, List.getElem_map, List.getElem_range, Option.getD_some]
 unfold altS
 by_cases ho : i % 2 = 1
 ·rw [if_pos ⟨ho, by omega⟩, if_neg (by omega)]
  obtain ⟨a, b⟩ := ngw_spec hN.1
  exact ⟨a, by rw [b]; omega⟩
 ·rw [if_neg (by omega), if_pos (by omega)]
  exact ⟨hN.1, by omega⟩
theorem alt_wh {r a : List Nat} (h : AltOf r a) {i : Nat} (hi : i < r.length) (hr : Num (r.getD i 0)) (hw : isW (a.getD i 0)) : isW (r.getD i 0) ∧ wnOf (a.getD i 0) = altS i * wnOf (r.getD i 0) := by
 obtain ⟨h1, h2⟩ := h.2 i hi
 obtain ⟨n, hn⟩ := hw
 have hp := pw_pos 1074
 have hr2 : Wh (r.getD i 0) (altS i * n) := by
  refine ⟨hr.1, ?_, ?_⟩
  ·rcases altS_one i with e | e <;> rw [e] <;> have := hn.2.1 <;> omega
  ·have e := hn.2.2
   rw [h2] at e
   rcases altS_one i with q | q <;> rw [q] at e ⊢
   ·simpa using e
   ·rw [Int.neg_mul, Int.one_mul] at e ⊢
    rw [Int.neg_mul]; omega
 refine ⟨⟨_, hr2⟩, ?_⟩
 rw [wnOf_wh hn, wnOf_wh hr2]
 rcases altS_one i with q | q <;> rw [q] <;> omega
theorem sums_sub {r a z : List Nat} (hN : ∀ x ∈ r, Num x) (hA : AltOf r a) (h : SumOk a z) : Beg 2 r z := by
 obtain ⟨h1, h2, h3, h4⟩ := h
 have hal := hA.1
 refine ⟨by omega, fun k hk => ?_⟩
 rw [h4 k hk]
 have hw : ∀ i, i ≤ k → isW (r.getD i 0) ∧ wnOf (a.getD i 0) = altS i * wnOf (r.getD i 0) := fun i hi => alt_wh hA (by omega) (getD_num hN i) (h2 i (by omega))
 have hx : ∀ i, i ≤ k → r.getD i 0 = floatOfInt .f64 (wnOf (r.getD i 0)) := fun i hi => num_w (getD_num hN i) (hw i hi).1
 have hsg : ∀ i (n : Int), n.natAbs ≤ 9007199254740992 → (altS i * n).natAbs ≤ 9007199254740992 := fun i n hn => by rcases altS_one i with q | q <;> rw [q] <;> omega
 have := up_chain (f := 2) (r := r) (k := k) (by omega) (fun i => floatOfInt .f64 (altS i * (psW a (k + 1) - psW a i))) ?_ ?_
 ·rw [this, psW_zero, Int.sub_zero]
  show (floatOfInt .f64 (1 * _), 0) = _
  rw [Int.one_mul]
 ·rw [hx k (Nat.le_refl _)]
  congr 1
  rw [psW_succ (by omega), (hw k (Nat.le_refl _)).2]
  rcases altS_one k with q | q <;> rw [q] <;> omega
 ·intro i hi
  have e := psW_succ (l := a) (k := i) (by omega)
  rw [(hw i (by omega)).2] at e
  rw [hx i (by omega), fone_a _ _ (by omega)]
  have hs := h3 (k + 1) i (by omega) (by omega)
  have ee : wnOf (r.getD i 0) - altS (i + 1) * (psW a (k + 1) - psW a (i + 1)) = altS i * (psW a (k + 1) - psW a i) := by
   rw [altS_succ]
   rcases altS_one i with q | q <;> rw [q] at e ⊢ <;> omega
  have ha : sm (wnOf (r.getD i 0) - altS (i + 1) * (psW a (k + 1) - psW a (i + 1))) = true := by rw [ee]; exact sm_abs (hsg i _ hs)
  have hw2 := whA_one (f := 2) (w_small (hw i (by omega)).1) (sm_abs (hsg (i + 1) _ (h3 (k + 1) (i + 1) (by omega) (by omega)))) (by simpa [whA] using ha)
  rw [hw2.1]
  simp only [whA, if_neg (show ¬ ((2 : Int) = 1) by decide), if_pos, if_pos ha]
  rw [ee]

def nz1 (n : Int) : Int := if n = 0 then 1 else n
def prI : List Int → Int
 | [] => 1
 | x :: l => x * prI l
theorem prI_app (a b : List Int) : prI (a ++ b) = prI a * prI b := by
 induction a with
 | nil => simp [prI]
 | cons x a ih => rw [List.cons_append, prI, prI, ih, Int.mul_assoc]
theorem prI_nz {l : List Int} (h : ∀ x ∈ l, x ≠ 0) : prI l ≠ 0 := by
 induction l with
 | nil => decide
 | cons x l ih =>
  rw [prI]
  exact Int.mul_ne_zero (h x (by simp)) (ih fun y hy => h y (List.mem_cons_of_mem _ hy))
theorem nz1_ne (n : Int) : nz1 n ≠ 0 := by unfold nz1; split <;> omega
theorem prI_le (l : List Int) : (prI l).natAbs ≤ (prI (l.map nz1)).natAbs := by
 induction l with
 | nil => exact Nat.le_refl _
 | cons x l ih =>
  rw [List.map_cons, prI, prI, Int.natAbs_mul, Int.natAbs_mul]
  refine Nat.mul_le_mul ?_ ih
  unfold nz1; split
  ·rename_i h; rw [h]; decide
  ·exact Nat.le_refl _
theorem prI_drop (l : List Int) (i : Nat) : (prI ((l.drop i).map nz1)).natAbs ≤ (prI (l.map nz1)).natAbs := by
 have e : prI (l.map nz1) = prI ((l.take i).map nz1) * prI ((l.drop i).map nz1) := by
  rw [← prI_app, ← List.map_append, List.take_append_drop]
 rw [e, Int.natAbs_mul]
 have h0 : prI ((l.take i).map nz1) ≠ 0 := prI_nz fun x hx => by
  obtain ⟨y, _, rfl⟩ := List.mem_map.1 hx
  exact nz1_ne y
 exact Nat.le_mul_of_pos_left _ (by omega)
def wsT (l : List Nat) (k : Nat) : List Int := (l.take k).map wnOf
theorem wsT_succ {l : List Nat} {k : Nat} (h : k < l.length) : wsT l (k + 1) = wsT l k ++ [wnOf (l.getD k 0)] := by
 unfold wsT
 rw [List.take_add_one, List.getElem?_eq_getElem h, List.getD_eq_getElem?_getD, List.getElem?_eq_getElem h, List.map_append]
 rfl
def MulOk (l z : List Nat) : Prop := z.length ≤ l.length ∧ (∀ i, i < z.length → isW (l.getD i 0)) ∧ ∀ k, k < z.length → (prI ((wsT l (k + 1)).map nz1)).natAbs ≤ 9007199254740992 ∧ z.getD k 0 = floatOfInt .f64 (prI (wsT l (k + 1)))
theorem wsT_drop {l : List Nat} {k i : Nat} (hi : i < k) (hk : k ≤ l.length) : (wsT l k).drop i = wnOf (l.getD i 0) :: (wsT l k).drop (i + 1) := by
 have hlen : (wsT l k).length = k := by simp [wsT]; omega
 rw [List.drop_eq_getElem_cons (by omega)]
 congr 1
 simp only [wsT, List.getElem_map, List.getElem_take]
 rw [List.getD_eq_getElem?_getD, List.getElem?_eq_getElem (by omega)]
 rfl
theorem muls_up {r z : List Nat} (hN : ∀ x ∈ r, Num x) (h : MulOk r z) : Beg 3 r z := by
 obtain ⟨h1, h2, h3⟩ := h
 refine ⟨h1, fun k hk => ?_⟩
 obtain ⟨h4, h5⟩ := h3 k hk
 rw [h5]
 have hx : ∀ i, i ≤ k → r.getD i 0 = floatOfInt .f64 (wnOf (r.getD i 0)) := fun i hi => num_w (getD_num hN i) (h2 i (by omega))
 have hb : ∀ i, (prI ((wsT r (k + 1)).drop i)).natAbs ≤ 9007199254740992 := fun i => by
  have a := prI_le ((wsT r (k + 1)).drop i)
  have b := prI_drop (wsT r (k + 1)) i
  omega
 have := up_chain (f := 3) (r := r) (k := k) (by omega) (fun i => floatOfInt .f64 (prI ((wsT r (k + 1)).drop i))) ?_ ?_
 ·rw [this, List.drop_zero]
 ·rw [hx k (Nat.le_refl _), wsT_drop (by omega) (by omega), List.drop_eq_nil_of_le (by simp [wsT]; omega)]
  congr 1
  show _ = _ * (1 : Int)
  omega
 ·intro i hi
  have e := wsT_drop (l := r) (k := k + 1) (i := i) (by omega) (by omega)
  have e2 : prI ((wsT r (k + 1)).drop i) = wnOf (r.getD i 0) * prI ((wsT r (k + 1)).drop (i + 1)) := by rw [e]; rfl
  rw [hx i (by omega), fone_a _ _ (by omega)]
  have hp : pm (wnOf (r.getD i 0)) (prI ((wsT r (k + 1)).drop (i + 1))) = true := by
   unfold pm
   refine decide_eq_true ?_
   rw [← Int.natAbs_mul, ← e2]; exact hb i
  have hw := whA_one (f := 3) (w_small (h2 i (by omega))) (sm_abs (hb (i + 1))) (by simpa [whA] using hp)
  rw [hw.1]
  simp only [whA, if_neg (show ¬ ((3 : Int) = 1) by decide), if_neg (show ¬ ((3 : Int) = 2) by decide), if_pos, if_pos hp]
  rw [e2]

def exw (f : Int) (a b : Nat) : Nat := if f = 5 then mxw a b else mnw a b
theorem exw_one {f : Int} (hf : f = 5 ∨ f = 6) (a b : Nat) : fone f a b = (exw f a b, 0) := by
 rcases hf with h | h <;> subst h <;> rw [fone_a _ _ (by omega)] <;> simp [oneA, exw]
theorem exw_assoc (f : Int) (a b c : Nat) : exw f a (exw f b c) = exw f (exw f a b) c := by
 unfold exw
 split
 ·unfold mxw
  by_cases h1 : V b < V c <;> by_cases h2 : V a < V b <;> by_cases h3 : V a < V c <;> simp [h1, h2, h3] <;> omega
 ·unfold mnw
  by_cases h1 : V c < V b <;> by_cases h2 : V b < V a <;> by_cases h3 : V c < V a <;> simp [h1, h2, h3] <;> omega
theorem exw_num {f : Int} {a b : Nat} (ha : Num a) (hb : Num b) : Num (exw f a b) := by
 unfold exw mxw mnw; split <;> split <;> assumption
theorem ext_app {f : Int} (hf : f = 5 ∨ f = 6) : ∀ (l : List Nat) (x : Nat), l ≠ [] → (rowN f l).2 = 0 ∧ rowN f (l ++ [x]) = (exw f (rowN f l).1 x, 0)
 | [], _, h => absurd rfl h
 | [a], x, _ => by
  refine ⟨rfl, ?_⟩
  show rowN f (a :: [x]) = _
  rw [rowN_cons f a (by simp)]
  show (if (0 : Int) = 0 then nrm (fone f a x) else _) = _
  rw [if_pos rfl, exw_one hf, nrm_ok rfl]
  rfl
 | a :: b :: l, x, _ => by
  obtain ⟨i1, i2⟩ := ext_app hf (b :: l) x (by simp)
  have e1 : rowN f (a :: b :: l) = (exw f a (rowN f (b :: l)).1, 0) := by
   rw [rowN_cons f a (by simp), if_pos i1, exw_one hf, nrm_ok rfl]
  refine ⟨by rw [e1], ?_⟩
  rw [show (a :: b :: l) ++ [x] = a :: ((b :: l) ++ [x]) from rfl, rowN_cons f a (by simp), i2, if_pos rfl, exw_one hf, nrm_ok rfl, e1]
  simp only
  rw [exw_assoc]
def ExtOk (f : Int) (r z : List Nat) : Prop := z.length = r.length ∧ z.getD 0 0 = r.getD 0 0 ∧ ∀ i, 0 < i → i < r.length → z.getD i 0 = exw f (z.getD (i - 1) 0) (r.getD i 0)
theorem exts_up {f : Int} (hf : f = 5 ∨ f = 6) {r z : List Nat} (h : ExtOk f r z) : Beg f r z := by
 obtain ⟨h1, h2, h3⟩ := h
 refine ⟨by omega, fun k => ?_⟩
 induction k with
 | zero =>
  intro hk
  rw [h2]
  cases r with
  | nil => rw [List.length_nil] at h1; omega
  | cons a r => rfl
 | succ k ih =>
  intro hk
  have ih := ih (by omega)
  rw [List.take_add_one, List.getElem?_eq_getElem (show k + 1 < r.length by omega)]
  have := (ext_app hf (r.take (k + 1)) r[k + 1] (by intro h9; have := congrArg List.length h9; rw [List.length_take, List.length_nil] at this; omega)).2
  rw [show (some r[k + 1]).toList = [r[k + 1]] from rfl, this, ih, h3 (k + 1) (by omega) (by omega), show k + 1 - 1 = k by omega]
  simp only
  congr 2
  rw [List.getD_eq_getElem?_getD, List.getElem?_eq_getElem (show k + 1 < r.length by omega)]
  rfl

noncomputable def onto (f : Int) : List Nat → Nat → Nat × Int
 | [], v => (v, 0)
 | x :: p, v => if (onto f p v).2 = 0 then nrm (fone f x (onto f p v).1) else onto f p v
theorem rowN_onto (f : Int) : ∀ (p : List Nat) (v : Nat), rowN f (p ++ [v]) = onto f p v
 | [], v => rfl
 | x :: p, v => by
  rw [List.cons_append, rowN_cons f x (by simp), rowN_onto f p v]
  rfl
theorem onto_app (f : Int) (p : List Nat) (x v y : Nat) (h : fone f x v = (y, 0)) : onto f (p ++ [x]) v = onto f p y := by
 induction p with
 | nil =>
  show (if (0 : Int) = 0 then nrm (fone f x v) else _) = _
  rw [if_pos rfl, h, nrm_ok rfl]
  rfl
 | cons a p ih =>
  rw [List.cons_append]
  show (if (onto f (p ++ [x]) v).2 = 0 then nrm (fone f a (onto f (p ++ [x]) v).1) else onto f (p ++ [x]) v) = _
  rw [ih]
  rfl
noncomputable def octW (f : Int) (a b : Nat) : Nat := if (fone f a b).2 = 0 ∧ isT (fone f a b).1 = true then (bitW (fone f a b).1).toNat else 2
theorem octW_le (f : Int) (a b : Nat) : octW f a b ≤ 2 := by unfold octW; split; (have := Bool.toNat_le (bitW (fone f a b).1); omega); omega
theorem octW_lt {f : Int} {a b : Nat} (ha : Num a) (hb : Num b) (h : octW f a b < 2) : fone f a b = (floatOfInt .f64 (octW f a b), 0) := by
 unfold octW at h ⊢
 split at h
 ·rename_i h9
  rw [if_pos h9, ← flagW_ofInt]
  exact Prod.ext (isT_flagW (fone_num ha hb) h9.2) h9.1
 ·omega
def Ahead (f : Int) (p : List Nat) (t v : Nat) : Prop := v ≤ 2 ∧ (v < 2 → onto f p (floatOfInt .f64 t) = (floatOfInt .f64 v, 0))
theorem ahead_nil (f : Int) (t : Nat) (h : t < 2) : Ahead f [] t t := ⟨by omega, fun _ => rfl⟩
def pick3 (a b : Nat) (t : Nat) : Nat := if t = 0 then a else if t = 1 then b else 2
theorem fl01 {t : Nat} (h : t < 2) : Num (floatOfInt .f64 (t : Int)) := by
 have : t = 0 ∨ t = 1 := by omega
 rcases this with h | h <;> subst h
 ·exact (show floatOfInt .f64 ((0 : Nat) : Int) = flagW false by decide +kernel) ▸ flagW_num false
 ·exact (show floatOfInt .f64 ((1 : Nat) : Int) = flagW true by decide +kernel) ▸ flagW_num true
theorem ahead_pick {f : Int} {p : List Nat} {a b : Nat} (ha : Ahead f p 0 a) (hb : Ahead f p 1 b) {x y : Nat} (hx : Num x) (hy : Num y) :
  pick3 a b (octW f x y) ≤ 2 ∧ (pick3 a b (octW f x y) < 2 → onto f (p ++ [x]) y = (floatOfInt .f64 (pick3 a b (octW f x y)), 0)) := by
 have hle := octW_le f x y
 have hc : octW f x y = 0 ∨ octW f x y = 1 ∨ octW f x y = 2 := by omega
 have hlt := octW_lt (f := f) hx hy
 rcases hc with h | h | h
 ·rw [h] at hlt ⊢
  rw [onto_app f p x y _ (hlt (by omega))]
  exact ⟨ha.1, fun h9 => ha.2 h9⟩
 ·rw [h] at hlt ⊢
  rw [onto_app f p x y _ (hlt (by omega))]
  exact ⟨hb.1, fun h9 => hb.2 h9⟩
 ·rw [h]; exact ⟨by simp [pick3], fun h9 => by simp [pick3] at h9⟩
theorem ahead_step {f : Int} {p : List Nat} {a b : Nat} (ha : Ahead f p 0 a) (hb : Ahead f p 1 b) {x : Nat} (hx : Num x) {t : Nat} (ht : t < 2) : Ahead f (p ++ [x]) t (pick3 a b (octW f x (floatOfInt .f64 (t : Int)))) := ahead_pick ha hb hx (fl01 ht)
theorem truth_up {f : Int} {r : List Nat} {k : Nat} {a b : Nat} (hN : ∀ x ∈ r, Num x) (hk : k + 1 < r.length) (ha : Ahead f (r.take k) 0 a) (hb : Ahead f (r.take k) 1 b) (h : pick3 a b (octW f (r.getD k 0) (r.getD (k + 1) 0)) < 2) :
  rowN f (r.take (k + 2)) = (floatOfInt .f64 (pick3 a b (octW f (r.getD k 0) (r.getD (k + 1) 0))), 0) := by
 have e1 : r.take (k + 1 + 1) = r.take k ++ [r.getD k 0] ++ [r.getD (k + 1) 0] := by
  rw [List.take_add_one, List.take_add_one, List.getElem?_eq_getElem (show k < r.length by omega), List.getElem?_eq_getElem hk, List.getD_eq_getElem?_getD, List.getD_eq_getElem?_getD, List.getElem?_eq_getElem (show k < r.length by omega), List.getElem?_eq_getElem hk]
  rfl
 rw [show k + 2 = k + 1 + 1 from rfl, e1, rowN_onto]
 exact (ahead_pick ha hb (getD_num hN k) (getD_num hN (k + 1))).2 h
theorem take_getD {r : List Nat} {k : Nat} (h : k < r.length) : r.take (k + 1) = r.take k ++ [r.getD k 0] := by
 rw [List.take_add_one, List.getElem?_eq_getElem h, List.getD_eq_getElem?_getD, List.getElem?_eq_getElem h]
 rfl
end Go.Proofs.YtbacchbcanlciaaGreatDoor

namespace Go.Proofs.YtbacchbcanlciaaGreatDoor
set_option maxRecDepth 100000
open Go.RowKit Fl
set_option linter.unusedVariables false

def aheadB (t : Nat) (p : List Bool) (b : Bool) : Bool := p.foldr (tab t) b
theorem rowB_snoc (t : Nat) : ∀ (p : List Bool) (x : Bool), rowB t (p ++ [x]) = aheadB t p x
 | [], x => rfl
 | y :: p, x => by
  rw [List.cons_append, rowB_cons t y (by simp), rowB_snoc t p x]
  rfl
theorem take_sq {l : List Bool} {k : Nat} (h : k < l.length) : l.take (k + 1) = l.take k ++ [sq l k] := by
 rw [List.take_succ_eq_append_getElem h, sq_in h]
def upB (t : Nat) (p : List Bool) (outer n inner : Nat) : List Bool := (List.range (outer * n * inner)).map fun q => rowB t ((lineG false p n inner (q / inner / n) (q % inner)).take (q / inner % n + 1))
theorem upB_len (t : Nat) (p : List Bool) (outer n inner : Nat) : (upB t p outer n inner).length = outer * n * inner := by simp [upB]
theorem ups_flags {f : Int} {t : Nat} (hc : Closed f t) (p : List Bool) (outer n inner : Nat) (hn : 0 < n) :
  errG (rowN f) (upRows (p.map flagW) outer n inner) = 0 ∧ outG (rowN f) (upRows (p.map flagW) outer n inner) = (upB t p outer n inner).map flagW := by
 have e : ∀ o k i, rowN f ((lineG 0 (p.map flagW) n inner o k).take (i + 1)) = (flagW (rowB t ((lineG false p n inner o k).take (i + 1))), 0) := fun o k i => by
  rw [show lineG 0 (p.map flagW) n inner o k = (lineG false p n inner o k).map flagW from lineG_map flagW false p n inner o k, ← List.map_take]
  exact rowN_flags hc _ (by intro h; have := congrArg List.length h; rw [List.length_take, lineG_len, List.length_nil] at this; omega)
 refine ⟨errG_all fun r hr => ?_, ?_⟩
 ·obtain ⟨q, _, rfl⟩ := List.mem_map.1 hr
  unfold preR
  rw [e]
 ·unfold outG upRows upB
  rw [List.map_map, List.map_map]
  exact List.map_congr_left fun q _ => by
   show (rowN f (preR (p.map flagW) n inner q)).1 = flagW _
   unfold preR
   rw [e]

def rowU (t : Nat) (r : List Bool) : List Bool := (List.range r.length).map fun k => rowB t (r.take (k + 1))
theorem rowU_len (t : Nat) (r : List Bool) : (rowU t r).length = r.length := by simp [rowU]
theorem upB_row (t : Nat) (p : List Bool) {outer n o : Nat} (ho : o < outer) (hn : 0 < n) :
  (upB t p outer n 1).take (o * n) ++ rowU t (lineG false p n 1 o 0) = (upB t p outer n 1).take ((o + 1) * n) := by
 have hm := Nat.mul_le_mul_right n (show o + 1 ≤ outer by omega)
 have h2 : (o + 1) * n = o * n + n := by rw [Nat.add_mul]; omega
 rw [h2, List.take_add]
 congr 1
 apply List.ext_getElem (by rw [rowU_len, lineG_len, List.length_take, List.length_drop, upB_len, Nat.mul_one]; omega)
 intro j hj1 hj2
 rw [rowU_len, lineG_len] at hj1
 rw [List.getElem_take, List.getElem_drop]
 simp only [rowU, upB, List.getElem_map, List.getElem_range]
 have e1 : (o * n + j) / 1 / n = o := by rw [Nat.div_one, Nat.mul_comm, Nat.mul_add_div (by omega), Nat.div_eq_of_lt hj1]; rfl
 have e2 : (o * n + j) / 1 % n = j := by rw [Nat.div_one, Nat.mul_comm, Nat.mul_add_mod, Nat.mod_eq_of_lt hj1]
 rw [e1, e2, Nat.mod_one]
def oddL (t : Nat) (r : List Bool) : List Bool := (List.range r.length).map fun k => flipsB t r k
theorem oddL_len (t : Nat) (r : List Bool) : (oddL t r).length = r.length := by simp [oddL]
theorem oddL_sq (t : Nat) (r : List Bool) {k : Nat} (h : k < r.length) : sq (oddL t r) k = flipsB t r k := by
 rw [sq_in (by rw [oddL_len]; exact h)]; simp [oddL]
theorem sq_take {r : List Bool} {n i : Nat} (h : i < n) : sq (r.take n) i = sq r i := by unfold sq; rw [List.getElem?_take_of_lt h]
theorem row_at (t : Nat) (r : List Bool) {m : Nat} (hm : m < r.length) (hns : ∀ k, k < m → settB t (sq r k) = false) (y : Bool) (q : List Bool) :
  aheadB t (r.take m) y = (y != flipsB t r m) := by
 have h1 := row_from t (r.take m ++ [y]) m (by simp; omega) (fun k hk => by
  have : sq (r.take m ++ [y]) k = sq r k := by unfold sq; rw [List.getElem?_append_left (by rw [List.length_take]; omega), List.getElem?_take_of_lt hk]
  rw [this]; exact hns k hk) m 0 (by omega)
 rw [List.drop_zero, rowB_snoc] at h1
 rw [h1]
 have hl : (r.take m).length = m := by rw [List.length_take]; omega
 have e1 : (r.take m ++ [y]).drop m = [y] := by rw [List.drop_append_of_le_length (by omega), List.drop_of_length_le (by omega)]; rfl
 rw [e1]
 show (y != _) = _
 congr 1
 unfold flipsB
 congr 2
 congr 1
 refine cnt_congr _ fun k hk => ?_
 show sq ((r.take m ++ [y]).map (flipB t)) (0 + k) = _
 rw [Nat.zero_add, sq_map (by simp; omega), sq_map (by omega)]
 congr 1
 unfold sq; rw [List.getElem?_append_left (by rw [List.length_take]; omega), List.getElem?_take_of_lt hk]
theorem rowU_settle (t : Nat) (r : List Bool) {m : Nat} (hm : firstOf (r.map (settB t)) = m) :
  rowU t r = ((List.zipWith (tab 6) r (oddL t r)).take (min (m + 1) r.length)) ++ List.replicate (r.length - (m + 1)) ((sqI (r.map fun x => lowB t x) m) != sqI (oddL t r) m) := by
 have hfirst : (m < r.length ∧ settB t (sq r m) = true ∧ ∀ k, k < m → settB t (sq r k) = false) ∨ (m = r.length ∧ ∀ k, k < r.length → settB t (sq r k) = false) := by
  by_cases hs : ∃ k, k < r.length ∧ settB t (sq r k) = true
  ·left
   have key : ∀ j k, k ≤ j → k < r.length → settB t (sq r k) = true → ∃ k, k < r.length ∧ settB t (sq r k) = true ∧ ∀ i, i < k → settB t (sq r i) = false := by
    intro j
    induction j with
    | zero => intro k h1 h2 h3; exact ⟨k, h2, h3, fun i hi => by omega⟩
    | succ j ih =>
     intro k h1 h2 h3
     by_cases hx : ∃ i, i < k ∧ settB t (sq r i) = true
     ·obtain ⟨i, hi, hb⟩ := hx
      exact ih i (by omega) (by omega) hb
     ·exact ⟨k, h2, h3, fun i hi => by
       cases e : settB t (sq r i) with
       | false => rfl
       | true => exact absurd ⟨i, hi, e⟩ hx⟩
   obtain ⟨k0, h1, h2⟩ := hs
   obtain ⟨k, hk, hb, hmin⟩ := key k0 k0 (Nat.le_refl _) h1 h2
   have hf : firstOf (r.map (settB t)) = k := firstOf_at _ k (by rw [List.length_map]; exact hk) (fun i hi => by rw [sq_map (by omega)]; exact hmin i hi) (by rw [sq_map hk]; exact hb)
   rw [hf] at hm
   subst hm
   exact ⟨hk, hb, hmin⟩
  ·right
   have hno : ∀ k, k < r.length → settB t (sq r k) = false := fun k hk => by
    cases e : settB t (sq r k) with
    | false => rfl
    | true => exact absurd ⟨k, hk, e⟩ hs
   refine ⟨?_, hno⟩
   rw [← hm, firstOf_none _ (fun k hk => by rw [List.length_map] at hk; rw [sq_map hk]; exact hno k hk), List.length_map]
 have hml : m ≤ r.length := by rcases hfirst with h | h <;> omega
 have hzl : (List.zipWith (tab 6) r (oddL t r)).length = r.length := by rw [List.length_zipWith, oddL_len, Nat.min_self]
 have hz : ∀ k (h : k < (List.zipWith (tab 6) r (oddL t r)).length), (List.zipWith (tab 6) r (oddL t r))[k] = (sq r k != flipsB t r k) := fun k h => by
  rw [List.getElem_zipWith, ← sq_in, ← sq_in, oddL_sq t r (by omega)]
  cases sq r k <;> cases flipsB t r k <;> decide
 apply List.ext_getElem
 ·rw [rowU_len, List.length_append, List.length_take, List.length_replicate, hzl]; omega
 intro k hk1 hk2
 rw [rowU_len] at hk1
 have hns : ∀ i, i < m → settB t (sq r i) = false := fun i hi => by
  rcases hfirst with h | h
  ·exact h.2.2 i hi
  ·exact h.2 i (by omega)
 have eL : (rowU t r)[k]'(by rw [rowU_len]; exact hk1) = rowB t (r.take (k + 1)) := by simp [rowU]
 rw [eL, List.getElem_append]
 split
 ·rename_i h9
  rw [List.length_take, hzl] at h9
  rw [List.getElem_take, hz, take_sq hk1, rowB_snoc, row_at t r hk1 (fun i hi => hns i (by omega)) (sq r k) []]
 ·rename_i h9
  rw [List.length_take, hzl] at h9
  have hkm : m < k := by omega
  rw [List.getElem_replicate]
  have hb : settB t (sq r m) = true := by
   rcases hfirst with h | h
   ·exact h.2.1
   ·omega
  have hmr : m < r.length := by omega
  have hl : (r.take (k + 1)).length = k + 1 := by rw [List.length_take]; omega
  have h1 := row_from t (r.take (k + 1)) m (by omega) (fun i hi => by rw [sq_take (by omega)]; exact hns i hi) m 0 (by omega)
  rw [List.drop_zero] at h1
  rw [h1, rowB_step t (l := r.take (k + 1)) (i := m) (by omega), tab_settle (by rw [sq_take (by omega)]; exact hb), sq_take (by omega)]
  have e1 : sqI (r.map fun x => lowB t x) (m : Int) = lowB t (sq r m) := by
   unfold sqI; rw [if_pos (by omega), Int.toNat_natCast, sq_map hmr]
  have e2 : sqI (oddL t r) (m : Int) = flipsB t r m := by
   unfold sqI; rw [if_pos (by omega), Int.toNat_natCast, oddL_sq t r hmr]
  rw [e1, e2]
  congr 1
  unfold flipsB
  congr 2
  congr 1
  refine cnt_congr _ fun i hi => ?_
  show sq ((r.take (k + 1)).map (flipB t)) (0 + i) = _
  rw [Nat.zero_add, sq_map (by omega), sq_map (by omega), sq_take (by omega)]
end Go.Proofs.YtbacchbcanlciaaGreatDoor

namespace Go.Proofs.YtbacchbcanlciaaGreatDoor
set_option maxRecDepth 100000
open Go.RowKit Fl
set_option linter.unusedVariables false

def p4A : List Bool := [false, false, true, true]
def p4B : List Bool := [false, true, false, true]
def p4 : List (Nat × Nat) := [(flagW false, flagW false), (flagW false, flagW true), (flagW true, flagW false), (flagW true, flagW true)]
theorem p4_prs : prs 0 (VV.bits p4A).nums (VV.bits p4B).nums 4 = p4 := rfl
theorem four {α : Type} {l : List α} (h : l.length = 4) : ∃ a b c d, l = [a, b, c, d] := by
 match l, h with
 | [a, b, c, d], _ => exact ⟨a, b, c, d, rfl⟩
theorem pairs_to {f : Int} {l : List Bool} (h : p4.map (fun p => fone f p.1 p.2) = l.map fun b => (flagW b, (0 : Int))) : l.length = 4 ∧ Closed f (bw (sq l) 0) ∧ bw (sq l) 0 < 256 := by
 have h4 : l.length = 4 := by have := congrArg List.length h; simpa [p4] using this.symm
 obtain ⟨a, b, c, d, rfl⟩ := four h4
 simp only [p4, List.map_cons, List.map_nil, List.cons.injEq, and_true] at h
 obtain ⟨e0, e1, e2, e3⟩ := h
 refine ⟨rfl, fun x y => ?_, ?_⟩
 ·have ht : ∀ j, j < 64 → (bw (sq [a, b, c, d]) 0).testBit j = sq [a, b, c, d] j := fun j hj => by
   rw [testBit_bw, decide_eq_true hj, Nat.mul_zero, Nat.zero_add]; rfl
  cases x <;> cases y
  ·rw [e0]; show _ = (flagW ((bw (sq [a, b, c, d]) 0).testBit 0), 0); rw [ht 0 (by omega)]; rfl
  ·rw [e1]; show _ = (flagW ((bw (sq [a, b, c, d]) 0).testBit 1), 0); rw [ht 1 (by omega)]; rfl
  ·rw [e2]; show _ = (flagW ((bw (sq [a, b, c, d]) 0).testBit 2), 0); rw [ht 2 (by omega)]; rfl
  ·rw [e3]; show _ = (flagW ((bw (sq [a, b, c, d]) 0).testBit 3), 0); rw [ht 3 (by omega)]; rfl
 ·refine Nat.lt_pow_two_of_testBit (n := 8) _ fun j hj => ?_
  rw [testBit_bw, Nat.mul_zero, Nat.zero_add]
  have : sq [a, b, c, d] j = false := by unfold sq; rw [List.getElem?_eq_none (by simp; omega)]; rfl
  rw [this, Bool.and_false]
theorem two_table {f : Int} (hE : twE f (.bits p4A) (.bits p4B) = 0) (hb : (twV f (.bits p4A) (.bits p4B)).isBit = true) :
  (twV f (.bits p4A) (.bits p4B)).packed.length = 4 ∧ Closed f (bw (sq (twV f (.bits p4A) (.bits p4B)).packed) 0) ∧ bw (sq (twV f (.bits p4A) (.bits p4B)).packed) 0 < 256 := by
 apply pairs_to
 have hn : lenN (VV.bits p4A).len (VV.bits p4B).len = 4 := rfl
 by_cases h1 : 1 ≤ f ∧ f ≤ 8
 ·rw [(tw_a h1 _ _).1] at hE
  rw [(tw_a h1 _ _).2] at hb ⊢
  have hz := (apE_zero hE).2.2.2.2
  rw [hn, p4_prs] at hz
  have hs := (apV_spec (A := .bits p4A) (B := .bits p4B) (show p4A.length ≤ 1048576 by decide) (show p4B.length ≤ 1048576 by decide) trivial trivial hE).1
  rw [hn, p4_prs, (VV.bit_nums hb).1] at hs
  generalize (apV f (VV.bits p4A) (VV.bits p4B)).packed = l at hs ⊢
  have hz2 := errG_zero hz
  have h4 : l.length = 4 := by have := congrArg List.length hs; simpa [outG, p4] using this
  obtain ⟨a, b, c, d, rfl⟩ := four h4
  simp only [p4, outG, List.map_cons, List.map_nil, List.cons.injEq, and_true] at hs ⊢
  obtain ⟨e0, e1, e2, e3⟩ := hs
  simp only [p4, List.mem_cons, List.not_mem_nil, or_false, forall_eq_or_imp, forall_eq] at hz2
  obtain ⟨g0, g1, g2, g3⟩ := hz2
  simp only [fone_a _ _ h1]
  exact ⟨Prod.ext e0.symm g0, Prod.ext e1.symm g1, Prod.ext e2.symm g2, Prod.ext e3.symm g3⟩
 ·by_cases h2 : 11 ≤ f ∧ f ≤ 16
  ·rw [(tw_r h2 _ _).1] at hE
   rw [(tw_r h2 _ _).2]
   unfold reV
   rw [if_pos hE, hn]
   show _ = (relL f (VV.bits p4A) (VV.bits p4B) 4).map _
   rw [← relL_nums f 4 rfl rfl, p4_prs, List.map_map]
   exact List.map_congr_left fun p _ => fone_r p.1 p.2 h2
  ·rw [(tw_l h1 h2 _ _).1] at hE
   rw [(tw_l h1 h2 _ _).2]
   have h3 : 21 ≤ f ∧ f ≤ 24 := Classical.byContradiction fun h => by rw [loE_1 h] at hE; exact absurd hE (by decide)
   rw [loV_yes hE, hn]
   show _ = (loL f (VV.bits p4A) (VV.bits p4B) 4).map _
   have ta : (VV.bits p4A).tr = p4A := VV.tr_of rfl
   have tb : (VV.bits p4B).tr = p4B := VV.tr_of rfl
   unfold loL
   rw [ta, tb]
   have hp : prs false p4A p4B 4 = [(false, false), (false, true), (true, false), (true, true)] := rfl
   rw [hp]
   simp only [p4, List.map_cons, List.map_nil]
   rw [fone_l h3 (isT_flag _) (isT_flag _), fone_l h3 (isT_flag _) (isT_flag _), fone_l h3 (isT_flag _) (isT_flag _), fone_l h3 (isT_flag _) (isT_flag _)]
   simp only [bit_flag]
end Go.Proofs.YtbacchbcanlciaaGreatDoor

namespace Go.Proofs.YtbacchbcanlciaaGreatDoor
set_option maxRecDepth 100000
open Go.RowKit Fl
set_option linter.unusedVariables false

set_option maxHeartbeats 4000000 in
theorem scall_calls (c n : Int) (w : World) : Calls Tryz.prog 28 #[.int .i64 c, .int .i64 n] w fun e w' => e = .returned (.bool (decide (c = 0 ∨ (c = 1 ∧ n ≤ 1)))) ∧ w = w' := by
 obtain ⟨d, hd⟩ : ∃ d, decide (c = 0 ∨ (c = 1 ∧ n ≤ 1)) = d := ⟨_, rfl⟩
 rw [hd]
 by_cases h0 : c = 0
 ·have HD := Lib.hid (show d = true by rw [← hd]; exact decide_eq_true (.inl h0))
  subst h0
  rw [HD.out]; clear hd
  go_enter Tryz.func28, Tryz.ntmps28
  go_wp2
  go_ret
  exact ⟨rfl, rfl⟩
 ·by_cases h1 : c = 1
  ·by_cases h2 : n ≤ 1
   ·have HD := Lib.hid (show d = true by rw [← hd]; exact decide_eq_true (.inr ⟨h1, h2⟩))
    subst h1
    rw [HD.out]; clear hd
    go_enter Tryz.func28, Tryz.ntmps28
    go_wp2
    go_ret
    exact ⟨rfl, rfl⟩
   ·have HD := Lib.hid (show d = false by rw [← hd]; exact decide_eq_false (by omega))
    subst h1
    rw [HD.out]; clear hd
    go_enter Tryz.func28, Tryz.ntmps28
    go_wp2
    go_ret
    exact ⟨rfl, rfl⟩
  ·have HD := Lib.hid (show d = false by rw [← hd]; exact decide_eq_false (by omega))
   rw [HD.out]
   have b0 : (c == 0) = false := by simpa using h0
   have b1 : (c == 1) = false := by simpa using h1
   clear h0 h1 hd
   go_enter Tryz.func28, Tryz.ntmps28
   go_wp2
   go_ret
   exact ⟨rfl, rfl⟩

set_option maxHeartbeats 4000000 in
theorem scout_calls (f : Int) (a b : Nat) (w : World) (ha : Num a) (hb : Num b) :
  Calls Tryz.prog 179 #[.int .i64 f, .float .f64 a, .float .f64 b] w fun e w' => e = .returned (.int .i64 (octW f a b : Nat)) ∧ ∃ m, w' = w.drewN m := by
 have HA := Lib.hid ha; have HB := Lib.hid hb
 obtain ⟨p, hp⟩ : ∃ p, fone f a b = p := ⟨_, rfl⟩
 have HP := Lib.hid hp
 have HN := Lib.hid (show Fnt p.1 by rw [← hp]; exact (fone_num ha hb).1)
 have HO := Lib.hid (show octW f a b = if p.2 = 0 ∧ isT p.1 = true then (bitW p.1).toNat else 2 by rw [← hp]; rfl)
 obtain ⟨q, hq⟩ : ∃ q, octW f a b = q := ⟨_, rfl⟩
 rw [hq] at HO ⊢
 clear ha hb hp hq
 go_enter Tryz.func179, Tryz.ntmps179
 go_wp2_with fail
 refine (foone_calls f a b _ HA.out HB.out).mono ?_
 rintro e W1 ⟨rfl, m, hm⟩
 rw [HP.out]; have HM := Lib.hid hm; clear hm
 obtain ⟨er, her⟩ : ∃ er, p.2 = er := ⟨_, rfl⟩
 obtain ⟨t, ht⟩ : ∃ t, isT p.1 = t := ⟨_, rfl⟩
 obtain ⟨z, hz⟩ : ∃ z, bitW p.1 = z := ⟨_, rfl⟩
 rw [her, ht, hz] at HO
 rw [her]; have HT := Lib.hid ht; have HZ := Lib.hid hz; clear her ht hz
 by_cases h0 : er = 0
 ·subst h0
  cases t
  ·have HQ := Lib.hid (show q = 2 by rw [HO.out, if_neg (by simp)])
   go_wp2_with ((with_reducible refine (truth_is p.1 _ HN.out).mono ?_); rintro e w' ⟨rfl, rfl⟩; rw [HT.out])
   go_ret
   exact ⟨by rw [HQ.out]; rfl, m, HM.out⟩
  ·cases z
   ·have HQ := Lib.hid (show q = 0 by rw [HO.out, if_pos ⟨rfl, rfl⟩]; rfl)
    go_wp2_with ((with_reducible refine (truth_is p.1 _ HN.out).mono ?_); rintro e w' ⟨rfl, rfl⟩; rw [HT.out, HZ.out])
    go_ret
    exact ⟨by rw [HQ.out]; rfl, m, HM.out⟩
   ·have HQ := Lib.hid (show q = 1 by rw [HO.out, if_pos ⟨rfl, rfl⟩]; rfl)
    go_wp2_with ((with_reducible refine (truth_is p.1 _ HN.out).mono ?_); rintro e w' ⟨rfl, rfl⟩; rw [HT.out, HZ.out])
    go_ret
    exact ⟨by rw [HQ.out]; rfl, m, HM.out⟩
 ·have HQ := Lib.hid (show q = 2 by rw [HO.out, if_neg (by simp [h0])])
  have hne : (er != 0) = true := by simp [h0]
  clear h0
  go_wp2_with ((with_reducible refine (truth_is p.1 _ HN.out).mono ?_); rintro e w' ⟨rfl, rfl⟩; rw [HT.out])
  go_ret
  exact ⟨by rw [HQ.out]; rfl, m, HM.out⟩

set_option maxHeartbeats 4000000 in
theorem sctog_calls {ok : Nat → Prop} (f : Int) (v : Value) (r : List Nat) (w : World) (hv : Slc w ok v r.length (f64s r)) (h0 : 0 < r.length) (hlm : r.length ≤ 1048576) (hN : ∀ x ∈ r, Num x) :
  Calls Tryz.prog 103 #[.int .i64 f, v] w (Pwd (rowN f r) w) := by
 obtain ⟨n, hn⟩ : ∃ n, r.length = n := ⟨_, rfl⟩
 have hat : ∀ i, i < n → ∃ b off cap, v = .slice (some ⟨b, off, none⟩) n cap ∧ w.cell? ⟨b, off + i, none⟩ = some (.float .f64 (r.getD i 0)) ∧ Num (r.getD i 0) := fun i hi => by
  obtain ⟨b, off, cap, x, e, hx, hc⟩ := Slc.at_map (Value.float .f64) hv i (by omega)
  have hx2 : r.getD i 0 = x := by rw [List.getD_eq_getElem?_getD, hx]; rfl
  exact ⟨b, off, cap, by rw [e, hn], by rw [hx2]; exact hc, by rw [hx2]; exact hN x (List.mem_of_getElem? hx)⟩
 obtain ⟨b, off, cap, rfl, hc0, hn0⟩ := hat (n - 1) (by omega)
 have HAT := Lib.hid (show ∀ i, i < n → w.cell? ⟨b, off + i, none⟩ = some (.float .f64 (r.getD i 0)) ∧ Num (r.getD i 0) from fun i hi => by
  obtain ⟨b', off', cap', e, h1, h2⟩ := hat i hi
  cases e
  exact ⟨h1, h2⟩)
 have HR := Lib.hid hn; have HRN := Lib.hid hN
 obtain ⟨m, hm⟩ : ∃ m, n = m + 1 := ⟨n - 1, by omega⟩
 have hnm1 : n - 1 = m := by omega
 rw [hnm1] at hc0
 have HNM := Lib.hid hm
 have hm1 : ((n : Int) - 1) = (m : Int) := by omega
 have hm2 : ((n : Int) - 2) = (m : Int) - 1 := by omega
 have hlast := rowN_last f (l := r) (by omega)
 rw [hn, hnm1] at hlast
 have HL := Lib.hid hlast
 have HN := Lib.hid (show n ≤ 1048576 by omega)
 have hnb : n ≤ 1048576 := HN.out
 have hmn : m < n := by omega
 clear hlast hv hN hat h0 hn hn0 hm hnm1 hlm
 go_enter Tryz.func103, Tryz.ntmps103
 go_wp2
 go_loopw [6, 7] (fun z i wr => ∃ k : Nat, k ≤ m ∧ i = .int .i64 ((k : Int) - 1) ∧ z = .float .f64 (rowN f (r.drop k)).1 ∧ (rowN f (r.drop k)).2 = 0 ∧ ∃ j, wr = w.drewN j) (fun _ i _ => (intOf i + 1).toNat)
 case atStart => exact ⟨m, Nat.le_refl _, congrArg (Value.int .i64) (by omega), by rw [HL.out, List.getD_eq_getElem?_getD], by rw [HL.out], 0, rfl⟩
 case round =>
  obtain ⟨k, hk, rfl, rfl, hz, j, hw⟩ := hrel
  have HW := Lib.hid hw; have HZ := Lib.hid hz
  have HBW := Lib.hid (show Below w.heap.size w wr by rw [hw]; exact Below.drewN' (Below.refl _ _) j)
  clear hw hz; have hnm := HN.out
  cases k with
  | zero =>
   have e0 : (((0 : Nat) : Int) - 1) = -1 := rfl
   rw [e0]
   rw [List.drop_zero]
   rw [List.drop_zero] at HZ
   go_wp2
   go_ret2
   exact ⟨pwd_ret (Prod.ext rfl HZ.out), j, HW.out⟩
  | succ i =>
   have e1 : (((i + 1 : Nat) : Int) - 1) = (i : Int) := by omega
   obtain ⟨hc, hx⟩ := HAT.out i (by have := HNM.out; omega)
   have hc := keep_below HBW.out _ _ hc
   obtain ⟨x, hx0⟩ : ∃ x, r.getD i 0 = x := ⟨_, rfl⟩
   obtain ⟨z, hz⟩ : ∃ z, (rowN f (r.drop (i + 1))).1 = z := ⟨_, rfl⟩
   rw [hx0] at hc hx
   have HX := Lib.hid hx
   have HZN := Lib.hid (show Num z by rw [← hz]; exact rowN_num fun y hy => HRN.out y (List.mem_of_mem_drop hy))
   have HST := Lib.hid (show rowN f (r.drop i) = nrm (fone f x z) by rw [rowN_step f (l := r) (by have := HR.out; have := HNM.out; omega), if_pos HZ.out, hx0, hz])
   have HZ0 := Lib.hid hz
   rw [e1, hz]
   clear hx0 hz hx
   go_wp2_with fail
   refine (foone_calls f x z _ HX.out HZN.out).mono ?_
   rintro e W9 ⟨rfl, j2, hj⟩
   have HJ := Lib.hid (show W9 = w.drewN (j + j2) by rw [hj, HW.out]; simp [World.drewN, Nat.add_assoc])
   clear hj
   by_cases h0 : (fone f x z).2 = 0
   ·have H0 := Lib.hid h0; rw [h0]; clear h0
    go_wp2
    go_roundw
    case rel => exact ⟨i, by omega, by go_num, by rw [HST.out, nrm_ok H0.out], by rw [HST.out, nrm_ok H0.out], _, HJ.out⟩
    case measure => simp [intOf]
   ·obtain ⟨er, her⟩ : ∃ er, (fone f x z).2 = er := ⟨_, rfl⟩
    have HRB := Lib.hid (show rowN f r = (0, er) by
     have h9 : rowN f (r.drop i) = (0, er) := by rw [HST.out, nrm_bad h0, her]
     rw [rowN_bad f i (by have := HR.out; have := HNM.out; omega) (by rw [h9, ← her]; exact h0), h9])
    have hne : (er != 0) = true := by rw [← her]; simp [h0]
    rw [her]; clear h0 her
    go_wp2
    go_ret2
    exact ⟨pwd_ret HRB.out, _, HJ.out⟩

set_option maxHeartbeats 4000000 in
theorem sctak_calls {ok : Nat → Prop} (v : Value) (l r : List Nat) (n step : Nat) (w : World) (hv : Slc w ok v l.length (f64s l)) (hn : 0 < n) (hnm : n ≤ 1048576) (hsm : step ≤ 1048576) (hlm : l.length ≤ 1048576) (hin : (n - 1) * step < l.length) (hr : r.length = n) (hrl : ∀ i, i < n → r.getD i 0 = l.getD (i * step) 0) :
  Calls Tryz.prog 70 #[v, .int .i64 (n : Int), .int .i64 (step : Int)] w fun e w' => ∃ v', e = .returned v' ∧ Slc w' (fun b => w.heap.size ≤ b) v' n (f64s r) ∧ Below w.heap.size w w' := by
 have hat : ∀ i, i < n → ∃ b off cap, v = .slice (some ⟨b, off, none⟩) l.length cap ∧ w.cell? ⟨b, off + i * step, none⟩ = some (.float .f64 (r.getD i 0)) ∧ i * step < l.length := fun i hi => by
  have h1 : i * step ≤ (n - 1) * step := Nat.mul_le_mul_right _ (by omega)
  obtain ⟨b, off, cap, x, e, hx, hc⟩ := Slc.at_map (Value.float .f64) hv (i * step) (by omega)
  have hx2 : r.getD i 0 = x := by rw [hrl i hi, List.getD_eq_getElem?_getD, hx]; rfl
  exact ⟨b, off, cap, e, by rw [hx2]; exact hc, by omega⟩
 obtain ⟨b, off, cap, rfl, _, _⟩ := hat (n - 1) (by omega)
 have HAT := Lib.hid (show ∀ i, i < n → w.cell? ⟨b, off + i * step, none⟩ = some (.float .f64 (r.getD i 0)) ∧ i * step < l.length from fun i hi => by
  obtain ⟨b', off', cap', e, h1, h2⟩ := hat i hi
  cases e
  exact ⟨h1, h2⟩)
 have hst := run_store_float
 obtain ⟨xs, hxs⟩ : ∃ xs : List Value, xs = f64s r := ⟨_, rfl⟩
 have HXL := Lib.hid (show xs.length = n by rw [hxs]; simp [f64s, hr])
 have HXG := Lib.hid (show ∀ k (h : k < xs.length), xs[k]'h = .float .f64 (r.getD k 0) by
  intro k h
  have hk : k < r.length := by rw [hxs] at h; simpa [f64s] using h
  rw [List.getD_eq_getElem?_getD, List.getElem?_eq_getElem hk]; simp [hxs, f64s])
 rw [← hxs]
 have hmk := run_mkF1 n (by omega) w
 obtain ⟨W0, hW0⟩ : ∃ W0, W0 = w.alloc (.cells (zerosV (.float .f64 0) n) 42) := ⟨_, rfl⟩
 have HO0 := Lib.hid (show W0.ownsRow w.heap.size 42 1 (.slice (some ⟨w.heap.size, 0, none⟩) n n) n (List.replicate n (.float .f64 0)) by rw [hW0]; exact own_make1 _ _ _ (by omega) _ _ (Nat.le_refl _))
 have HW := Lib.hid (show Below w.heap.size w W0 by rw [hW0]; exact below_new _ _)
 have HLM := Lib.hid hlm; have HNM := Lib.hid hnm; clear hv hn hlm hin hr hrl hat hxs hnm
 go_enter Tryz.func70, Tryz.ntmps70
 go_wp2
 rw [← hW0]
 clear hW0 hmk
 go_loopw [13] (fun i wr => ∃ k : Nat, k ≤ n ∧ i = .int .i64 k ∧ wr.ownsRow w.heap.size 42 1 (.slice (some ⟨w.heap.size, 0, none⟩) n n) n (fillTo xs (.float .f64 0) k) ∧ W0.grownBy wr (some w.heap.size)) (fun i _ => n - (intOf i).toNat)
 case atStart => exact ⟨0, by omega, rfl, by rw [fillTo_zero, HXL.out]; exact HO0.out, grown_refl _ _⟩
 case round =>
  obtain ⟨k, hk, rfl, hown, hgr⟩ := hrel
  have HO := Lib.hid hown; have HG := Lib.hid hgr
  have HB := Lib.hid (HW.out.grown hgr HW.out.size (fun j hj => by cases hj; omega))
  have hnm := HNM.out
  by_cases hlt : k < n
  ·obtain ⟨hc, hkl⟩ := HAT.out k hlt
   have hcl := keep_below HB.out _ _ hc
   obtain ⟨q, hq⟩ : ∃ q, k * step = q := ⟨_, rfl⟩
   rw [hq] at hcl hkl
   have hlm := HLM.out
   have hq1 : IntKind.i64.wrap ((k : Int) * (step : Int)) = (q : Int) := by
    rw [← Int.natCast_mul, hq]; exact IntWalk.i64_in _ (by omega)
   have hcw := owns_cell HO.out k (by rw [fillTo_len _ _ _ (by rw [HXL.out]; exact hk), HXL.out]; exact hlt)
   have hfr := World.ownsRow.frozenAt HO.out k
   have HS := Lib.hid (show (fillTo xs (.float .f64 0) k).set k (.float .f64 (r.getD k 0)) = fillTo xs (.float .f64 0) (k + 1) by
    rw [← fillTo_set xs _ k (by rw [HXL.out]; exact hlt), HXG.out])
   obtain ⟨x, hx⟩ : ∃ x, r.getD k 0 = x := ⟨_, rfl⟩
   rw [hx] at hcl HS
   clear hown hgr hc hq hx
   go_wp2
   go_roundw
   case rel =>
    obtain ⟨a, b⟩ := World.ownsRow.stored HO.out k (.float .f64 x)
    rw [HS.out] at a
    exact ⟨k + 1, by omega, by go_num, a, HG.out.trans b⟩
   case measure => simp [intOf]; omega
  ·have hkn : k = n := by omega
   have HL := Lib.hid (show Slc wr (fun b => w.heap.size ≤ b) (.slice (some ⟨w.heap.size, 0, none⟩) n n) n xs by
    have := Slc.owned HO.out
    rw [hkn, ← HXL.out, fillTo_all, HXL.out] at this
    exact this)
   clear hkn hown hgr
   go_wp2
   go_ret
   exact ⟨_, rfl, HL.out, HB.out⟩
end Go.Proofs.YtbacchbcanlciaaGreatDoor

namespace Go.Proofs.YtbacchbcanlciaaGreatDoor
set_option maxRecDepth 100000
open Go.RowKit Fl
set_option linter.unusedVariables false

set_option maxHeartbeats 1000000 in
theorem CloneF_own {ok : Nat → Prop} (v : Value) (l : List Nat) (w : World) (hv : Slc w ok v l.length (f64s l)) (hm0 : l.length ≤ 2000000) :
  Calls Tryz.prog 41 #[v] w fun e w' => ∃ v, e = .returned v ∧ w'.ownsRow w.heap.size 42 1 v l.length (f64s l) ∧ Below w.heap.size w w' := by
 obtain ⟨i0, hi, hz0, hz1, hz2⟩ := info_parts info_f64
 obtain ⟨ao, cap, rfl, h1, h2, _, hcells⟩ := hv.opened
 have hm : l.length ≤ maxLen := by unfold maxLen; omega
 clear hv h1 h2
 have qT : ∀ (w : World) (a : Option Addr) (n c n' c' : Nat), (binOp .eql 22 (.slice a n c) (.slice none n' c')).run Tryz.prog w = .ok (.bool a.isNone) w := fun w a n c n' c' => Lib.run_eql_slice_nil w _ _ a n c n' c' Tryz.underlying22
 cases ao with
 | none =>
  have h0 : l = [] := by
   cases l with
   | nil => rfl
   | cons z zs => obtain ⟨b, off, e, _⟩ := hcells 0 (by simp [f64s]); cases e
  subst h0
  go_enter Tryz.func41, Tryz.ntmps41
  go_wp2
  go_ret
  exact ⟨_, rfl, World.ownsRow_nil _ _ _ _, Below.refl _ _⟩
 | some ad =>
  have hc : ∀ j u, (f64s l)[j]? = some u → w.cell? (ad.add j) = some u := by
   intro j u hj
   obtain ⟨hj', e⟩ := List.getElem?_eq_some_iff.1 hj
   obtain ⟨b, off, e2, _, hcell⟩ := hcells j hj'
   obtain rfl := Option.some.inj e2
   rw [← e, Go.WideShapes.add_plain]; exact hcell
  have HC := Lib.hid hc
  have hone : Hid (∀ u ∈ f64s l, u.oneCell' = true) := Lib.hid (by
   intro u hu
   simp only [f64s, List.mem_map] at hu
   obtain ⟨z, _, rfl⟩ := hu
   rfl)
  have hown := World.ownsRow_lit (base := w.heap.size) (e := 42) (size := 1) w #[] 0 (Nat.le_refl _) (by unfold maxLen; omega) rfl
  have HO := Lib.hid hown
  have HL := Lib.hid (show (f64s l).length = l.length * 1 by simp [f64s])
  clear hc hown hcells
  go_enter Tryz.func41, Tryz.ntmps41
  go_wp2_with (at_builtin; refine wpList_append_own _ rfl _ _ 22 rfl w.heap.size 42 i0 (.float .f64 0) 1 8 Tryz.underlying22 hi hz0 hz1 hz2 rfl (by decide) _ _ _ rfl HO.out ad l.length cap (f64s l) rfl HL.out ?c1 hone.out ?c3 ?c4 ?c5 ?_)
  case c1 => exact fun j u hj => keep_alloc _ _ _ _ (HC.out j u hj)
  case c4 => omega
  intro v' w1 hown' hgrow _
  have HO1 := Lib.hid hown'
  have HB1 := Lib.hid (grown_below ((Below.refl w.heap.size w).alloc (Nat.le_refl _) _) HO.out (Nat.le_refl _) (by simp) hgrow)
  clear hown' hgrow
  go_wp2
  go_ret
  exact ⟨_, rfl, by have := HO1.out; simpa using this, HB1.out⟩

theorem own_some {w : World} {base : Nat} {e : TypeId} {v : Value} {n : Nat} {xs : List Value} (h : w.ownsRow base e 1 v n xs) (hn : 0 < n) : ∃ g cap, v = .slice (some ⟨g, 0, none⟩) n cap ∧ base ≤ g := by
 obtain ⟨_, ⟨_, h0⟩ | ⟨g, cap, cur, e, hb, _⟩⟩ := h
 ·omega
 ·exact ⟨g, cap, e, hb⟩
theorem own_lt {w : World} {base : Nat} {e : TypeId} {g n cap : Nat} {xs : List Value} (h : w.ownsRow base e 1 (.slice (some ⟨g, 0, none⟩) n cap) n xs) : g < w.heap.size ∧ base ≤ g := by
 obtain ⟨_, ⟨h0, _⟩ | ⟨g', cap', cur, e, hb, hg, _⟩⟩ := h
 ·cases h0
 ·cases e
  exact ⟨(Array.getElem?_eq_some_iff.1 hg).1, hb⟩

set_option maxHeartbeats 4000000 in
theorem scalt_calls {ok : Nat → Prop} (v : Value) (r : List Nat) (w : World) (hv : Slc w ok v r.length (f64s r)) (h0 : 0 < r.length) (hlm : r.length ≤ 1048576) (hN : ∀ x ∈ r, Num x) :
  Calls Tryz.prog 131 #[v] w fun e w' => ∃ v' a, e = .returned v' ∧ AltOf r a ∧ Slc w' (fun b => w.heap.size ≤ b) v' r.length (f64s a) ∧ Below w.heap.size w w' := by
 have HV := Lib.hid hv
 obtain ⟨n, hn⟩ : ∃ n, r.length = n := ⟨_, rfl⟩
 have HR := Lib.hid hn; have HN := Lib.hid hN
 have HNM := Lib.hid (show n ≤ 1048576 by omega)
 have HN0 := Lib.hid (show 0 < n by omega)
 have hst := run_store_float
 obtain ⟨ao, cap, rfl, _⟩ := hv.opened
 rw [hn] at HV ⊢
 clear hv hn h0 hlm hN
 go_enter Tryz.func131, Tryz.ntmps131
 go_wp2_with fail
 refine (CloneF_own _ r w (by rw [HR.out]; exact HV.out) (by rw [HR.out]; have := HNM.out; omega)).mono ?_
 rintro e W1 ⟨v1, rfl, hown, hB⟩
 rw [HR.out] at hown
 obtain ⟨g, cp, rfl, hg⟩ := own_some hown HN0.out
 have HO := Lib.hid hown; have HB := Lib.hid hB; have HG := Lib.hid hg; clear hown hB hg
 go_wp2_with fail
 go_loopw [4] (fun i wr => ∃ m : Nat, m ≤ n + 2 ∧ m % 2 = 1 ∧ i = .int .i64 m ∧ wr.ownsRow w.heap.size 42 1 (.slice (some ⟨g, 0, none⟩) n cp) n (f64s (altL r m)) ∧ Below w.heap.size w wr) (fun i _ => n + 2 - (intOf i).toNat)
 case atStart => exact ⟨1, by omega, rfl, rfl, by rw [altL_one]; exact HO.out, HB.out⟩
 case round =>
  obtain ⟨m, hm, ho, rfl, hown, hB⟩ := hrel
  have HO := Lib.hid hown; have HB := Lib.hid hB; have hnm := HNM.out; have HO2 := Lib.hid ho; clear hown hB ho
  by_cases hlt : m < n
  ·have hcw := owns_cell HO.out m (by unfold f64s; rw [List.length_map, altL_len, HR.out]; exact hlt)
   have hx : (f64s (altL r m))[m]'(by unfold f64s; rw [List.length_map, altL_len, HR.out]; exact hlt) = .float .f64 (r.getD m 0) := by
    have h9 := altL_at (r := r) (m := m) (by rw [HR.out]; exact hlt)
    rw [List.getD_eq_getElem?_getD, List.getElem?_eq_getElem (by rw [altL_len, HR.out]; exact hlt)] at h9
    simp only [f64s, List.getElem_map]
    rw [← h9]; rfl
   rw [hx] at hcw
   obtain ⟨x, hxe⟩ : ∃ x, r.getD m 0 = x := ⟨_, rfl⟩
   rw [hxe] at hcw
   have HS := Lib.hid (show (altL r m).set m (ngw x) = altL r (m + 2) by rw [← hxe]; exact altL_set (by rw [HR.out]; exact hlt) HO2.out)
   have hng : ∀ w, (Op.unary UnOp.neg (.float .f64 x)).run Tryz.prog w = .ok (.float .f64 (ngw x)) w := fun w => rfl

   have hfr := World.ownsRow.frozenAt HO.out m
   have hgs := own_lt HO.out
   clear hx hxe
   go_wp2
   go_roundw
   case rel =>
    have h9 := (World.ownsRow.stored HO.out m (.float .f64 (ngw x))).1
    refine ⟨m + 2, by omega, by have := HO2.out; omega, by go_num, ?_, HB.out.setCell HG.out _⟩
    rw [← HS.out]
    unfold f64s at h9 ⊢
    rw [List.map_set]
    exact h9
   case measure => simp [intOf]; omega
  ·have HL := Lib.hid (show Slc wr (fun b => w.heap.size ≤ b) (.slice (some ⟨g, 0, none⟩) n cp) n (f64s (altL r m)) from Slc.owned HO.out)
   have HA := Lib.hid (show AltOf r (altL r m) from altL_of HN.out (by rw [HR.out]; omega))
   go_wp2
   go_ret
   exact ⟨_, _, rfl, HA.out, HL.out, HB.out⟩

def SumAt (r z : List Nat) (k : Nat) (S L H : Int) : Prop :=
 (∀ i, i < k → isW (r.getD i 0)) ∧ S = psW r k ∧ (L ≤ 0 ∧ 0 ≤ H) ∧ (∀ a, a ≤ k → L ≤ psW r a ∧ psW r a ≤ H) ∧ H - L ≤ 9007199254740992 ∧ ∀ j, j < k → z.getD j 0 = floatOfInt .f64 (psW r (j + 1))
theorem sumAt_zero (r : List Nat) : SumAt r [] 0 0 0 0 :=
 ⟨fun i h => by omega, rfl, ⟨by omega, by omega⟩, fun a h => by rw [show a = 0 by omega]; exact ⟨Int.le_refl _, Int.le_refl _⟩, by omega, fun j h => by omega⟩
theorem sumAt_sm {r z : List Nat} {k : Nat} {S L H : Int} (h : SumAt r z k S L H) : sm S = true ∧ sm L = true ∧ sm H = true := by
 obtain ⟨_, h2, h3, h4, h5, _⟩ := h
 have := h4 k (Nat.le_refl _)
 exact ⟨sm_yes (by omega) (by omega), sm_yes (by omega) (by omega), sm_yes (by omega) (by omega)⟩
theorem sumAt_ok {r z : List Nat} {k : Nat} {S L H : Int} (h : SumAt r z k S L H) (hz : z.length = k) (hk : k ≤ r.length) : SumOk r z := by
 obtain ⟨h1, h2, h3, h4, h5, h6⟩ := h
 refine ⟨by omega, fun i hi => h1 i (by omega), fun a b ha hb => ?_, fun j hj => h6 j (by omega)⟩
 have := h4 a (by omega)
 have := h4 b (by omega)
 omega
theorem getD_snoc (z : List Nat) (y : Nat) (j : Nat) (h : j ≤ z.length) : (z ++ [y]).getD j 0 = if j < z.length then z.getD j 0 else y := by
 split
 ·rename_i h1
  rw [List.getD_eq_getElem?_getD, List.getD_eq_getElem?_getD, List.getElem?_append_left h1]
 ·have : j = z.length := by omega
  subst this
  simp
theorem sumAt_step {r z : List Nat} {k : Nat} {S L H n N L' H' : Int} {x : Nat} (h : SumAt r z k S L H) (hz : z.length = k) (hk : k < r.length) (hx : r.getD k 0 = x) (hw : Wh x n) (hN : N = S + n)
  (hL : L' = if N < L then N else L) (hH : H' = if N > H then N else H) (hd : sm (H' - L') = true) : SumAt r (z ++ [floatOfInt .f64 N]) (k + 1) N L' H' := by
 obtain ⟨h1, h2, h3, h4, h5, h6⟩ := h
 have hd := sm_of hd
 have hps : psW r (k + 1) = N := by rw [psW_succ hk, hx, wnOf_wh hw, ← h2, hN]
 have hb : (L' ≤ L ∧ L' ≤ N) ∧ (H ≤ H' ∧ N ≤ H') := by
  subst hL hH
  refine ⟨?_, ?_⟩ <;> split <;> omega
 refine ⟨fun i hi => ?_, hps.symm, by omega, fun a ha => ?_, by omega, fun j hj => ?_⟩
 ·rcases Nat.lt_or_eq_of_le (Nat.lt_succ_iff.1 hi) with g | g
  ·exact h1 i g
  ·subst g; rw [hx]; exact ⟨n, hw⟩
 ·rcases Nat.lt_or_eq_of_le ha with g | g
  ·have := h4 a (by omega); omega
  ·subst g; rw [hps]; omega
 ·rw [getD_snoc z _ j (by omega)]
  split
  ·exact h6 j (by omega)
  ·have : j = k := by omega
   subst this; rw [hps]
theorem whole_is (x : Nat) (hx : x < 18446744073709551616) : ∃ (n : Int) (b : Bool), (b = true → Wh x n) ∧ (b = false → n = 0) ∧ sm n = true ∧ ∀ w, Calls Tryz.prog 111 #[.float .f64 x] w fun e w' => e = .returned (.tuple #[.int .i64 n, .bool b]) ∧ w = w' := by
 by_cases h : ∃ n, Wh x n
 ·obtain ⟨n, hn⟩ := h
  exact ⟨n, true, fun _ => hn, fun h => absurd h (by decide), sm_abs hn.2.1, fun w => whole_yes x n w hn⟩
 ·exact ⟨0, false, fun h => absurd h (by decide), fun _ => rfl, by decide, fun w => whole_no x w hx fun n hn => h ⟨n, hn⟩⟩
theorem addint_is (a b : Int) (ha : sm a = true) (hb : sm b = true) : ∃ (n : Int) (t : Bool), (t = true → n = a + b) ∧ sm n = true ∧ ∀ w, Calls Tryz.prog 176 #[.int .i64 a, .int .i64 b] w fun e w' => e = .returned (.tuple #[.int .i64 n, .bool t]) ∧ w = w' := by
 cases h : sm (a + b)
 ·exact ⟨0, false, fun h => absurd h (by decide), by decide, fun w => addint_no3 a b w ha hb h⟩
 ·exact ⟨a + b, true, fun _ => rfl, h, fun w => addint_yes a b w ha hb h⟩
theorem subint_is (a b : Int) (ha : sm a = true) (hb : sm b = true) : ∃ (n : Int) (t : Bool), (t = true → sm (a - b) = true) ∧ ∀ w, Calls Tryz.prog 177 #[.int .i64 a, .int .i64 b] w fun e w' => e = .returned (.tuple #[.int .i64 n, .bool t]) ∧ w = w' := by
 cases h : sm (a - b)
 ·exact ⟨0, false, fun h => absurd h (by decide), fun w => subint_no3 a b w ha hb h⟩
 ·exact ⟨a - b, true, fun _ => rfl, fun w => subint_yes a b w ha hb h⟩

set_option maxHeartbeats 8000000 in
theorem scsums_calls {ok : Nat → Prop} (v : Value) (r : List Nat) (w : World) (hv : Slc w ok v r.length (f64s r)) (hlm : r.length ≤ 1048576) (hF : ∀ x ∈ r, Fnt x) :
  Calls Tryz.prog 132 #[v] w fun e w' => ∃ v' z, e = .returned v' ∧ SumOk r z ∧ w'.ownsRow w.heap.size 42 1 v' z.length (f64s z) ∧ Below w.heap.size w w' := by
 have HV := Lib.hid hv
 obtain ⟨n, hn⟩ : ∃ n, r.length = n := ⟨_, rfl⟩
 have HR := Lib.hid hn; have HF := Lib.hid hF
 have HNM := Lib.hid (show n ≤ 1048576 by omega)
 obtain ⟨i0, hi, hz0, hz1, hz2⟩ := info_parts info_f64
 have HI0 := Lib.hid (And.intro hi (And.intro hz0 (And.intro hz1 hz2)))
 obtain ⟨ao, cap, rfl, _⟩ := hv.opened
 rw [hn] at HV ⊢
 clear hv hn hlm hF hi hz0 hz1 hz2
 go_enter Tryz.func132, Tryz.ntmps132
 go_wp2_with fail
 go_loopw [3, 4, 5, 6, 17] (fun vz s lo hi i wr => ∃ (k : Nat) (z : List Nat) (S L H : Int), k ≤ n ∧ i = .int .i64 k ∧ z.length = k ∧ s = .int .i64 S ∧ lo = .int .i64 L ∧ hi = .int .i64 H ∧ SumAt r z k S L H ∧ wr.ownsRow w.heap.size 42 1 vz k (f64s z) ∧ Below w.heap.size w wr) (fun _ _ _ _ i _ => n - (intOf i).toNat)
 case atStart => exact ⟨0, [], 0, 0, 0, by omega, rfl, rfl, rfl, rfl, rfl, sumAt_zero r, World.ownsRow_nil _ _ _ _, Below.refl _ _⟩
 case round =>
  obtain ⟨k, z, S, L, H, hk, rfl, hzl, rfl, rfl, rfl, hsum, hown, hB⟩ := hrel
  have HO := Lib.hid hown; have HB := Lib.hid hB; have HSU := Lib.hid hsum; have HZL := Lib.hid hzl; have hnm := HNM.out
  have HDONE := Lib.hid (show SumOk r z from sumAt_ok hsum hzl (by rw [HR.out]; exact hk))
  have HOZ := Lib.hid (show wr.ownsRow w.heap.size 42 1 u3 z.length (f64s z) by rw [HZL.out]; exact hown)
  clear hown hB hsum hzl
  by_cases hlt : k < n
  ·have HLT := Lib.hid hlt
   obtain ⟨b, off, cp', x, e0, hx, hcx⟩ := Slc.at_map (Value.float .f64) (l := r) (by rw [HR.out]; exact HV.out.below HB.out) k (by rw [HR.out]; exact hlt)
   cases e0
   have HXG := Lib.hid (show r.getD k 0 = x by rw [List.getD_eq_getElem?_getD, hx]; rfl)
   have HSW := Lib.hid HB.out.size
   have HQM := Lib.hid (show k + 1 ≤ 1048576 by omega)
   have HM1 : Hid (k + 1 ≤ maxLen) := Lib.hid (by unfold maxLen; omega)
   obtain ⟨nx, wb, w1, w2, w3, wc⟩ := whole_is x (HF.out x (List.mem_of_getElem? hx)).1
   obtain ⟨s1, s2, s3⟩ := sumAt_sm HSU.out
   obtain ⟨N, ft, a1, a2, ac⟩ := addint_is S nx s1 w3
   obtain ⟨L', hL'⟩ : ∃ L', (if N < L then N else L) = L' := ⟨_, rfl⟩
   obtain ⟨H', hH'⟩ : ∃ H', (if N > H then N else H) = H' := ⟨_, rfl⟩
   have l1 : sm L' = true := by rw [← hL']; split <;> assumption
   have l2 : sm H' = true := by rw [← hH']; split <;> assumption
   obtain ⟨D, nr, d1, dc⟩ := subint_is H' L' l2 l1
   have hmin : ∀ (ts : Array TypeId) (t : TypeId) (w : World), (Builtin.min_ ts t #[.int .i64 L, .int .i64 N]).run Tryz.prog w = .ok (.int .i64 L') w := fun ts t w => by rw [run_min_int2, hL']
   have hmax : ∀ (ts : Array TypeId) (t : TypeId) (w : World), (Builtin.max_ ts t #[.int .i64 H, .int .i64 N]).run Tryz.prog w = .ok (.int .i64 H') w := fun ts t w => by rw [run_max_int2, hH']
   have WC := Lib.hid wc; have AC := Lib.hid ac; have DC := Lib.hid dc
   have HST := Lib.hid (show wb = true → ft = true → nr = true → SumAt r (z ++ [floatOfInt .f64 N]) (k + 1) N L' H' from fun b1 b2 b3 => sumAt_step HSU.out HZL.out (by rw [HR.out]; exact hlt) HXG.out (w1 b1) (a1 b2) hL'.symm hH'.symm (d1 b3))
   clear hx w1 w2 w3 wc s1 s2 s3 a1 a2 ac hL' hH' l1 l2 d1 dc
   go_wp2_with fail
   refine (WC.out _).mono ?_
   rintro e w' ⟨rfl, rfl⟩
   go_wp2_with fail
   refine (AC.out _).mono ?_
   rintro e w' ⟨rfl, rfl⟩
   go_wp2_with fail
   refine (DC.out _).mono ?_
   rintro e w' ⟨rfl, rfl⟩
   cases wb <;> cases ft <;> cases nr
   case true.true.true =>
    replace HST := Lib.hid (HST.out rfl rfl rfl)
    go_wp2_with (at_builtin; refine wpList_append_own _ rfl _ _ 22 rfl w.heap.size 42 i0 (.float .f64 0) 1 8 Tryz.underlying22 HI0.out.1 HI0.out.2.1 HI0.out.2.2.1 HI0.out.2.2.2 rfl (by decide) _ _ _ rfl (HO.out.alloc _) ⟨wr.heap.size, 0, none⟩ 1 1 [.float .f64 (floatOfInt .f64 N)] rfl rfl ?c1 ?c2 HM1.out ?c4 ?c5 ?_)
    case c1 =>
     intro j u hj
     match j, hj with
     | 0, hj => simp at hj; subst hj; simp [Addr.add]
    case c2 => intro u hu; simp at hu; subst hu; rfl
    case c4 => have := HQM.out; omega
    case c5 => have := HSW.out; simp <;> omega
    intro v' w3 hown' hgrow _
    have HO3 := Lib.hid hown'
    have HB3 := Lib.hid (grown_below (HB.out.alloc HSW.out _) (HO.out.alloc _) (Nat.le_refl _) (by have := HSW.out; simp <;> omega) hgrow)
    clear hown' hgrow
    go_wp2
    go_roundw
    case rel =>
     refine ⟨k + 1, z ++ [floatOfInt .f64 N], N, L', H', by omega, by go_num, by rw [List.length_append, HZL.out]; rfl, rfl, rfl, rfl, HST.out, ?_, HB3.out⟩
     have := HO3.out
     simpa [f64s] using this
    case measure => simp [intOf]; omega
   all_goals
    go_wp2
    go_ret
    exact ⟨_, z, rfl, HDONE.out, HOZ.out, HB.out⟩
  ·go_wp2
   go_ret
   exact ⟨_, z, rfl, HDONE.out, HOZ.out, HB.out⟩

def MulAt (r z : List Nat) (k : Nat) (P Sg : Int) : Prop :=
 (∀ i, i < k → isW (r.getD i 0)) ∧ P = prI ((wsT r k).map nz1) ∧ (Sg = 0 ∨ Sg = 1) ∧ prI (wsT r k) = Sg * P ∧ sm P = true ∧ ∀ j, j < k → (prI ((wsT r (j + 1)).map nz1)).natAbs ≤ 9007199254740992 ∧ z.getD j 0 = floatOfInt .f64 (prI (wsT r (j + 1)))
theorem mulAt_zero (r : List Nat) : MulAt r [] 0 1 1 := ⟨fun i h => by omega, rfl, .inr rfl, rfl, by decide, fun j h => by omega⟩
theorem mulAt_ok {r z : List Nat} {k : Nat} {P Sg : Int} (h : MulAt r z k P Sg) (hz : z.length = k) (hk : k ≤ r.length) : MulOk r z :=
 ⟨by omega, fun i hi => h.1 i (by omega), fun j hj => h.2.2.2.2.2 j (by omega)⟩
theorem mulAt_ne {r z : List Nat} {k : Nat} {P Sg : Int} (h : MulAt r z k P Sg) : P ≠ 0 := by
 rw [h.2.1]
 exact prI_nz fun x hx => by
  obtain ⟨y, _, rfl⟩ := List.mem_map.1 hx
  exact nz1_ne y
theorem mulAt_step {r z : List Nat} {k : Nat} {P Sg n N Q : Int} {x : Nat} (h : MulAt r z k P Sg) (hz : z.length = k) (hk : k < r.length) (hx : r.getD k 0 = x) (hw : Wh x n)
  (hN : N = P * nz1 n) (hp : pm P (nz1 n) = true) (hQ : Q = (if n = 0 then 0 else Sg) * N) : MulAt r (z ++ [floatOfInt .f64 Q]) (k + 1) N (if n = 0 then 0 else Sg) := by
 obtain ⟨h1, h2, h3, h4, h5, h6⟩ := h
 have e1 : prI ((wsT r (k + 1)).map nz1) = N := by
  rw [wsT_succ hk, List.map_append, prI_app, ← h2, hx, wnOf_wh hw, hN]
  show P * (nz1 n * 1) = _
  rw [Int.mul_one]
 have e2 : prI (wsT r (k + 1)) = Q := by
  rw [wsT_succ hk, prI_app, h4, hx, wnOf_wh hw, hQ, hN]
  show Sg * P * (n * 1) = _
  rw [Int.mul_one]
  unfold nz1
  by_cases h0 : n = 0
  ·rw [if_pos h0, h0]; simp
  ·rw [if_neg h0, if_neg h0, Int.mul_assoc]
 have hb := pm_bound hp
 rw [← hN] at hb
 refine ⟨fun i hi => ?_, e1.symm, by split; exact .inl rfl; exact h3, by rw [e2, hQ], sm_yes hb.1 hb.2, fun j hj => ?_⟩
 ·rcases Nat.lt_or_eq_of_le (Nat.lt_succ_iff.1 hi) with g | g
  ·exact h1 i g
  ·subst g; rw [hx]; exact ⟨n, hw⟩
 ·rw [getD_snoc z _ j (by omega)]
  split
  ·exact h6 j (by omega)
  ·have hjk : j = k := by omega
   subst hjk
   rw [e1, e2]
   exact ⟨by omega, rfl⟩
theorem nz1_sm {n : Int} (h : sm n = true) : sm (nz1 n) = true := by unfold nz1; split; decide; exact h
theorem mulint_is (a b : Int) (ha : sm a = true) (hb : sm b = true) (h0 : a ≠ 0) : ∃ (n : Int) (t : Bool), (t = true → n = a * b ∧ pm a b = true) ∧ sm n = true ∧ ∀ w, Calls Tryz.prog 178 #[.int .i64 a, .int .i64 b] w fun e w' => e = .returned (.tuple #[.int .i64 n, .bool t]) ∧ w = w' := by
 cases h : pm a b
 ·exact ⟨0, false, fun h => absurd h (by decide), by decide, fun w => mulint_any a b w ha hb h0 false h⟩
 ·refine ⟨a * b, true, fun _ => ⟨rfl, rfl⟩, ?_, fun w => mulint_any a b w ha hb h0 true h⟩
  have := pm_bound h
  exact sm_yes this.1 this.2

set_option maxHeartbeats 8000000 in
theorem scprod_calls {ok : Nat → Prop} (v : Value) (r : List Nat) (w : World) (hv : Slc w ok v r.length (f64s r)) (hlm : r.length ≤ 1048576) (hF : ∀ x ∈ r, Fnt x) :
  Calls Tryz.prog 133 #[v] w fun e w' => ∃ v' z, e = .returned v' ∧ MulOk r z ∧ w'.ownsRow w.heap.size 42 1 v' z.length (f64s z) ∧ Below w.heap.size w w' := by
 have HV := Lib.hid hv
 obtain ⟨n, hn⟩ : ∃ n, r.length = n := ⟨_, rfl⟩
 have HR := Lib.hid hn; have HF := Lib.hid hF
 have HNM := Lib.hid (show n ≤ 1048576 by omega)
 obtain ⟨i0, hi, hz0, hz1, hz2⟩ := info_parts info_f64
 have HI0 := Lib.hid (And.intro hi (And.intro hz0 (And.intro hz1 hz2)))
 obtain ⟨ao, cap, rfl, _⟩ := hv.opened
 rw [hn] at HV ⊢
 clear hv hn hlm hF hi hz0 hz1 hz2
 go_enter Tryz.func133, Tryz.ntmps133
 go_wp2_with fail
 go_loopw [3, 4, 5, 14] (fun vz s sg i wr => ∃ (k : Nat) (z : List Nat) (P Sg : Int), k ≤ n ∧ i = .int .i64 k ∧ z.length = k ∧ s = .int .i64 P ∧ sg = .int .i64 Sg ∧ MulAt r z k P Sg ∧ wr.ownsRow w.heap.size 42 1 vz k (f64s z) ∧ Below w.heap.size w wr) (fun _ _ _ i _ => n - (intOf i).toNat)
 case atStart => exact ⟨0, [], 1, 1, by omega, rfl, rfl, rfl, rfl, mulAt_zero r, World.ownsRow_nil _ _ _ _, Below.refl _ _⟩
 case round =>
  obtain ⟨k, z, P, Sg, hk, rfl, hzl, rfl, rfl, hmul, hown, hB⟩ := hrel
  have HO := Lib.hid hown; have HB := Lib.hid hB; have HSU := Lib.hid hmul; have HZL := Lib.hid hzl; have hnm := HNM.out
  have HDONE := Lib.hid (show MulOk r z from mulAt_ok hmul hzl (by rw [HR.out]; exact hk))
  have HOZ := Lib.hid (show wr.ownsRow w.heap.size 42 1 u3 z.length (f64s z) by rw [HZL.out]; exact hown)
  clear hown hB hmul hzl
  by_cases hlt : k < n
  ·have HLT := Lib.hid hlt
   obtain ⟨b, off, cp', x, e0, hx, hcx⟩ := Slc.at_map (Value.float .f64) (l := r) (by rw [HR.out]; exact HV.out.below HB.out) k (by rw [HR.out]; exact hlt)
   cases e0
   have HXG := Lib.hid (show r.getD k 0 = x by rw [List.getD_eq_getElem?_getD, hx]; rfl)
   have HSW := Lib.hid HB.out.size
   have HQM := Lib.hid (show k + 1 ≤ 1048576 by omega)
   have HM1 : Hid (k + 1 ≤ maxLen) := Lib.hid (by unfold maxLen; omega)
   obtain ⟨nx, wb, w1, w2, w3, wc⟩ := whole_is x (HF.out x (List.mem_of_getElem? hx)).1
   obtain ⟨m, hm⟩ : ∃ m, nz1 nx = m := ⟨_, rfl⟩
   obtain ⟨N, ft, a1, a2, ac⟩ := mulint_is P (nz1 nx) HSU.out.2.2.2.2.1 (nz1_sm w3) (mulAt_ne HSU.out)
   obtain ⟨T, hT⟩ : ∃ T, (if nx = 0 then 0 else Sg) = T := ⟨_, rfl⟩
   obtain ⟨Q, hQ⟩ : ∃ Q, T * N = Q := ⟨_, rfl⟩
   have hts : T = 0 ∨ T = 1 := by rw [← hT]; split; exact .inl rfl; exact HSU.out.2.2.1
   have hq : IntKind.i64.wrap (T * N) = Q := by
    rw [hQ]
    refine IntWalk.i64_in _ ?_
    have := sm_of a2
    rcases hts with h | h <;> rw [h] at hQ <;> omega
   have WC := Lib.hid wc; have AC := Lib.hid ac
   have HST := Lib.hid (show wb = true → ft = true → MulAt r (z ++ [floatOfInt .f64 Q]) (k + 1) N T from fun b1 b2 => hT ▸ mulAt_step HSU.out HZL.out (by rw [HR.out]; exact hlt) HXG.out (w1 b1) (a1 b2).1 (a1 b2).2 (by rw [hT, hQ]))
   by_cases hn0 : nx = 0
   ·have hm1 : m = 1 := by rw [← hm, hn0]; rfl
    have hT0 : T = 0 := by rw [← hT, if_pos hn0]
    have hQ0 : Q = 0 := by rw [← hQ, hT0]; simp
    subst hn0
    subst hT0
    rw [hm, hm1] at AC
    clear hq
    subst hQ0
    clear hx w1 w2 w3 wc a1 a2 ac hm hT hQ hts hm1
    go_wp2_with fail
    refine (WC.out _).mono ?_
    rintro e w' ⟨rfl, rfl⟩
    go_wp2_with fail
    refine (AC.out _).mono ?_
    rintro e w' ⟨rfl, rfl⟩
    cases wb <;> cases ft
    case true.true =>
     replace HST := Lib.hid (HST.out rfl rfl)
     go_wp2_with (at_builtin; refine wpList_append_own _ rfl _ _ 22 rfl w.heap.size 42 i0 (.float .f64 0) 1 8 Tryz.underlying22 HI0.out.1 HI0.out.2.1 HI0.out.2.2.1 HI0.out.2.2.2 rfl (by decide) _ _ _ rfl (HO.out.alloc _) ⟨wr.heap.size, 0, none⟩ 1 1 [.float .f64 (floatOfInt .f64 0)] rfl rfl ?c1 ?c2 HM1.out ?c4 ?c5 ?_)
     case c1 =>
      intro j u hj
      match j, hj with
      | 0, hj => simp at hj; subst hj; simp [Addr.add]
     case c2 => intro u hu; simp at hu; subst hu; rfl
     case c4 => have := HQM.out; omega
     case c5 => have := HSW.out; simp <;> omega
     intro v' w3 hown' hgrow _
     have HO3 := Lib.hid hown'
     have HB3 := Lib.hid (grown_below (HB.out.alloc HSW.out _) (HO.out.alloc _) (Nat.le_refl _) (by have := HSW.out; simp <;> omega) hgrow)
     clear hown' hgrow
     go_wp2
     go_roundw
     case rel =>
      refine ⟨k + 1, z ++ [floatOfInt .f64 0], N, 0, by omega, by go_num, by rw [List.length_append, HZL.out]; rfl, rfl, rfl, HST.out, ?_, HB3.out⟩
      have := HO3.out
      simpa [f64s] using this
     case measure => simp [intOf]; omega
    all_goals
     go_wp2
     go_ret
     exact ⟨_, z, rfl, HDONE.out, HOZ.out, HB.out⟩
   ·have hm1 : m = nx := by rw [← hm]; unfold nz1; rw [if_neg hn0]
    have hT0 : T = Sg := by rw [← hT, if_neg hn0]
    have hne : (nx == 0) = false := by simpa using hn0
    subst hT0
    rw [hm, hm1] at AC
    clear hx w1 w2 w3 wc a1 a2 ac hm hT hQ hts hm1 hn0
    go_wp2_with fail
    refine (WC.out _).mono ?_
    rintro e w' ⟨rfl, rfl⟩
    go_wp2_with fail
    refine (AC.out _).mono ?_
    rintro e w' ⟨rfl, rfl⟩
    cases wb <;> cases ft
    case true.true =>
     replace HST := Lib.hid (HST.out rfl rfl)
     go_wp2_with (at_builtin; refine wpList_append_own _ rfl _ _ 22 rfl w.heap.size 42 i0 (.float .f64 0) 1 8 Tryz.underlying22 HI0.out.1 HI0.out.2.1 HI0.out.2.2.1 HI0.out.2.2.2 rfl (by decide) _ _ _ rfl (HO.out.alloc _) ⟨wr.heap.size, 0, none⟩ 1 1 [.float .f64 (floatOfInt .f64 Q)] rfl rfl ?c1 ?c2 HM1.out ?c4 ?c5 ?_)
     case c1 =>
      intro j u hj
      match j, hj with
      | 0, hj => simp at hj; subst hj; simp [Addr.add]
     case c2 => intro u hu; simp at hu; subst hu; rfl
     case c4 => have := HQM.out; omega
     case c5 => have := HSW.out; simp <;> omega
     intro v' w3 hown' hgrow _
     have HO3 := Lib.hid hown'
     have HB3 := Lib.hid (grown_below (HB.out.alloc HSW.out _) (HO.out.alloc _) (Nat.le_refl _) (by have := HSW.out; simp <;> omega) hgrow)
     clear hown' hgrow
     go_wp2
     go_roundw
     case rel =>
      refine ⟨k + 1, z ++ [floatOfInt .f64 Q], N, T, by omega, by go_num, by rw [List.length_append, HZL.out]; rfl, rfl, rfl, HST.out, ?_, HB3.out⟩
      have := HO3.out
      simpa [f64s] using this
     case measure => simp [intOf]; omega
    all_goals
     go_wp2
     go_ret
     exact ⟨_, z, rfl, HDONE.out, HOZ.out, HB.out⟩
  ·go_wp2
   go_ret
   exact ⟨_, z, rfl, HDONE.out, HOZ.out, HB.out⟩

def ExtAt (f : Int) (r z : List Nat) (i : Nat) : Prop := z.length = r.length ∧ (∀ x ∈ z, Num x) ∧ z.getD 0 0 = r.getD 0 0 ∧ (∀ j, 0 < j → j < i → z.getD j 0 = exw f (z.getD (j - 1) 0) (r.getD j 0)) ∧ ∀ j, i ≤ j → z.getD j 0 = r.getD j 0
theorem extAt_one {f : Int} {r : List Nat} (hN : ∀ x ∈ r, Num x) : ExtAt f r r 1 := ⟨rfl, hN, rfl, fun j h1 h2 => by omega, fun j _ => rfl⟩
theorem getD_set {z : List Nat} {i j y : Nat} (h : i < z.length) : (z.set i y).getD j 0 = if i = j then y else z.getD j 0 := by
 simp only [List.getD_eq_getElem?_getD, List.getElem?_set]
 split
 ·rename_i e; subst e; simp
 ·rfl
theorem extAt_step {f : Int} {r z : List Nat} {i : Nat} (h : ExtAt f r z i) (h0 : 0 < i) (hi : i < r.length) : ExtAt f r (z.set i (exw f (z.getD (i - 1) 0) (z.getD i 0))) (i + 1) := by
 obtain ⟨h1, h2, h3, h4, h5⟩ := h
 have hz : i < z.length := by omega
 refine ⟨by rw [List.length_set, h1], fun x hx => ?_, by rw [getD_set hz, if_neg (by omega)]; exact h3, fun j a b => ?_, fun j a => ?_⟩
 ·rcases List.mem_or_eq_of_mem_set hx with g | g
  ·exact h2 x g
  ·rw [g]; exact exw_num (getD_num h2 _) (getD_num h2 _)
 ·rw [getD_set hz, getD_set hz, if_neg (show ¬ i = j - 1 by omega)]
  split
  ·rename_i e; subst e; rw [h5 i (Nat.le_refl _)]
  ·exact h4 j a (by omega)
 ·rw [getD_set hz, if_neg (by omega)]; exact h5 j (by omega)
theorem extAt_ok {f : Int} {r z : List Nat} {i : Nat} (h : ExtAt f r z i) (hi : r.length ≤ i) : ExtOk f r z := ⟨h.1, h.2.2.1, fun j a b => h.2.2.2.1 j a (by omega)⟩
theorem aone_ext (f : Int) (a b : Nat) (w : World) (hf : f = 5 ∨ f = 6) (ha : Num a) (hb : Num b) : Calls Tryz.prog 143 #[.int .i64 f, .float .f64 a, .float .f64 b] w fun e w' => e = .returned (.tuple #[.float .f64 (exw f a b), .int .i64 0]) ∧ w = w' := by
 have HA := Lib.hid ha; have HB := Lib.hid hb
 rcases hf with h | h <;> subst h
 ·go_enter Tryz.func143, Tryz.ntmps143
  go_wp2_with ((with_reducible refine (max_calls _ _ _ HA.out HB.out).mono ?_); rintro e w' ⟨rfl, rfl⟩)
  go_ret2
  exact ⟨rfl, rfl⟩
 ·go_enter Tryz.func143, Tryz.ntmps143
  go_wp2_with ((with_reducible refine (min_calls _ _ _ HA.out HB.out).mono ?_); rintro e w' ⟨rfl, rfl⟩)
  go_ret2
  exact ⟨rfl, rfl⟩
theorem foone_ext (f : Int) (a b : Nat) (w : World) (hf : f = 5 ∨ f = 6) (ha : Num a) (hb : Num b) : Calls Tryz.prog 113 #[.int .i64 f, .float .f64 a, .float .f64 b] w fun e w' => e = .returned (.tuple #[.float .f64 (exw f a b), .int .i64 0]) ∧ w = w' := by
 have HF := Lib.hid hf; have HA := Lib.hid ha; have HB := Lib.hid hb
 have D1 := Lib.hid (show decide (1 ≤ f ∧ f ≤ 8) = true from decide_eq_true (by omega))
 clear hf
 go_enter Tryz.func113, Tryz.ntmps113
 go_wp2_with (first | ((with_reducible refine (foreck_calls _ _).mono ?_); rintro e w' ⟨rfl, rfl⟩; rw [D1.out]) | ((with_reducible refine (aone_ext _ _ _ _ HF.out HA.out HB.out).mono ?_); rintro e w' ⟨rfl, rfl⟩))
 go_ret2
 exact ⟨rfl, rfl⟩
set_option maxHeartbeats 4000000 in
theorem scext_calls {ok : Nat → Prop} (f : Int) (v : Value) (r : List Nat) (w : World) (hf : f = 5 ∨ f = 6) (hv : Slc w ok v r.length (f64s r)) (h0 : 0 < r.length) (hlm : r.length ≤ 1048576) (hN : ∀ x ∈ r, Num x) :
  Calls Tryz.prog 134 #[.int .i64 f, v] w fun e w' => ∃ v' z, e = .returned v' ∧ ExtOk f r z ∧ w'.ownsRow w.heap.size 42 1 v' z.length (f64s z) ∧ Below w.heap.size w w' := by
 have HV := Lib.hid hv
 obtain ⟨n, hn⟩ : ∃ n, r.length = n := ⟨_, rfl⟩
 have HR := Lib.hid hn; have HN := Lib.hid hN; have HF := Lib.hid hf
 have HNM := Lib.hid (show n ≤ 1048576 by omega)
 have HN0 := Lib.hid (show 0 < n by omega)
 have hst := run_store_float
 obtain ⟨ao, cap, rfl, _⟩ := hv.opened
 rw [hn] at HV ⊢
 clear hv hn h0 hlm hN hf
 go_enter Tryz.func134, Tryz.ntmps134
 go_wp2_with fail
 refine (CloneF_own _ r w (by rw [HR.out]; exact HV.out) (by rw [HR.out]; have := HNM.out; omega)).mono ?_
 rintro e W1 ⟨v1, rfl, hown, hB⟩
 rw [HR.out] at hown
 obtain ⟨g, cp, rfl, hg⟩ := own_some hown HN0.out
 have HO := Lib.hid hown; have HB := Lib.hid hB; have HG := Lib.hid hg; clear hown hB hg
 go_wp2_with fail
 go_loopw [6] (fun i wr => ∃ (m : Nat) (z : List Nat), m ≤ n ∧ 0 < m ∧ i = .int .i64 m ∧ ExtAt f r z m ∧ wr.ownsRow w.heap.size 42 1 (.slice (some ⟨g, 0, none⟩) n cp) n (f64s z) ∧ Below w.heap.size w wr) (fun i _ => n - (intOf i).toNat)
 case atStart => exact ⟨1, r, HN0.out, by omega, rfl, extAt_one HN.out, HO.out, HB.out⟩
 case round =>
  obtain ⟨m, z, hm, hm0, rfl, hext, hown, hB⟩ := hrel
  have HO := Lib.hid hown; have HB := Lib.hid hB; have hnm := HNM.out; have HE := Lib.hid hext; have HM0 := Lib.hid hm0
  have HZL := Lib.hid (show z.length = n by rw [← HR.out]; exact hext.1)
  clear hown hB hext
  by_cases hlt : m < n
  ·obtain ⟨p, hp⟩ : ∃ p, m - 1 = p := ⟨_, rfl⟩
   have hpm : ((m : Int) - 1) = (p : Int) := by omega
   have hpn : p < n := by omega
   have hpw : IntKind.i64.wrap (p : Int) = (p : Int) := IntWalk.i64_in _ (by omega)
   obtain ⟨x, hx⟩ : ∃ x, z.getD p 0 = x := ⟨_, rfl⟩
   obtain ⟨y, hy⟩ : ∃ y, z.getD m 0 = y := ⟨_, rfl⟩
   have hcell : ∀ j, j < n → wr.cell? ⟨g, j, none⟩ = some (.float .f64 (z.getD j 0)) := fun j hj => by
    rw [owns_cell HO.out j (by unfold f64s; rw [List.length_map, HZL.out]; exact hj)]
    simp only [f64s, List.getElem_map]
    rw [List.getD_eq_getElem?_getD, List.getElem?_eq_getElem (by rw [HZL.out]; exact hj)]
    rfl
   have hc1 := hcell p hpn
   have hc2 := hcell m hlt
   rw [hx] at hc1
   rw [hy] at hc2
   have HX := Lib.hid (show Num x by rw [← hx]; exact getD_num HE.out.2.1 _)
   have HY := Lib.hid (show Num y by rw [← hy]; exact getD_num HE.out.2.1 _)
   have HES := Lib.hid (show ExtAt f r (z.set m (exw f x y)) (m + 1) by rw [← hx, ← hy, ← hp]; exact extAt_step HE.out HM0.out (by rw [HR.out]; exact hlt))
   have HON := Lib.hid (exw_one HF.out x y)
   have hfr := World.ownsRow.frozenAt HO.out m
   have hgs := own_lt HO.out
   clear hcell hx hy hp
   go_wp2_with fail
   go_region_with (go_at_call 113; refine (foone_ext f x y _ HF.out HX.out HY.out).mono ?_; rintro e w' ⟨rfl, rfl⟩)
   all_goals
    go_wp2
    go_roundw
    case rel =>
     have h9 := (World.ownsRow.stored HO.out m (.float .f64 (exw f x y))).1
     refine ⟨m + 1, z.set m (exw f x y), by omega, by omega, by go_num, HES.out, ?_, ?_⟩
     ·unfold f64s at h9 ⊢
      rw [List.map_set]
      exact h9
     ·exact (Below.drewN' HB.out 1).setCell HG.out _
    case measure => simp [intOf]; omega
  ·have hmn : m = n := by omega
   have HX := Lib.hid (show ExtOk f r z from extAt_ok HE.out (by rw [HR.out]; omega))
   have HOZ := Lib.hid (show wr.ownsRow w.heap.size 42 1 (.slice (some ⟨g, 0, none⟩) n cp) z.length (f64s z) by rw [HZL.out]; exact HO.out)
   clear hmn
   go_wp2
   go_ret
   exact ⟨_, z, rfl, HX.out, HOZ.out, HB.out⟩
end Go.Proofs.YtbacchbcanlciaaGreatDoor

namespace Go.Proofs.YtbacchbcanlciaaGreatDoor
set_option maxRecDepth 100000
open Go.RowKit Fl
set_option linter.unusedVariables false

theorem At3.pick {w : World} {b : Nat} {x y : Nat} (h : At3 w b (.int .i64 (x : Int)) (.int .i64 (y : Int)) (.int .i64 2)) {t : Nat} (ht : t ≤ 2) : w.cell? ⟨b, t, none⟩ = some (.int .i64 (pick3 x y t : Nat)) := by
 obtain ⟨_, h1, h2, h3, _⟩ := h
 have hc : t = 0 ∨ t = 1 ∨ t = 2 := by omega
 rcases hc with e | e | e <;> subst e
 ·exact h1
 ·exact h2
 ·exact h3
theorem beg_one {f : Int} {r : List Nat} (h : 0 < r.length) : Beg f r (r.take 1) := by
 cases r with
 | nil => simp at h
 | cons a l =>
  refine ⟨by simp, fun k hk => ?_⟩
  have : k = 0 := by simp at hk; omega
  subst this
  rfl
theorem beg_snoc {f : Int} {r z : List Nat} {y : Nat} (h : Beg f r z) (hl : z.length < r.length) (hy : rowN f (r.take (z.length + 1)) = (y, 0)) : Beg f r (z ++ [y]) := by
 refine ⟨by rw [List.length_append]; show z.length + 1 ≤ _; omega, fun k hk => ?_⟩
 rw [List.length_append] at hk
 have hk : k < z.length + 1 := hk
 rw [getD_snoc z y k (by omega)]
 split
 ·rename_i h1; exact h.2 k h1
 ·have : k = z.length := by omega
  subst this; exact hy

set_option maxHeartbeats 16000000 in
theorem sctru_calls {ok : Nat → Prop} (f : Int) (v : Value) (r : List Nat) (w : World) (hv : Slc w ok v r.length (f64s r)) (h0 : 0 < r.length) (hlm : r.length ≤ 1048576) (hN : ∀ x ∈ r, Num x) :
  Calls Tryz.prog 135 #[.int .i64 f, v] w fun e w' => ∃ v' z, e = .returned v' ∧ Beg f r z ∧ w'.ownsRow w.heap.size 42 1 v' z.length (f64s z) ∧ Below w.heap.size w w' := by
 have HV := Lib.hid hv
 obtain ⟨m, hm⟩ : ∃ m, r.length = m + 1 := ⟨r.length - 1, by omega⟩
 have HR := Lib.hid hm; have HN := Lib.hid hN
 have HBO := Lib.hid (beg_one (f := f) h0)
 obtain ⟨r1, hr1⟩ : ∃ r1, r.take 1 = r1 := ⟨_, rfl⟩
 have HR1 := Lib.hid (show r1.length = 1 by rw [← hr1, List.length_take]; omega)
 have HRT := Lib.hid hr1
 obtain ⟨n, hn⟩ : ∃ n, n = m + 1 := ⟨_, rfl⟩
 have HNM := Lib.hid (show n ≤ 1048576 by omega)
 have HNE := Lib.hid hn
 have hn1 : (n : Int) - 1 = (m : Int) := by omega
 obtain ⟨i0, hi, hz0, hz1, hz2⟩ := info_parts info_f64
 have HI0 := Lib.hid (And.intro hi (And.intro hz0 (And.intro hz1 hz2)))
 have hat : ∀ i, i < r.length → ∃ b off cap, v = .slice (some ⟨b, off, none⟩) r.length cap ∧ w.cell? ⟨b, off + i, none⟩ = some (.float .f64 (r.getD i 0)) := fun i hi => by
  obtain ⟨b, off, cap, x, e, hx, hc⟩ := Slc.at_map (Value.float .f64) hv i (by omega)
  have hx2 : r.getD i 0 = x := by rw [List.getD_eq_getElem?_getD, hx]; rfl
  exact ⟨b, off, cap, e, by rw [hx2]; exact hc⟩
 obtain ⟨b0, off, cap, rfl, _⟩ := hat 0 h0
 have HAT := Lib.hid (show ∀ i, i < n → w.cell? ⟨b0, off + i, none⟩ = some (.float .f64 (r.getD i 0)) from fun i hi => by
  obtain ⟨b', off', cap', e, h1⟩ := hat i (by omega)
  cases e
  exact h1)
 obtain ⟨ao9, cap9, e9, hcap, hcm⟩ := hv.2
 cases e9
 have HV1 := Lib.hid (show Slc w ok (.slice (some ⟨b0, off, none⟩) 1 cap) r1.length (f64s r1) by
  have h9 := Slc.takem (Value.float .f64) (s := r) (ao := some ⟨b0, off, none⟩) (cap := cap) hv 1 (by omega)
  rw [hr1] at h9; rw [HR1.out]; rw [HR1.out] at h9; exact h9)
 rw [hm, ← hn] at hcap ⊢
 have hmn : m ≤ n := by omega
 have hn0 : 1 ≤ n := by omega
 have hcap2 : m ≤ cap := by omega
 have hcap1 : 1 ≤ cap := by omega
 have hnb := HNM.out
 have hmw : IntKind.i64.wrap (m : Int) = (m : Int) := IntWalk.i64_in _ (by omega)
 clear hv hm h0 hlm hN hr1 hn hi hz0 hz1 hz2 hat HV
 go_enter Tryz.func135, Tryz.ntmps135
 go_wp2_with fail
 refine (CloneF_own _ r1 w HV1.out (by rw [HR1.out]; omega)).mono ?_
 rintro e W1 ⟨v1, rfl, hown, hB⟩
 rw [HR1.out] at hown
 obtain ⟨g, cp, rfl, hg⟩ := own_some hown (by omega)
 have hgl := own_lt hown
 obtain ⟨W2, hW2⟩ : ∃ W2, W1.alloc (.cells #[.int .i64 0, .int .i64 1, .int .i64 2] 193) = W2 := ⟨_, rfl⟩
 obtain ⟨bk, hbk⟩ : ∃ bk, W1.heap.size = bk := ⟨_, rfl⟩
 have HO := Lib.hid (show W2.ownsRow w.heap.size 42 1 (.slice (some ⟨g, 0, none⟩) 1 cp) 1 (f64s r1) by rw [← hW2]; exact hown.alloc _)
 have HB := Lib.hid (show Below w.heap.size w W2 by rw [← hW2]; exact hB.alloc hB.size _)
 have HA := Lib.hid (show At3 W2 bk (.int .i64 ((0 : Nat) : Int)) (.int .i64 ((1 : Nat) : Int)) (.int .i64 2) by rw [← hW2, ← hbk]; exact At3.new _ _ _ _ _)
 have HGB := Lib.hid (show g ≠ bk by omega)
 have HBK := Lib.hid (show w.heap.size ≤ bk by rw [← hbk]; exact hB.size)
 clear hown hB hg hgl
 go_wp2_with fail
 try rw [hbk]
 clear hW2 hbk
 go_loopw [5, 20] (fun vz i wr => ∃ (k : Nat) (z : List Nat) (a b : Nat), k ≤ m ∧ i = .int .i64 k ∧ z.length = k + 1 ∧ Beg f r z ∧ Ahead f (r.take k) 0 a ∧ Ahead f (r.take k) 1 b ∧ At3 wr bk (.int .i64 (a : Int)) (.int .i64 (b : Int)) (.int .i64 2) ∧ vz.ownBlock ≠ some bk ∧ wr.ownsRow w.heap.size 42 1 vz (k + 1) (f64s z) ∧ Below w.heap.size w wr) (fun _ i _ => m - (intOf i).toNat)
 case atStart => exact ⟨0, r1, 0, 1, by omega, rfl, HR1.out, by rw [← HRT.out]; exact HBO.out, ahead_nil f 0 (by omega), ahead_nil f 1 (by omega), HA.out, by simp only [Value.ownBlock, ne_eq, Option.some.injEq]; exact HGB.out, HO.out, HB.out⟩
 case round =>
  obtain ⟨k, z, a, b, hk, rfl, hzl, hbeg, haa, hab, hA, hne, hown, hB⟩ := hrel
  have HO := Lib.hid hown; have HB := Lib.hid hB; have HA := Lib.hid hA; have HZL := Lib.hid hzl; have HBG := Lib.hid hbeg; have HAA := Lib.hid haa; have HAB := Lib.hid hab; have HNB := Lib.hid hne
  have HOZ := Lib.hid (show wr.ownsRow w.heap.size 42 1 u5 z.length (f64s z) by rw [HZL.out]; exact hown)
  clear hown hB hA hzl hbeg haa hab hne
  by_cases hlt : k < m
  ·have hk1n : k + 1 < n := by have := HNE.out; omega
   have hkn : k < n := by omega
   have hcx := keep_below HB.out _ _ (HAT.out k hkn)
   have hcy := keep_below HB.out _ _ (HAT.out (k + 1) hk1n)
   obtain ⟨x, hxg⟩ : ∃ x, r.getD k 0 = x := ⟨_, rfl⟩
   obtain ⟨y, hyg⟩ : ∃ y, r.getD (k + 1) 0 = y := ⟨_, rfl⟩
   have HX := Lib.hid (show Num x by rw [← hxg]; exact getD_num HN.out k)
   have HY := Lib.hid (show Num y by rw [← hyg]; exact getD_num HN.out (k + 1))
   rw [hxg] at hcx
   rw [hyg] at hcy
   obtain ⟨q, hq⟩ : ∃ q, octW f x y = q := ⟨_, rfl⟩
   have hq2 : q ≤ 2 := by rw [← hq]; exact octW_le f x y
   obtain ⟨s, hs⟩ : ∃ s, pick3 a b q = s := ⟨_, rfl⟩
   have HQ := Lib.hid hq
   have HS := Lib.hid (show s ≤ 2 by rw [← hs, ← hq]; exact (ahead_pick HAA.out HAB.out HX.out HY.out).1)
   have HUP := Lib.hid (show s < 2 → rowN f (r.take (k + 1 + 1)) = (floatOfInt .f64 (s : Int), 0) by
    rw [← hs, ← hq, ← hxg, ← hyg]; exact fun h => truth_up HN.out (by rw [HR.out]; omega) HAA.out HAB.out h)
   have hcq := HA.out.pick hq2
   rw [hs] at hcq
   have HTK := Lib.hid (show r.take (k + 1) = r.take k ++ [x] by rw [take_getD (by rw [HR.out]; omega), hxg])
   have HLT := Lib.hid hlt; clear hxg hyg hq hs
   go_wp2_with fail
   refine (scout_calls f x y _ HX.out HY.out).mono ?_
   rintro e W3 ⟨rfl, d3, hd3⟩
   rw [HQ.out]
   have HB3 := Lib.hid (show Below w.heap.size w W3 by rw [hd3]; exact Below.drewN' HB.out d3)
   have HO3 := Lib.hid (show W3.ownsRow w.heap.size 42 1 u5 (k + 1) (f64s z) by rw [hd3]; exact HO.out.drewN' d3)
   have HA3 := Lib.hid (show At3 W3 bk (.int .i64 (a : Int)) (.int .i64 (b : Int)) (.int .i64 2) by rw [hd3]; exact HA.out)
   have hcq : W3.cell? ⟨bk, q, none⟩ = some (.int .i64 (s : Int)) := by rw [hd3]; exact hcq
   clear hd3
   by_cases hs2 : s = 2
   ·subst hs2
    go_wp2
    go_ret
    exact ⟨_, z, rfl, HBG.out, by rw [HZL.out]; exact HO3.out, HB3.out⟩
   ·have hsn : ((s : Int) == 2) = false := by rw [beq_eq_false_iff_ne]; omega
    have HRW := Lib.hid (HUP.out (by have := HS.out; omega))
    have HSW := Lib.hid HB3.out.size
    have HQM := Lib.hid (show k + 1 + 1 ≤ 1048576 by have := HNM.out; omega)
    have HM1 : Hid (k + 1 + 1 ≤ maxLen) := Lib.hid (by have := HQM.out; unfold maxLen; omega)
    have HBKL := Lib.hid (show bk < W3.heap.size from HA3.out.1)
    clear hs2
    go_wp2_with (at_builtin; refine wpList_append_blk _ rfl _ _ 22 rfl w.heap.size 42 i0 (.float .f64 0) 1 8 Tryz.underlying22 HI0.out.1 HI0.out.2.1 HI0.out.2.2.1 HI0.out.2.2.2 rfl (by decide) _ _ _ rfl (HO3.out.alloc _) ⟨W3.heap.size, 0, none⟩ 1 1 [.float .f64 (floatOfInt .f64 (s : Int))] rfl rfl ?c1 ?c2 HM1.out ?c4 ?c5 ?_)
    case c1 =>
     intro j u hj
     match j, hj with
     | 0, hj => simp at hj; subst hj; simp [Addr.add]
    case c2 => intro u hu; simp at hu; subst hu; rfl
    case c4 => have := HQM.out; omega
    case c5 => have := HSW.out; simp <;> omega
    intro v' w4 hown' hgrow hblk
    have HO4 := Lib.hid hown'
    have HB4 := Lib.hid (grown_below (HB3.out.alloc HSW.out _) (HO3.out.alloc _) (Nat.le_refl _) (by have := HSW.out; simp <;> omega) hgrow)
    have HA4 := Lib.hid (show At3 w4 bk (.int .i64 (a : Int)) (.int .i64 (b : Int)) (.int .i64 2) from (HA3.out.below (below_new _ _)).grown hgrow (fun h => HNB.out h.symm))
    have HNB4 := Lib.hid (show v'.ownBlock ≠ some bk from fun h => by
     rcases hblk bk h with h9 | h9
     ·exact HNB.out h9
     ·have := HBKL.out; first | omega | (simp at h9; omega))
    have HBG4 := Lib.hid (show Beg f r (z ++ [floatOfInt .f64 (s : Int)]) from beg_snoc HBG.out (by rw [HR.out, HZL.out]; omega) (by rw [HZL.out]; exact HRW.out))
    obtain ⟨t0, ht0⟩ : ∃ t0, octW f x 0 = t0 := ⟨_, rfl⟩
    obtain ⟨t1, ht1⟩ : ∃ t1, octW f x 4607182418800017408 = t1 := ⟨_, rfl⟩
    have HT0 := Lib.hid ht0; have HT1 := Lib.hid ht1
    have h02 : t0 ≤ 2 := by rw [← ht0]; exact octW_le f x _
    have h12 : t1 ≤ 2 := by rw [← ht1]; exact octW_le f x _
    have h03 : (t0 : Int) < 3 := by omega
    have h13 : (t1 : Int) < 3 := by omega
    obtain ⟨s0, hs0⟩ : ∃ s0, pick3 a b t0 = s0 := ⟨_, rfl⟩
    obtain ⟨s1, hs1⟩ : ∃ s1, pick3 a b t1 = s1 := ⟨_, rfl⟩
    have HC := Lib.hid (show w4.cell? ⟨bk, t0, none⟩ = some (.int .i64 (s0 : Int)) ∧ w4.cell? ⟨bk, t1, none⟩ = some (.int .i64 (s1 : Int)) from ⟨by rw [← hs0]; exact HA4.out.pick h02, by rw [← hs1]; exact HA4.out.pick h12⟩)
    have HH0 := Lib.hid (show Ahead f (r.take (k + 1)) 0 s0 by
     have h9 := ahead_step (t := 0) HAA.out HAB.out HX.out (by omega)
     rw [show floatOfInt .f64 ((0 : Nat) : Int) = 0 by decide +kernel, ht0, hs0] at h9
     rw [HTK.out]; exact h9)
    have HH1 := Lib.hid (show Ahead f (r.take (k + 1)) 1 s1 by
     have h9 := ahead_step (t := 1) HAA.out HAB.out HX.out (by omega)
     rw [show floatOfInt .f64 ((1 : Nat) : Int) = 4607182418800017408 by decide +kernel, ht1, hs1] at h9
     rw [HTK.out]; exact h9)
    clear hown' hgrow hblk ht0 ht1 hs0 hs1
    have hst := run_store_int
    go_wp2_with fail
    obtain ⟨W5, hWD, hB⟩ := drwn w4
    replace HC := Lib.hid (And.intro (keep_below hB _ _ HC.out.1) (keep_below hB _ _ HC.out.2))
    replace HO4 := Lib.hid (owns_below HO4.out hB)
    replace HB4 := cb hB HB4; replace HA4 := HA4.go hB; clear hB
    refine rgn (S := fun w' => w.heap.size ≤ w'.heap.size) hWD HB4.out.size (fun hHeld => ?_)
    clear hWD; apply tk 0; apply tk 1; apply tk 5; apply tk 6
    apply rdy 2; intro K hK; clear hHeld; go_simp
    refine (scout_calls f x 0 _ HX.out num_zero).mono ?_
    rintro e W6 ⟨rfl, d9, hd9⟩
    rw [HT0.out]
    have hB : Below W5.heap.size W5 W6 := by rw [hd9]; exact Below.drewN' (Below.refl _ _) d9
    replace HC := Lib.hid (And.intro (keep_below hB _ _ HC.out.1) (keep_below hB _ _ HC.out.2))
    replace HO4 := Lib.hid (owns_below HO4.out hB)
    replace HB4 := cb hB HB4; replace HA4 := HA4.go hB; clear hB hd9
    refine hK.out _ _ HB4.out.size (fun hHeld => ?_)
    clear hK K; apply tk 3
    refine wpAnyH_ready (rs := [4, 7]) (by kernel_rfl) (by simp) ?_
    refine AllReadyH.cons (o := _) rfl (fun K hK => ?_) ?_
    ·clear hHeld; have cq := HC.out.1; go_simp; clear cq
     refine hK.out _ _ HB4.out.size (fun hHeld => ?_)
     clear hK K
     apply rdy 7; intro K hK; clear hHeld; go_simp
     refine (scout_calls f x 4607182418800017408 _ HX.out num_one).mono ?_
     rintro e W7 ⟨rfl, d9, hd9⟩
     rw [HT1.out]
     have hB : Below W6.heap.size W6 W7 := by rw [hd9]; exact Below.drewN' (Below.refl _ _) d9
     replace HC := Lib.hid (And.intro (keep_below hB _ _ HC.out.1) (keep_below hB _ _ HC.out.2))
     replace HO4 := Lib.hid (owns_below HO4.out hB)
     replace HB4 := cb hB HB4; replace HA4 := HA4.go hB; clear hB hd9
     refine hK.out _ _ HB4.out.size (fun hHeld => ?_)
     clear hK K; apply tk 8
     apply rdy 9; intro K hK; clear hHeld; have cq := HC.out.2; go_simp; clear cq
     refine hK.out _ _ HB4.out.size (fun hHeld => ?_)
     clear hK K; apply tk 10
     apply rdy 11; intro K hK; clear hHeld
     obtain ⟨_, y0, y1, y2, zf⟩ := HA4.out
     have z0 := zf 0
     have z1 := zf 1
     have z2 := zf 2
     go_simp
     obtain ⟨Wf, hWf⟩ : ∃ x, ((W7.setCell ⟨bk, 0, none⟩ (.int .i64 (s0 : Int))).setCell ⟨bk, 1, none⟩ (.int .i64 (s1 : Int))).setCell ⟨bk, 2, none⟩ (.int .i64 2) = x := ⟨_, rfl⟩
     rw [hWf]
     have HA5 := Lib.hid (show At3 Wf bk (.int .i64 (s0 : Int)) (.int .i64 (s1 : Int)) (.int .i64 2) by rw [← hWf]; exact ((HA4.out.set0 _).set1 _).set2 _)
     have HO5 := Lib.hid (show Wf.ownsRow w.heap.size 42 1 v' (k + 1 + 1) (f64s (z ++ [floatOfInt .f64 (s : Int)])) by
      have h9 := World.ownsRow.kept HO4.out (grown_trans (grown_trans (grown_setCell W7 ⟨bk, 0, none⟩ (.int .i64 (s0 : Int))) (grown_setCell _ ⟨bk, 1, none⟩ (.int .i64 (s1 : Int)))) (grown_setCell _ ⟨bk, 2, none⟩ (.int .i64 2))) (.inr HNB4.out)
      rw [hWf] at h9
      simpa [f64s] using h9)
     have HB5 := Lib.hid (show Below w.heap.size w Wf by rw [← hWf]; exact ((HB4.out.setCell HBK.out _).setCell HBK.out _).setCell HBK.out _)
     clear y0 y1 y2 zf z0 z1 z2 hWf
     refine hK.out _ _ HB5.out.size (fun hHeld => ?_)
     clear hK K
     refine wpAnyH_done (by kernel_rfl) ?_ _
     clear hHeld
     go_wp2
     go_roundw
     case rel =>
      refine ⟨k + 1, z ++ [floatOfInt .f64 (s : Int)], s0, s1, by omega, by go_num, by rw [List.length_append, HZL.out]; rfl, HBG4.out, HH0.out, HH1.out, HA5.out, HNB4.out, HO5.out, HB5.out⟩
     case measure => simp [intOf]; omega
    refine AllReadyH.cons (o := _) rfl (fun K hK => ?_) ?_
    ·clear hHeld; go_simp
     refine (scout_calls f x 4607182418800017408 _ HX.out num_one).mono ?_
     rintro e W7 ⟨rfl, d9, hd9⟩
     rw [HT1.out]
     have hB : Below W6.heap.size W6 W7 := by rw [hd9]; exact Below.drewN' (Below.refl _ _) d9
     replace HC := Lib.hid (And.intro (keep_below hB _ _ HC.out.1) (keep_below hB _ _ HC.out.2))
     replace HO4 := Lib.hid (owns_below HO4.out hB)
     replace HB4 := cb hB HB4; replace HA4 := HA4.go hB; clear hB hd9
     refine hK.out _ _ HB4.out.size (fun hHeld => ?_)
     clear hK K; apply tk 8
     refine wpAnyH_ready (rs := [4, 9]) (by kernel_rfl) (by simp) ?_
     refine AllReadyH.cons (o := _) rfl (fun K hK => ?_) ?_
     ·clear hHeld; have cq := HC.out.1; go_simp; clear cq
      refine hK.out _ _ HB4.out.size (fun hHeld => ?_)
      clear hK K
      apply rdy 9; intro K hK; clear hHeld; have cq := HC.out.2; go_simp; clear cq
      refine hK.out _ _ HB4.out.size (fun hHeld => ?_)
      clear hK K; apply tk 10
      apply rdy 11; intro K hK; clear hHeld
      obtain ⟨_, y0, y1, y2, zf⟩ := HA4.out
      have z0 := zf 0
      have z1 := zf 1
      have z2 := zf 2
      go_simp
      obtain ⟨Wf, hWf⟩ : ∃ x, ((W7.setCell ⟨bk, 0, none⟩ (.int .i64 (s0 : Int))).setCell ⟨bk, 1, none⟩ (.int .i64 (s1 : Int))).setCell ⟨bk, 2, none⟩ (.int .i64 2) = x := ⟨_, rfl⟩
      rw [hWf]
      have HA5 := Lib.hid (show At3 Wf bk (.int .i64 (s0 : Int)) (.int .i64 (s1 : Int)) (.int .i64 2) by rw [← hWf]; exact ((HA4.out.set0 _).set1 _).set2 _)
      have HO5 := Lib.hid (show Wf.ownsRow w.heap.size 42 1 v' (k + 1 + 1) (f64s (z ++ [floatOfInt .f64 (s : Int)])) by
       have h9 := World.ownsRow.kept HO4.out (grown_trans (grown_trans (grown_setCell W7 ⟨bk, 0, none⟩ (.int .i64 (s0 : Int))) (grown_setCell _ ⟨bk, 1, none⟩ (.int .i64 (s1 : Int)))) (grown_setCell _ ⟨bk, 2, none⟩ (.int .i64 2))) (.inr HNB4.out)
       rw [hWf] at h9
       simpa [f64s] using h9)
      have HB5 := Lib.hid (show Below w.heap.size w Wf by rw [← hWf]; exact ((HB4.out.setCell HBK.out _).setCell HBK.out _).setCell HBK.out _)
      clear y0 y1 y2 zf z0 z1 z2 hWf
      refine hK.out _ _ HB5.out.size (fun hHeld => ?_)
      clear hK K
      refine wpAnyH_done (by kernel_rfl) ?_ _
      clear hHeld
      go_wp2
      go_roundw
      case rel =>
       refine ⟨k + 1, z ++ [floatOfInt .f64 (s : Int)], s0, s1, by omega, by go_num, by rw [List.length_append, HZL.out]; rfl, HBG4.out, HH0.out, HH1.out, HA5.out, HNB4.out, HO5.out, HB5.out⟩
      case measure => simp [intOf]; omega
     refine AllReadyH.cons (o := _) rfl (fun K hK => ?_) ?_
     ·clear hHeld; have cq := HC.out.2; go_simp; clear cq
      refine hK.out _ _ HB4.out.size (fun hHeld => ?_)
      clear hK K
      apply rdy 4; intro K hK; clear hHeld; have cq := HC.out.1; go_simp; clear cq
      refine hK.out _ _ HB4.out.size (fun hHeld => ?_)
      clear hK K; apply tk 10
      apply rdy 11; intro K hK; clear hHeld
      obtain ⟨_, y0, y1, y2, zf⟩ := HA4.out
      have z0 := zf 0
      have z1 := zf 1
      have z2 := zf 2
      go_simp
      obtain ⟨Wf, hWf⟩ : ∃ x, ((W7.setCell ⟨bk, 0, none⟩ (.int .i64 (s0 : Int))).setCell ⟨bk, 1, none⟩ (.int .i64 (s1 : Int))).setCell ⟨bk, 2, none⟩ (.int .i64 2) = x := ⟨_, rfl⟩
      rw [hWf]
      have HA5 := Lib.hid (show At3 Wf bk (.int .i64 (s0 : Int)) (.int .i64 (s1 : Int)) (.int .i64 2) by rw [← hWf]; exact ((HA4.out.set0 _).set1 _).set2 _)
      have HO5 := Lib.hid (show Wf.ownsRow w.heap.size 42 1 v' (k + 1 + 1) (f64s (z ++ [floatOfInt .f64 (s : Int)])) by
       have h9 := World.ownsRow.kept HO4.out (grown_trans (grown_trans (grown_setCell W7 ⟨bk, 0, none⟩ (.int .i64 (s0 : Int))) (grown_setCell _ ⟨bk, 1, none⟩ (.int .i64 (s1 : Int)))) (grown_setCell _ ⟨bk, 2, none⟩ (.int .i64 2))) (.inr HNB4.out)
       rw [hWf] at h9
       simpa [f64s] using h9)
      have HB5 := Lib.hid (show Below w.heap.size w Wf by rw [← hWf]; exact ((HB4.out.setCell HBK.out _).setCell HBK.out _).setCell HBK.out _)
      clear y0 y1 y2 zf z0 z1 z2 hWf
      refine hK.out _ _ HB5.out.size (fun hHeld => ?_)
      clear hK K
      refine wpAnyH_done (by kernel_rfl) ?_ _
      clear hHeld
      go_wp2
      go_roundw
      case rel =>
       refine ⟨k + 1, z ++ [floatOfInt .f64 (s : Int)], s0, s1, by omega, by go_num, by rw [List.length_append, HZL.out]; rfl, HBG4.out, HH0.out, HH1.out, HA5.out, HNB4.out, HO5.out, HB5.out⟩
      case measure => simp [intOf]; omega
     exact AllReadyH.nil
    exact AllReadyH.nil
  ·go_wp2
   go_ret
   exact ⟨_, z, rfl, HBG.out, HOZ.out, HB.out⟩
end Go.Proofs.YtbacchbcanlciaaGreatDoor

namespace Go.Proofs.YtbacchbcanlciaaGreatDoor
set_option maxRecDepth 100000
open Go.RowKit Fl
set_option linter.unusedVariables false

theorem own_base {w : World} {base base' : Nat} {e : TypeId} {v : Value} {n : Nat} {xs : List Value} (h : w.ownsRow base e 1 v n xs) (hb : base' ≤ base) : w.ownsRow base' e 1 v n xs := by
 obtain ⟨h1, h2 | ⟨g, cap, cur, e, hg, h3⟩⟩ := h
 ·exact ⟨h1, .inl h2⟩
 ·exact ⟨h1, .inr ⟨g, cap, cur, e, Nat.le_trans hb hg, h3⟩⟩
theorem owned_len {w : World} {base : Nat} {e : TypeId} {v : Value} {n : Nat} {xs : List Value} (h : w.ownsRow base e 1 v n xs) : ∃ (a : Option Addr) (c : Nat), v = .slice a n c := by
 obtain ⟨h1, ⟨h2, h3⟩ | ⟨g, cap, cur, e, hg, h3⟩⟩ := h
 ·exact ⟨none, 0, by rw [h2, h3]⟩
 ·exact ⟨_, _, e⟩
set_option maxHeartbeats 4000000 in
theorem sconce_calls {ok : Nat → Prop} (f : Int) (v : Value) (r : List Nat) (w : World) (hv : Slc w ok v r.length (f64s r)) (h0 : 0 < r.length) (hlm : r.length ≤ 1048576) (hN : ∀ x ∈ r, Num x) :
  Calls Tryz.prog 102 #[.int .i64 f, v] w fun e w' => ∃ v' z, e = .returned v' ∧ Beg f r z ∧ w'.ownsRow w.heap.size 42 1 v' z.length (f64s z) ∧ Below w.heap.size w w' := by
 have HV := Lib.hid hv; have HN := Lib.hid hN
 have HF := Lib.hid (show ∀ x ∈ r, Fnt x from fun x hx => (hN x hx).1)
 have H0 := Lib.hid h0; have HL := Lib.hid hlm; clear hv hN h0 hlm
 by_cases h2 : f = 2
 ·subst h2
  go_enter Tryz.func102, Tryz.ntmps102
  go_wp2_with fail
  refine (scalt_calls v r w HV.out H0.out HL.out HN.out).mono ?_
  rintro e W1 ⟨v1, a, rfl, ha, hv1, hB⟩
  have HA := Lib.hid ha
  have HV1 := Lib.hid (show Slc W1 (fun b => w.heap.size ≤ b) v1 a.length (f64s a) by rw [ha.1]; exact hv1)
  have HB := Lib.hid hB
  have HAF := Lib.hid (show ∀ x ∈ a, Fnt x from fun x hx => by
   obtain ⟨i, hi, e⟩ := List.getElem_of_mem hx
   have h9 := (ha.2 i (by rw [← ha.1]; exact hi)).1
   rwa [List.getD_eq_getElem?_getD, List.getElem?_eq_getElem hi, Option.getD_some, e] at h9)
  have HAL := Lib.hid (show a.length ≤ 1048576 by rw [ha.1]; exact HL.out)
  clear ha hv1 hB
  go_wp2_with fail
  refine (scsums_calls v1 a _ HV1.out HAL.out HAF.out).mono ?_
  rintro e W2 ⟨v2, z, rfl, hz, hown, hB⟩
  have HZ := Lib.hid hz
  have HO := Lib.hid (own_base hown HB.out.size)
  have HB2 := Lib.hid (HB.out.trans (hB.mono HB.out.size))
  clear hz hown hB
  go_wp2
  go_ret
  exact ⟨_, z, rfl, sums_sub HN.out HA.out HZ.out, HO.out, HB2.out⟩
 by_cases h1 : f = 1
 ·subst h1
  go_enter Tryz.func102, Tryz.ntmps102
  go_wp2_with fail
  refine (scsums_calls v r _ HV.out HL.out HF.out).mono ?_
  rintro e W2 ⟨v2, z, rfl, hz, hown, hB⟩
  have HZ := Lib.hid hz; have HO := Lib.hid hown; have HB2 := Lib.hid hB; clear hz hown hB h2
  go_wp2
  go_ret
  exact ⟨_, z, rfl, sums_add HN.out HZ.out, HO.out, HB2.out⟩
 by_cases h3 : f = 3
 ·subst h3
  go_enter Tryz.func102, Tryz.ntmps102
  go_wp2_with fail
  refine (scprod_calls v r _ HV.out HL.out HF.out).mono ?_
  rintro e W2 ⟨v2, z, rfl, hz, hown, hB⟩
  have HZ := Lib.hid hz; have HO := Lib.hid hown; have HB2 := Lib.hid hB; clear hz hown hB h2 h1
  go_wp2
  go_ret
  exact ⟨_, z, rfl, muls_up HN.out HZ.out, HO.out, HB2.out⟩
 have b1 : (f == 1) = false := by simpa using h1
 have b2 : (f == 2) = false := by simpa using h2
 have b3 : (f == 3) = false := by simpa using h3
 by_cases h5 : f = 5 ∨ f = 6
 ·have HF5 := Lib.hid h5
  have hb : (f == 5) = true ∨ ((f == 5) = false ∧ (f == 6) = true) := by
   rcases h5 with h | h <;> subst h
   ·exact .inl rfl
   ·exact .inr ⟨rfl, rfl⟩
  clear h1 h2 h3 h5
  rcases hb with b5 | ⟨b5, b6⟩
  all_goals
   go_enter Tryz.func102, Tryz.ntmps102
   go_wp2_with fail
   refine (scext_calls f v r _ HF5.out HV.out H0.out HL.out HN.out).mono ?_
   rintro e W2 ⟨v2, z, rfl, hz, hown, hB⟩
   have HZ := Lib.hid hz; have HO := Lib.hid hown; have HB2 := Lib.hid hB; clear hz hown hB
   go_wp2
   go_ret
   exact ⟨_, z, rfl, exts_up HF5.out HZ.out, HO.out, HB2.out⟩
 ·have b5 : (f == 5) = false := by rw [beq_eq_false_iff_ne]; omega
  have b6 : (f == 6) = false := by rw [beq_eq_false_iff_ne]; omega
  clear h1 h2 h3 h5
  go_enter Tryz.func102, Tryz.ntmps102
  go_wp2_with fail
  refine (sctru_calls f v r _ HV.out H0.out HL.out HN.out).mono ?_
  rintro e W2 ⟨v2, z, rfl, hz, hown, hB⟩
  have HZ := Lib.hid hz; have HO := Lib.hid hown; have HB2 := Lib.hid hB; clear hz hown hB
  go_wp2
  go_ret
  exact ⟨_, z, rfl, HZ.out, HO.out, HB2.out⟩

set_option maxHeartbeats 4000000 in
theorem scalong_calls {ok : Nat → Prop} (f : Int) (v : Value) (r : List Nat) (w : World) (hv : Slc w ok v r.length (f64s r)) (h0 : 0 < r.length) (hlm : r.length ≤ 1048576) (hN : ∀ x ∈ r, Num x) :
  Calls Tryz.prog 69 #[.int .i64 f, v] w fun e w' => ∃ v', e = .returned (.tuple #[v', .int .i64 (errG (rowN f) (upsR r))]) ∧ (errG (rowN f) (upsR r) = 0 → Slc w' (fun b => w.heap.size ≤ b) v' r.length (f64s (outG (rowN f) (upsR r)))) ∧ Below w.heap.size w w' := by
 obtain ⟨P, hP⟩ : ∃ P, upsR r = P := ⟨_, rfl⟩
 obtain ⟨E, hE⟩ : ∃ E, errG (rowN f) P = E := ⟨_, rfl⟩
 obtain ⟨n, hn⟩ : ∃ n, r.length = n := ⟨_, rfl⟩
 have HPE := Lib.hid hP
 have HPL := Lib.hid (show P.length = n by rw [← hP, upsR_len, hn])
 have HEE := Lib.hid hE; have HR := Lib.hid hn; have HV := Lib.hid hv; have HN := Lib.hid hN; have H0 := Lib.hid h0; have HL := Lib.hid hlm
 have HNM := Lib.hid (show n ≤ 1048576 by omega)
 have HPG := Lib.hid (show ∀ k, k < n → P[k]? = some (r.take (k + 1)) from fun k hk => by rw [← hP]; exact upsR_get (by omega))
 obtain ⟨i0, hi, hz0, hz1, hz2⟩ := info_parts info_f64
 have HI0 := Lib.hid (And.intro hi (And.intro hz0 (And.intro hz1 hz2)))
 obtain ⟨ao, cap, rfl, _⟩ := hv.opened
 obtain ⟨ao9, cap9, e9, hcap, hcm⟩ := hv.2
 cases e9
 rw [hn] at hcap
 rw [hP, hE, hn]
 clear hv hN h0 hlm hP hE hi hz0 hz1 hz2
 rw [hn] at HV
 go_enter Tryz.func69, Tryz.ntmps69
 go_wp2_with fail
 refine (sconce_calls f _ r _ (by rw [hn]; exact HV.out) H0.out HL.out HN.out).mono ?_
 rintro e W1 ⟨v1, z, rfl, hbeg, hown, hB⟩
 clear hn
 obtain ⟨q0, hq0⟩ : ∃ q0, z.length = q0 := ⟨_, rfl⟩
 have HB := Lib.hid hB
 have HO := Lib.hid (show W1.ownsRow w.heap.size 42 1 v1 q0 (f64s (outG (rowN f) (P.take q0))) by
  rw [← hq0, ← HPE.out, ← hbeg.out.1]; exact hown)
 have HQL := Lib.hid (show q0 ≤ n by rw [← hq0, ← HR.out]; exact hbeg.1)
 have HEQ := Lib.hid (show errG (rowN f) P = errG (rowN f) (P.drop q0) by rw [← hq0, ← HPE.out]; exact errG_split hbeg.out.2)
 have hql := HQL.out; have hnm := HNM.out
 have HLEN := Lib.hid (owned_len HO.out)
 clear hbeg hown hB hq0
 obtain ⟨a1, c1, rfl⟩ := HLEN.out
 go_wp2_with fail
 go_loopw [6, 7] (fun vz i wr => ∃ q : Nat, q ≤ n ∧ i = .int .i64 ((q : Int) + 1) ∧ errG (rowN f) P = errG (rowN f) (P.drop q) ∧ wr.ownsRow w.heap.size 42 1 vz q (f64s (outG (rowN f) (P.take q))) ∧ Below w.heap.size w wr) (fun _ i _ => n + 1 - (intOf i).toNat)
 case atStart => exact ⟨q0, HQL.out, rfl, HEQ.out, HO.out, HB.out⟩
 case round =>
  obtain ⟨q, hq, rfl, herr, hown, hB⟩ := hrel
  have HO := Lib.hid hown; have HB := Lib.hid hB; have HQE := Lib.hid herr; have hnm := HNM.out; clear hown hB herr
  by_cases hlt : q < n
  ·obtain ⟨rt, hrt⟩ : ∃ rt, r.take (q + 1) = rt := ⟨_, rfl⟩
   have HRT := Lib.hid (show rt.length = q + 1 by rw [← hrt, List.length_take]; have := HR.out; omega)
   have HVT := Lib.hid (show Slc wr ok (.slice ao (q + 1) cap) rt.length (f64s rt) by
    have h9 := Slc.takem (Value.float .f64) (s := r) (ao := ao) (cap := cap) (by rw [HR.out]; exact HV.out.below HB.out) (q + 1) (by have := HR.out; omega)
    rw [hrt] at h9; exact h9)
   have HTM := Lib.hid (show ∀ x ∈ rt, Num x by rw [← hrt]; exact fun x hx => HN.out x (List.mem_of_mem_take hx))
   have HPQ := Lib.hid (show P[q]? = some rt by rw [← hrt]; exact HPG.out q hlt)
   obtain ⟨y, hy⟩ : ∃ y, rowN f rt = y := ⟨_, rfl⟩
   have HY := Lib.hid hy
   have HES := Lib.hid (show errG (rowN f) (P.drop q) = if y.2 = 0 then errG (rowN f) (P.drop (q + 1)) else y.2 by rw [← hy]; exact errG_step HPQ.out)
   have HTK := Lib.hid (show outG (rowN f) (P.take (q + 1)) = outG (rowN f) (P.take q) ++ [y.1] by rw [← hy]; exact outG_take HPQ.out)
   have hqc : q + 1 ≤ cap := by omega
   have HLT := Lib.hid hlt; clear hrt hy
   go_wp2_with fail
   refine (sctog_calls f _ rt _ HVT.out (by rw [HRT.out]; omega) (by rw [HRT.out]; omega) HTM.out).mono ?_
   rintro e W9 ⟨rfl, mm, hm⟩
   rw [HY.out]
   have HO9 := Lib.hid (show W9.ownsRow w.heap.size 42 1 u6 q (f64s (outG (rowN f) (P.take q))) by rw [hm]; exact HO.out.drewN' mm)
   have HB9 := Lib.hid (show Below w.heap.size w W9 by rw [hm]; exact Below.drewN' HB.out mm)
   have HSW := Lib.hid HB9.out.size; clear hm
   by_cases h0 : y.2 = 0
   ·have HE2 := Lib.hid (show errG (rowN f) P = errG (rowN f) (P.drop (q + 1)) by rw [HQE.out, HES.out, if_pos h0])
    have HQM := Lib.hid (show q + 1 ≤ 1048576 by omega)
    have HM1 : Hid (q + 1 ≤ maxLen) := Lib.hid (by unfold maxLen; omega)
    rw [h0]; clear h0
    go_wp2_with (at_builtin; refine wpList_append_own _ rfl _ _ 22 rfl w.heap.size 42 i0 (.float .f64 0) 1 8 Tryz.underlying22 HI0.out.1 HI0.out.2.1 HI0.out.2.2.1 HI0.out.2.2.2 rfl (by decide) _ _ _ rfl (HO9.out.alloc _) ⟨W9.heap.size, 0, none⟩ 1 1 [.float .f64 y.1] rfl rfl ?c1 ?c2 HM1.out ?c4 ?c5 ?_)
    case c1 =>
     intro j u hj
     match j, hj with
     | 0, hj => simp at hj; subst hj; simp [Addr.add]
    case c2 => intro u hu; simp at hu; subst hu; rfl
    case c4 => have := HQM.out; omega
    case c5 => have := HSW.out; simp <;> omega
    intro v' w3 hown' hgrow _
    have HO3 := Lib.hid hown'
    have HB3 := Lib.hid (grown_below (HB9.out.alloc HSW.out _) (HO9.out.alloc _) (Nat.le_refl _) (by have := HSW.out; simp <;> omega) hgrow)
    clear hown' hgrow
    go_wp2
    go_roundw
    case rel =>
     refine ⟨q + 1, by omega, by go_num, HE2.out, ?_, HB3.out⟩
     have := HO3.out
     rw [HTK.out]
     simpa [f64s] using this
    case measure => simp [intOf]; omega
   ·obtain ⟨er, her⟩ : ∃ er, y.2 = er := ⟨_, rfl⟩
    have HE2 := Lib.hid (show errG (rowN f) P = er by rw [HQE.out, HES.out, if_neg h0, her])
    have hne : (er != 0) = true := by rw [← her]; simp [h0]
    have HNE := Lib.hid (show er ≠ 0 by rw [← her]; exact h0)
    rw [her]; clear h0 her
    go_wp2
    go_ret2
    refine ⟨.slice none 0 0, ?_, fun h9 => absurd (by rw [← HE2.out, HEE.out]; exact h9) HNE.out, HB9.out⟩
    (rw [← HEE.out, HE2.out]) <;> rfl
  ·have hqn : q = n := by omega
   have HE0 := Lib.hid (show E = 0 by rw [← HEE.out, HQE.out, hqn, ← HPL.out, List.drop_length]; rfl)
   have HSL := Lib.hid (show Slc wr (fun b => w.heap.size ≤ b) u6 n (f64s (outG (rowN f) P)) by
    have := Slc.owned HO.out
    rw [hqn, ← HPL.out, List.take_length, HPL.out] at this
    exact this)
   clear hqn
   go_wp2
   go_ret2
   refine ⟨u6, ?_, fun _ => HSL.out, HB.out⟩
   (rw [HE0.out]) <;> rfl
end Go.Proofs.YtbacchbcanlciaaGreatDoor

namespace Go.Proofs.YtbacchbcanlciaaGreatDoor
set_option maxRecDepth 100000
open Go.RowKit Fl
set_option linter.unusedVariables false

set_option maxHeartbeats 4000000 in
theorem scpiece_calls (v : Value) (l : List Bool) (i len x y : Nat) (w : World) (hv : IsBits w v l) (hl : l.length ≤ 1048576) (hp : 0 < len) (hx : i * len = x) (hy : (i + 1) * len = y) (hyl : y ≤ l.length) :
  Calls Tryz.prog 95 #[v, .int .i64 (i : Int), .int .i64 (len : Int)] w fun e w' => ∃ v', e = .returned v' ∧ IsBits w' v' ((l.take y).drop x) ∧ Below w.heap.size w w' := by
 have HV := Lib.hid hv; have HL := Lib.hid hl
 have hxy : x + len = y := by rw [← hx, ← hy, Nat.add_mul]; omega
 have hil : i ≤ x := by rw [← hx]; exact Nat.le_mul_of_pos_right _ hp
 have hiw : i ≤ 1048576 := by omega
 have q1 : IntKind.i64.wrap ((i : Int) * (len : Int)) = (x : Int) := by rw [← Int.natCast_mul, hx]; exact IntWalk.i64_in _ (by omega)
 have q2 : IntKind.i64.wrap (((i : Int) + 1) * (len : Int)) = (y : Int) := by
  rw [show ((i : Int) + 1) * (len : Int) = ((y : Nat) : Int) by rw [← hy]; simp]; exact IntWalk.i64_in _ (by omega)
 obtain ⟨ao, cap, rfl, hcx⟩ := hv.opened
 obtain ⟨L, hL⟩ : ∃ L, (l.length + 63) / 64 = L := ⟨_, rfl⟩
 rw [hL] at HV ⊢
 obtain ⟨W1, hW1⟩ : ∃ W1, W1 = (w.alloc (.cells #[.int .i64 l.length, .slice ao L cap] 63)).alloc (.cells #[.int .i64 0, .slice none 0 0] 63) := ⟨_, rfl⟩
 have HA := Lib.hid (show At2 W1 w.heap.size (.int .i64 l.length) (.slice ao L cap) by rw [hW1]; exact (At2.new _ _ _ _).alloc _)
 have HR := Lib.hid (show At2 W1 (w.heap.size + 1) (.int .i64 0) (.slice none 0 0) by
  rw [hW1]; have := At2.new (w.alloc (.cells #[.int .i64 l.length, .slice ao L cap] 63)) (.int .i64 0) (.slice none 0 0) 63; simpa using this)
 have HB := Lib.hid (show Below w.heap.size w W1 by rw [hW1]; exact ((Below.refl _ _).alloc (Nat.le_refl _) _).alloc (by simp) _)
 replace HV := Lib.hid (HV.out.keep (keep_below HB.out))
 have HX := Lib.hid (show min (max (x : Int) 0) l.length = (x : Int) by omega)
 have HY := Lib.hid (show min (max (y : Int) 0) l.length = (y : Int) by omega)
 have HXY := Lib.hid (show x < y by omega)
 have hfold := hW1.symm
 clear hcx hL hv hl hW1 hx hy hxy hyl hil hp; have cHA0 := HA.out.2.1; have cHA1 := HA.out.2.2.1; have cHR0 := HR.out.2.1; have cHR1 := HR.out.2.2.1; have zHR0 := HR.out.2.2.2 0; have zHR1 := HR.out.2.2.2 1
 go_enter Tryz.func95, Tryz.ntmps95
 go_wp2_with fail
 clear hfold
 refine (cut_some _ l _ _ _ HV.out HL.out x y HX.out HY.out HXY.out).mono ?_
 rintro e W4 ⟨v4, rfl, hv4, hB⟩
 have HB4 := Lib.hid (HB.out.trans (hB.mono HB.out.size))
 have HR4 := Lib.hid (HR.out.below hB)
 have HV4 := Lib.hid hv4; clear cHA0 cHA1 cHR0 cHR1 zHR0 zHR1 hB hv4; have cHR0 := HR4.out.2.1; have cHR1 := HR4.out.2.2.1; have zHR0 := HR4.out.2.2.2 0; have zHR1 := HR4.out.2.2.2 1
 obtain ⟨n4, hn4⟩ : ∃ n4, ((l.take y).drop x).length = n4 := ⟨_, rfl⟩
 obtain ⟨ao4, cap4, rfl, _⟩ := HV4.out.opened
 rw [hn4] at *
 go_wp2_with fail
 have hq := at2_put HR4.out (.int .i64 n4) (.slice ao4 ((n4 + 63) / 64) cap4)
 have q0 := hq.2.1
 have q1 := hq.2.2.1
 have HB5 := Lib.hid (below_setc HB4.out (show w.heap.size ≤ w.heap.size + 1 by omega) (.int .i64 n4) (.slice ao4 ((n4 + 63) / 64) cap4))
 refine bodyPost_ret (v := .agg #[.int .i64 n4, .slice ao4 ((n4 + 63) / 64) cap4]) (by simp [results, Tryz.results95, go_sem, q0, q1]) rfl ⟨_, rfl, ?_, HB5.out⟩
 exact HV4.out.set2 HR4.out (.int .i64 n4) (.slice ao4 ((n4 + 63) / 64) cap4)

theorem tabs_len {t : Nat} {x y : List Bool} {n : Nat} (h1 : x.length = n) (h2 : y.length = n) : (List.zipWith (tab t) x y).length = n := by rw [List.length_zipWith, h1, h2, Nat.min_self]
theorem IsBits.opened2 {w : World} {v : Value} {l : List Bool} {n : Nat} (h : IsBits w v l) (hn : l.length = n) : ∃ ao cap, v = .agg #[.int .i64 (n : Int), .slice ao ((n + 63) / 64) cap] := by
 obtain ⟨ao, cap, e, _⟩ := h.opened
 subst hn
 exact ⟨ao, cap, e⟩
theorem odd_excl (l : List Bool) : List.zipWith (tab 6) ((List.range l.length).map fun k => pfx (sq l) (k + 1)) l = (List.range l.length).map fun k => pfx (sq l) k := by
 apply List.ext_getElem (by simp)
 intro i h1 h2
 have hi : i < l.length := by simpa using h2
 simp only [List.getElem_zipWith, List.getElem_map, List.getElem_range]
 rw [← sq_in hi]
 show tab 6 (pfx (sq l) i ^^ sq l i) (sq l i) = pfx (sq l) i
 cases pfx (sq l) i <;> cases sq l i <;> decide
set_option maxHeartbeats 8000000 in
theorem scbefore_calls (v : Value) (l : List Bool) (n : Nat) (w : World) (h1 : IsBits w v l) (l1 : l.length = n) (hn : n ≤ 1048576) :
  Calls Tryz.prog 99 #[v] w fun e w' => ∃ v', e = .returned v' ∧ IsBits w' v' ((List.range l.length).map fun k => pfx (sq l) k) ∧ Below w.heap.size w w' := by
 obtain ⟨Kw, hK⟩ : ∃ Kw, (n + 63) / 64 = Kw := ⟨_, rfl⟩
 have HV := Lib.hid h1; have L1 := Lib.hid l1; have HN := Lib.hid hn
 obtain ⟨ao, cap, rfl⟩ := h1.opened2 l1
 rw [hK] at HV ⊢
 have HKK := Lib.hid hK
 obtain ⟨W1, hW1⟩ : ∃ W1, W1 = (w.alloc (.cells #[.int .i64 n, .slice ao Kw cap] 63)).alloc (.cells #[.int .i64 0, .slice none 0 0] 63) := ⟨_, rfl⟩
 have HA := Lib.hid (show At2 W1 w.heap.size (.int .i64 n) (.slice ao Kw cap) by rw [hW1]; exact (At2.new _ _ _ _).alloc _)
 have HR := Lib.hid (show At2 W1 (w.heap.size + 1) (.int .i64 0) (.slice none 0 0) by
  rw [hW1]; have := At2.new (w.alloc (.cells #[.int .i64 n, .slice ao Kw cap] 63)) (.int .i64 0) (.slice none 0 0) 63; simpa using this)
 have HB := Lib.hid (show Below w.heap.size w W1 by rw [hW1]; exact ((Below.refl _ _).alloc (Nat.le_refl _) _).alloc (by simp) _)
 replace HV := Lib.hid (HV.out.keep (keep_below HB.out))
 have hfold := hW1.symm
 obtain ⟨q, hq⟩ : ∃ q, (List.range l.length).map (fun k => pfx (sq l) k) = q := ⟨_, rfl⟩
 have HQE := Lib.hid (show List.zipWith (tab 6) ((List.range l.length).map fun k => pfx (sq l) (k + 1)) l = q by rw [odd_excl, hq])
 have HQL := Lib.hid (show q.length = n by rw [← hq]; simp [l1])
 rw [hq]
 obtain ⟨p, hp⟩ : ∃ p, (List.range l.length).map (fun k => pfx (sq l) (k + 1)) = p := ⟨_, rfl⟩
 rw [hp] at HQE
 have HPE := Lib.hid hp
 have HPL := Lib.hid (show p.length = n by rw [← hp]; simp [l1])
 clear h1 l1 hn hK hW1 hq hp; have cHA0 := HA.out.2.1; have cHA1 := HA.out.2.2.1; have cHR0 := HR.out.2.1; have cHR1 := HR.out.2.2.1; have zHR0 := HR.out.2.2.2 0; have zHR1 := HR.out.2.2.2 1
 go_enter Tryz.func99, Tryz.ntmps99
 go_wp2_with fail
 clear hfold; clear cHA0 cHA1 cHR0 cHR1 zHR0 zHR1
 refine wp_mid (fun s0 s1 w' => ∃ (vpr : Value) (az : Option Addr) (cz rz : Nat), s1 = (((((((((s0.put (some 6) (.agg #[.int .i64 n, .slice ao Kw cap])).put (some 7) vpr).put (some 8) (.agg #[.int .i64 n, .slice ao Kw cap])).put (some 9) (.tuple #[(.agg #[.int .i64 q.length, .slice az ((q.length + 63) / 64) cz]), .bool true])).put (some 5) (.tuple #[(.agg #[.int .i64 q.length, .slice az ((q.length + 63) / 64) cz]), .bool true])).put (some 10) (.agg #[.int .i64 q.length, .slice az ((q.length + 63) / 64) cz])).put (some 11) (.bool true)).put (some 3) (.pointer (some ⟨rz, 0, none⟩))).put (some 4) (.bool true)) ∧ IsBits w' (.agg #[.int .i64 q.length, .slice az ((q.length + 63) / 64) cz]) q ∧ At2 w' rz (.int .i64 q.length) (.slice az ((q.length + 63) / 64) cz) ∧ W1.heap.size ≤ rz ∧ Below W1.heap.size W1 w') ?_ ?_
 ·have HW0 := Lib.hid (Below.refl W1.heap.size W1)
  have HAS := HA
  have HRS := HR
  obtain ⟨W11, hWD, hB⟩ := drwn W1
  replace HV := HV.go hB; replace HA := HA.go hB; replace HR := HR.go hB; replace HW0 := cb hB HW0; clear hB
  refine rgn (S := fun w' => w'.cell? ⟨w.heap.size, 0, none⟩ = some (.int .i64 n) ∧ w'.cell? ⟨w.heap.size, 1, none⟩ = some (.slice ao Kw cap)) hWD ⟨HA.out.2.1, HA.out.2.2.1⟩ (fun hHeld => ?_)
  clear hWD; apply tm 0; apply tm 2
  refine wpAnyH_ready (rs := [1, 7]) (by kernel_rfl) (by simp) ?_
  refine AllReadyH.cons (o := _) rfl (fun K hK => ?_) ?_
  ·clear hHeld; go_simp
   refine (parity_calls _ l _ HV.out (by rw [L1.out]; exact HN.out)).mono ?_
   rintro e W12 ⟨vpr, rfl, hpr, hB⟩
   replace HV := HV.go hB; replace HA := HA.go hB; replace HR := HR.go hB; replace HW0 := cb hB HW0
   rw [HPE.out] at hpr
   have Hpr := Lib.hid hpr; clear hpr; clear hB
   refine hK.out _ _ ⟨HA.out.2.1, HA.out.2.2.1⟩ (fun hHeld => ?_)
   clear hK K
   refine wpAnyH_ready (rs := [3, 7]) (by kernel_rfl) (by simp) ?_
   refine AllReadyH.cons (o := _) rfl (fun K hK => ?_) ?_
   ·clear hHeld; go_simp
    refine (truth_yes 6 (by decide) vpr _ p l _ Hpr.out HV.out (by rw [HPL.out, L1.out]) (by rw [HPL.out]; exact HN.out)).mono ?_
    rintro e W13 ⟨vz, rfl, hz, hB⟩
    replace HV := HV.go hB; replace HA := HA.go hB; replace HR := HR.go hB; replace HW0 := cb hB HW0; replace Hpr := Hpr.go hB
    rw [HQE.out] at hz
    have Hz := Lib.hid hz
    obtain ⟨az, cz, rfl, hcz⟩ := hz.opened
    clear hz hcz; clear hB
    refine hK.out _ _ ⟨HA.out.2.1, HA.out.2.2.1⟩ (fun hHeld => ?_)
    clear hK K; apply tm 4; apply tm 5; apply tm 6
    apply rdy 7; intro K hK; clear hHeld; go_simp
    obtain ⟨W14, hWn, hB, hNB⟩ := ahd2 W13 (.int .i64 0) (.slice none 0 0) 63
    have hbk : W1.heap.size ≤ W13.heap.size := HW0.out.size
    rw [hWn]; clear hWn
    obtain ⟨rz, hnm⟩ : ∃ x, W13.heap.size = x := ⟨_, rfl⟩
    rw [hnm] at hNB hbk ⊢
    replace HV := HV.go hB; replace HA := HA.go hB; replace HR := HR.go hB; replace HW0 := cb hB HW0; replace Hpr := Hpr.go hB; replace Hz := Hz.go hB; have HRV := Lib.hid hNB; have HBK := Lib.hid hbk; clear hNB hB hnm hbk
    refine hK.out _ _ ⟨HA.out.2.1, HA.out.2.2.1⟩ (fun hHeld => ?_)
    clear hK K
    apply rdy 8; intro K hK; clear hHeld; have s0 := HRV.out.2.1; have t0 := HRV.out.2.2.2 0; have s1 := HRV.out.2.2.1; have t1 := HRV.out.2.2.2 1; go_simp; clear s0 t0 s1 t1
    obtain ⟨W15, hWn⟩ : ∃ xw9, (W14.setCell ⟨rz, 0, none⟩ (.int .i64 q.length)).setCell ⟨rz, 1, none⟩ (.slice az ((q.length + 63) / 64) cz) = xw9 := ⟨_, rfl⟩
    rw [hWn]
    replace Hz := Lib.hid (show IsBits W15 (.agg #[.int .i64 q.length, .slice az ((q.length + 63) / 64) cz]) q by rw [← hWn]; exact Hz.out.set2 HRV.out _ _)
    replace HRV := Lib.hid (show At2 W15 rz (.int .i64 q.length) (.slice az ((q.length + 63) / 64) cz) by rw [← hWn]; exact at2_put HRV.out _ _)
    replace HW0 := Lib.hid (show Below W1.heap.size W1 W15 by rw [← hWn]; exact below_setc HW0.out HBK.out _ _)
    replace HA := Lib.hid (show At2 W15 w.heap.size (.int .i64 n) (.slice ao Kw cap) from HAS.out.below HW0.out)
    replace HR := Lib.hid (show At2 W15 (w.heap.size + 1) (.int .i64 0) (.slice none 0 0) from HRS.out.below HW0.out)
    clear hWn
    refine hK.out _ _ ⟨HA.out.2.1, HA.out.2.2.1⟩ (fun hHeld => ?_)
    clear hK K; apply tm 9
    refine wpAnyH_done (by kernel_rfl) ?_ _
    clear hHeld
    refine ⟨rfl, vpr, az, cz, rz, ?_, Hz.out, HRV.out, HBK.out, HW0.out⟩
    try simp only [Act.put, List.setIfInBounds_toArray, List.set_cons_zero, List.set_cons_succ]
    all_goals first | rfl | kernel_rfl
   refine AllReadyH.cons (o := _) rfl (fun K hK => ?_) ?_
   ·clear hHeld; go_simp
    obtain ⟨W13, hWn, hB, hNB⟩ := ahd2 W12 (.int .i64 0) (.slice none 0 0) 63
    have hbk : W1.heap.size ≤ W12.heap.size := HW0.out.size
    rw [hWn]; clear hWn
    obtain ⟨rz, hnm⟩ : ∃ x, W12.heap.size = x := ⟨_, rfl⟩
    rw [hnm] at hNB hbk ⊢
    replace HV := HV.go hB; replace HA := HA.go hB; replace HR := HR.go hB; replace HW0 := cb hB HW0; replace Hpr := Hpr.go hB; have HRV := Lib.hid hNB; have HBK := Lib.hid hbk; clear hNB hB hnm hbk
    refine hK.out _ _ ⟨HA.out.2.1, HA.out.2.2.1⟩ (fun hHeld => ?_)
    clear hK K
    apply rdy 3; intro K hK; clear hHeld; go_simp
    refine (truth_yes 6 (by decide) vpr _ p l _ Hpr.out HV.out (by rw [HPL.out, L1.out]) (by rw [HPL.out]; exact HN.out)).mono ?_
    rintro e W14 ⟨vz, rfl, hz, hB⟩
    replace HV := HV.go hB; replace HA := HA.go hB; replace HR := HR.go hB; replace HW0 := cb hB HW0; replace Hpr := Hpr.go hB; replace HRV := HRV.go hB
    rw [HQE.out] at hz
    have Hz := Lib.hid hz
    obtain ⟨az, cz, rfl, hcz⟩ := hz.opened
    clear hz hcz; clear hB
    refine hK.out _ _ ⟨HA.out.2.1, HA.out.2.2.1⟩ (fun hHeld => ?_)
    clear hK K; apply tm 4; apply tm 5; apply tm 6
    apply rdy 8; intro K hK; clear hHeld; have s0 := HRV.out.2.1; have t0 := HRV.out.2.2.2 0; have s1 := HRV.out.2.2.1; have t1 := HRV.out.2.2.2 1; go_simp; clear s0 t0 s1 t1
    obtain ⟨W15, hWn⟩ : ∃ xw9, (W14.setCell ⟨rz, 0, none⟩ (.int .i64 q.length)).setCell ⟨rz, 1, none⟩ (.slice az ((q.length + 63) / 64) cz) = xw9 := ⟨_, rfl⟩
    rw [hWn]
    replace Hz := Lib.hid (show IsBits W15 (.agg #[.int .i64 q.length, .slice az ((q.length + 63) / 64) cz]) q by rw [← hWn]; exact Hz.out.set2 HRV.out _ _)
    replace HRV := Lib.hid (show At2 W15 rz (.int .i64 q.length) (.slice az ((q.length + 63) / 64) cz) by rw [← hWn]; exact at2_put HRV.out _ _)
    replace HW0 := Lib.hid (show Below W1.heap.size W1 W15 by rw [← hWn]; exact below_setc HW0.out HBK.out _ _)
    replace HA := Lib.hid (show At2 W15 w.heap.size (.int .i64 n) (.slice ao Kw cap) from HAS.out.below HW0.out)
    replace HR := Lib.hid (show At2 W15 (w.heap.size + 1) (.int .i64 0) (.slice none 0 0) from HRS.out.below HW0.out)
    clear hWn
    refine hK.out _ _ ⟨HA.out.2.1, HA.out.2.2.1⟩ (fun hHeld => ?_)
    clear hK K; apply tm 9
    refine wpAnyH_done (by kernel_rfl) ?_ _
    clear hHeld
    refine ⟨rfl, vpr, az, cz, rz, ?_, Hz.out, HRV.out, HBK.out, HW0.out⟩
    try simp only [Act.put, List.setIfInBounds_toArray, List.set_cons_zero, List.set_cons_succ]
    all_goals first | rfl | kernel_rfl
   exact AllReadyH.nil
  refine AllReadyH.cons (o := _) rfl (fun K hK => ?_) ?_
  ·clear hHeld; go_simp
   obtain ⟨W12, hWn, hB, hNB⟩ := ahd2 W11 (.int .i64 0) (.slice none 0 0) 63
   have hbk : W1.heap.size ≤ W11.heap.size := HW0.out.size
   rw [hWn]; clear hWn
   obtain ⟨rz, hnm⟩ : ∃ x, W11.heap.size = x := ⟨_, rfl⟩
   rw [hnm] at hNB hbk ⊢
   replace HV := HV.go hB; replace HA := HA.go hB; replace HR := HR.go hB; replace HW0 := cb hB HW0; have HRV := Lib.hid hNB; have HBK := Lib.hid hbk; clear hNB hB hnm hbk
   refine hK.out _ _ ⟨HA.out.2.1, HA.out.2.2.1⟩ (fun hHeld => ?_)
   clear hK K
   apply rdy 1; intro K hK; clear hHeld; go_simp
   refine (parity_calls _ l _ HV.out (by rw [L1.out]; exact HN.out)).mono ?_
   rintro e W13 ⟨vpr, rfl, hpr, hB⟩
   replace HV := HV.go hB; replace HA := HA.go hB; replace HR := HR.go hB; replace HW0 := cb hB HW0; replace HRV := HRV.go hB
   rw [HPE.out] at hpr
   have Hpr := Lib.hid hpr; clear hpr; clear hB
   refine hK.out _ _ ⟨HA.out.2.1, HA.out.2.2.1⟩ (fun hHeld => ?_)
   clear hK K
   apply rdy 3; intro K hK; clear hHeld; go_simp
   refine (truth_yes 6 (by decide) vpr _ p l _ Hpr.out HV.out (by rw [HPL.out, L1.out]) (by rw [HPL.out]; exact HN.out)).mono ?_
   rintro e W14 ⟨vz, rfl, hz, hB⟩
   replace HV := HV.go hB; replace HA := HA.go hB; replace HR := HR.go hB; replace HW0 := cb hB HW0; replace HRV := HRV.go hB; replace Hpr := Hpr.go hB
   rw [HQE.out] at hz
   have Hz := Lib.hid hz
   obtain ⟨az, cz, rfl, hcz⟩ := hz.opened
   clear hz hcz; clear hB
   refine hK.out _ _ ⟨HA.out.2.1, HA.out.2.2.1⟩ (fun hHeld => ?_)
   clear hK K; apply tm 4; apply tm 5; apply tm 6
   apply rdy 8; intro K hK; clear hHeld; have s0 := HRV.out.2.1; have t0 := HRV.out.2.2.2 0; have s1 := HRV.out.2.2.1; have t1 := HRV.out.2.2.2 1; go_simp; clear s0 t0 s1 t1
   obtain ⟨W15, hWn⟩ : ∃ xw9, (W14.setCell ⟨rz, 0, none⟩ (.int .i64 q.length)).setCell ⟨rz, 1, none⟩ (.slice az ((q.length + 63) / 64) cz) = xw9 := ⟨_, rfl⟩
   rw [hWn]
   replace Hz := Lib.hid (show IsBits W15 (.agg #[.int .i64 q.length, .slice az ((q.length + 63) / 64) cz]) q by rw [← hWn]; exact Hz.out.set2 HRV.out _ _)
   replace HRV := Lib.hid (show At2 W15 rz (.int .i64 q.length) (.slice az ((q.length + 63) / 64) cz) by rw [← hWn]; exact at2_put HRV.out _ _)
   replace HW0 := Lib.hid (show Below W1.heap.size W1 W15 by rw [← hWn]; exact below_setc HW0.out HBK.out _ _)
   replace HA := Lib.hid (show At2 W15 w.heap.size (.int .i64 n) (.slice ao Kw cap) from HAS.out.below HW0.out)
   replace HR := Lib.hid (show At2 W15 (w.heap.size + 1) (.int .i64 0) (.slice none 0 0) from HRS.out.below HW0.out)
   clear hWn
   refine hK.out _ _ ⟨HA.out.2.1, HA.out.2.2.1⟩ (fun hHeld => ?_)
   clear hK K; apply tm 9
   refine wpAnyH_done (by kernel_rfl) ?_ _
   clear hHeld
   refine ⟨rfl, vpr, az, cz, rz, ?_, Hz.out, HRV.out, HBK.out, HW0.out⟩
   try simp only [Act.put, List.setIfInBounds_toArray, List.set_cons_zero, List.set_cons_succ]
   all_goals first | rfl | kernel_rfl
  exact AllReadyH.nil
 rintro _ wmz ⟨vpr, az, cz, rz, rfl, hz, hAz, hGz, hB⟩
 have Hz := Lib.hid hz; have HVZ := Lib.hid hAz; have HGz := Lib.hid hGz; clear hz hAz hGz; replace HB := cb hB HB; replace HV := HV.go hB; replace HA := HA.go hB; replace HR := HR.go hB; clear hB
 simp only [Act.put, List.setIfInBounds_toArray, List.set_cons_zero, List.set_cons_succ]
 have cHA0 := HA.out.2.1; have cHA1 := HA.out.2.2.1; have cHR0 := HR.out.2.1; have cHR1 := HR.out.2.2.1; have zHR0 := HR.out.2.2.2 0; have zHR1 := HR.out.2.2.2 1; have cHVZ0 := HVZ.out.2.1; have cHVZ1 := HVZ.out.2.2.1
 go_wp2_with fail
 clear cHA0 cHA1 cHR0 cHR1 zHR0 zHR1 cHVZ0 cHVZ1; have cHA0 := HA.out.2.1; have cHA1 := HA.out.2.2.1; have cHR0 := HR.out.2.1; have cHR1 := HR.out.2.2.1; have zHR0 := HR.out.2.2.2 0; have zHR1 := HR.out.2.2.2 1; have cHVZ0 := HVZ.out.2.1; have cHVZ1 := HVZ.out.2.2.1
 have hq := at2_put HR.out (.int .i64 q.length) (.slice az ((q.length + 63) / 64) cz)
 have q0 := hq.2.1
 have q1 := hq.2.2.1
 have HB5 := Lib.hid (below_setc HB.out (show w.heap.size ≤ w.heap.size + 1 by omega) (.int .i64 q.length) (.slice az ((q.length + 63) / 64) cz))
 refine bodyPost_ret (v := .agg #[.int .i64 q.length, .slice az ((q.length + 63) / 64) cz]) (by simp [results, Tryz.results99, go_sem, q0, q1]) rfl ⟨_, rfl, ?_, HB5.out⟩
 exact Hz.out.set2 HR.out (.int .i64 q.length) (.slice az ((q.length + 63) / 64) cz)

theorem com_one : ∀ (Z : List (Value × VV)), (∀ p ∈ Z, p.2.kind = 1) → comZ 1 Z = 1
 | [], _ => rfl
 | q :: Z, h => by
  have e : comZ 1 (q :: Z) = comZ (commonK 1 q.2.kind) Z := rfl
  rw [e, h q (List.mem_cons_self ..), show commonK 1 1 = 1 by decide]
  exact com_one Z fun p hp => h p (List.mem_cons_of_mem _ hp)
def AllBits (Z : List (Value × VV)) : Prop := ∀ p ∈ Z, p.2 = .bits p.2.packed
theorem join_bits {Z : List (Value × VV)} (h : AllBits Z) (hf : 0 < (Z.flatMap fun p => p.2.packed).length) (hs : (Z.flatMap fun p => p.2.packed).length ≤ 1048576) : joinB Z = true ∧ joinZ Z = .bits (Z.flatMap fun p => p.2.packed) := by
 have hl : ∀ p ∈ Z, p.2.packed.length = p.2.len := fun p hp => by rw [h p hp]; rfl
 have hfull : ∀ p ∈ fullZ Z, p.2.kind = 1 := fun p hp => by rw [h p (fullZ_mem hp).1]; rfl
 have hm : (Z.flatMap fun p => p.2.packed) = (fullZ Z).flatMap fun p => p.2.packed := flatMap_full (f := VV.packed) fun p hp h0 => List.eq_nil_of_length_eq_zero (by rw [hl p hp, h0])
 have hlen : lensZ (fullZ Z) = (Z.flatMap fun p => p.2.packed).length := by rw [hm]; exact (flat_sum (f := VV.packed) fun p hp => hl p (fullZ_mem hp).1).symm
 have hne : fullZ Z ≠ [] := fun e => by rw [hm, e] at hf; simp at hf
 have hc : comK (fullZ Z) = 1 := by
  cases e : fullZ Z with
  | nil => exact absurd e hne
  | cons q Y =>
   rw [e] at hfull
   show comZ q.2.kind (q :: Y) = 1
   rw [hfull q (List.mem_cons_self ..)]
   exact com_one _ hfull
 refine ⟨?_, ?_⟩
 ·unfold joinB
  rw [if_neg hne, if_neg (by rw [hc, hlen]; omega)]
 ·unfold joinZ
  rw [if_neg hne, if_neg (by rw [hc, hlen]; omega), if_pos hc, ← hm]
def VR (B k : Nat) (v : Value) (Z : List (Value × VV)) (w : World) : Prop := w.ownsRow B 25 1 v k (Z.map Prod.fst) ∧ ∀ p ∈ Z, IsV w (fun b => v.ownBlock ≠ some b) p.1 p.2
theorem VR.below {B k : Nat} {v : Value} {Z : List (Value × VV)} {w w' : World} (h : VR B k v Z w) (hb : Below w.heap.size w w') : VR B k v Z w' := ⟨owns_below h.1 hb, fun p hp => (h.2 p hp).grow hb⟩
theorem VR.go {B k : Nat} {v : Value} {Z : List (Value × VV)} {w w' : World} (h : VR B k v Z w) (hB : Below w.heap.size w w') : Hid (VR B k v Z w') := Lib.hid (h.below hB)
theorem VR.free {B k : Nat} {v : Value} {Z : List (Value × VV)} {w : World} (h : VR B k v Z w) {b : Nat} (hb : w.heap.size ≤ b ∨ b < B) : v.ownBlock ≠ some b := fun e => by
 have := World.ownsRow.lt h.1 b e
 omega
theorem VR.snoc {B k m : Nat} {v v' : Value} {Z Y : List (Value × VV)} {w w' : World} (h : VR B k v Z w) (hY : ∀ p ∈ Y, IsV w (fun b => v.ownBlock ≠ some b) p.1 p.2)
  (hown : w'.ownsRow B 25 1 v' (k + m) (Z.map Prod.fst ++ Y.map Prod.fst)) (hg : w.grownBy w' v.ownBlock) (hk : ∀ j, v'.ownBlock = some j → v.ownBlock = some j ∨ w.heap.size ≤ j) : VR B (k + m) v' (Z ++ Y) w' := by
 have hko : Kept (fun b => v.ownBlock ≠ some b) w w' := Kept.grown hg (fun b hb e => hb e.symm)
 have hmo : ∀ b, b < w.heap.size → v.ownBlock ≠ some b → v'.ownBlock ≠ some b := fun b hb ho e => by
  rcases hk b e with e2 | e2
  ·exact ho e2
  ·omega
 refine ⟨by rw [List.map_append]; exact hown, fun p hp => ?_⟩
 rcases List.mem_append.1 hp with hp | hp
 ·exact (h.2 p hp).keep hko hmo
 ·exact (hY p hp).keep hko hmo
theorem VR.ends {B k : Nat} {v : Value} {Z : List (Value × VV)} {w : World} (h : VR B k v Z w) : VecsZ w (fun _ => True) v Z ∧ Z.length = k := by
 have e1 : Z.length = k := by have := h.1.1; simpa using this
 refine ⟨⟨?_, fun p hp => (h.2 p hp).any⟩, e1⟩
 rw [e1]; exact (Slc.owned h.1).any
set_option maxHeartbeats 4000000 in
theorem scjoined_calls (v : Value) (Z : List (Value × VV)) (B : Nat) (w : World) (hz : VecsZ w (fun _ => True) v Z) (hm : Z.length ≤ 1000000) (hb : AllBits Z) (hf : 0 < (Z.flatMap fun p => p.2.packed).length) (hs : (Z.flatMap fun p => p.2.packed).length ≤ 1048576) (hT : TabAt w) :
  Calls Tryz.prog 98 #[v] w fun e w' => ∃ u, e = .returned (.agg #[u]) ∧ IsV w' (fun _ => True) u (.bits (Z.flatMap fun p => p.2.packed)) ∧ Below w.heap.size w w' := by
 obtain ⟨ao, cap, rfl, _⟩ := hz.1.opened
 have HI := Lib.hid (show JoinIn Z from fun p hp => by
  refine ⟨?_, ?_, ?_⟩
  ·rw [hb p hp]
   show p.2.packed.length ≤ 1048576
   have h9 : p.2.packed.length ≤ (Z.flatMap fun p => p.2.packed).length := by
    obtain ⟨A, C, e⟩ := List.append_of_mem hp
    rw [e, List.flatMap_append, List.flatMap_cons]
    simp only [List.length_append]; omega
   omega
  ·rw [hb p hp]; exact trivial
  ·rw [hb p hp]; intro a ha; cases ha)
 obtain ⟨j1, j2⟩ := join_bits hb hf hs
 have HJ1 := Lib.hid j1; have HJ2 := Lib.hid j2
 obtain ⟨n, hn⟩ : ∃ n, Z.length = n := ⟨_, rfl⟩
 have HN := Lib.hid hn; have HM := Lib.hid hm
 obtain ⟨W1, hW1⟩ : ∃ W1, W1 = w.alloc (.cells #[.nilIface] 25) := ⟨_, rfl⟩
 have HB := Lib.hid (show Below w.heap.size w W1 by rw [hW1]; exact below_new _ _)
 have HR := Lib.hid (show At1 W1 w.heap.size .nilIface by rw [hW1]; exact At1.new w _ _)
 have HT := Lib.hid (show TabAt W1 from fun j hj => keep_below HB.out _ _ (hT j hj))
 have HZ := Lib.hid (show VecsZ W1 (fun _ => True) (.slice ao Z.length cap) Z from hz.keep (Kept.below HB.out) (fun _ _ h => h))
 have hfold := hW1.symm
 rw [hn] at HZ ⊢
 clear hW1 hT hz hm hb hf hs j1 j2 hn; have cHR0 := HR.out.2.1; have zHR0 := HR.out.2.2 0
 go_enter Tryz.func98, Tryz.ntmps98
 go_wp2_with fail
 clear hfold
 refine (fjoin_calls _ Z _ HZ.out HM.out HI.out HT.out).mono ?_
 rintro e W11 ⟨uq, rfl, huq, hB⟩
 rw [HJ1.out]
 rw [HJ2.out] at huq
 have HQ := Lib.hid huq.any; have hsq := huq.store
 have HB2 := Lib.hid (HB.out.trans (hB.mono HB.out.size))
 have HRW := Lib.hid (HR.out.below hB)
 clear huq hB cHR0 zHR0
 obtain ⟨W12, hWn, hB, hNB⟩ := ahd1 W11 (uq) 25
 replace HB2 := cb hB HB2; replace HRW := HRW.go hB; replace HQ := HQ.go hB; have HQV := Lib.hid hNB; clear hNB hB; have cHRW0 := HRW.out.2.1; have zHRW0 := HRW.out.2.2 0; have cHQV0 := HQV.out.2.1
 go_wp2_with fail
 clear hWn
 refine bodyPost_ret (v := .agg #[uq]) (by simp [results, Tryz.results98, go_sem, cHRW0]) rfl ⟨uq, rfl, ?_, HB2.out.setCell (Nat.le_refl _) _⟩
 exact HQ.out.bits_set HRW.out.2.1 (.inl rfl) _
end Go.Proofs.YtbacchbcanlciaaGreatDoor

namespace Go.Proofs.YtbacchbcanlciaaGreatDoor
set_option maxRecDepth 100000
open Go.RowKit Fl
set_option linter.unusedVariables false

set_option maxHeartbeats 8000000 in
theorem sctable_calls (f : Int) (w : World) (hT : TabAt w) :
  Calls Tryz.prog 66 #[.int .i64 f] w fun e w' => ∃ (t : Nat) (c : Bool), e = .returned (.tuple #[.int .u8 (t : Int), .bool c]) ∧ (c = true → t < 256 ∧ Closed f t) ∧ Below w.heap.size w w' := by
 have HB := Lib.hid (Below.refl w.heap.size w)
 have HT := Lib.hid hT
 have HPA := Lib.hid (show bools p4A = [.bool false, .bool false, .bool true, .bool true] from rfl)
 have HPB := Lib.hid (show bools p4B = [.bool false, .bool true, .bool false, .bool true] from rfl)
 clear hT
 go_enter Tryz.func66, Tryz.ntmps66
 go_wp2_with fail
 obtain ⟨W11, hWn⟩ : ∃ xw9, w.alloc (.cells #[.bool false, .bool false, .bool true, .bool true] 4) = xw9 := ⟨_, rfl⟩
 have hB : Below w.heap.size w W11 := by rw [← hWn]; exact below_new _ _
 have hNB : Slc W11 (fun _ => True) (.slice (some ⟨w.heap.size, 0, none⟩) 4 4) 4 (bools p4A) := by
  rw [← hWn]; exact (Slc.owned (World.ownsRow_lit (base := 0) (e := 4) (size := 1) w #[.bool false, .bool false, .bool true, .bool true] 4 (Nat.zero_le _) (by unfold maxLen; omega) rfl)).keep (Kept.refl _ _) (fun _ _ _ => trivial)
 rw [hWn]; clear hWn; replace HB := cb hB HB; replace HT := HT.go hB; have HLx := Lib.hid hNB; clear hNB hB
 refine (pack_fresh _ p4A _ HLx.out.1.sl (by decide)).mono ?_
 rintro e W12 ⟨vpx, rfl, hpx, hB⟩
 replace HB := cb hB HB; replace HT := HT.go hB; replace HLx := HLx.go hB; have HPx := Lib.hid hpx; clear hpx; clear hB
 go_wp2_with fail
 refine (vbits_ok _ p4A _ HPx.out (by decide)).mono ?_
 rintro e W13 ⟨ux, rfl, hux, hB⟩
 replace HB := cb hB HB; replace HT := HT.go hB; replace HLx := HLx.go hB; replace HPx := HPx.go hB; have HUx := Lib.hid hux.any; have hsx := hux.store; clear hux; clear hB
 obtain ⟨W14, hWn, hB, hNB⟩ := ahd1 W13 (ux) 25
 replace HB := cb hB HB; replace HT := HT.go hB; replace HLx := HLx.go hB; replace HPx := HPx.go hB; replace HUx := HUx.go hB; have HVx := Lib.hid hNB; clear hNB hB; have cHVx0 := HVx.out.2.1
 go_wp2_with fail
 clear hWn
 obtain ⟨W15, hWn⟩ : ∃ xw9, W14.alloc (.cells #[.bool false, .bool true, .bool false, .bool true] 4) = xw9 := ⟨_, rfl⟩
 have hB : Below W14.heap.size W14 W15 := by rw [← hWn]; exact below_new _ _
 have hNB : Slc W15 (fun _ => True) (.slice (some ⟨W14.heap.size, 0, none⟩) 4 4) 4 (bools p4B) := by
  rw [← hWn]; exact (Slc.owned (World.ownsRow_lit (base := 0) (e := 4) (size := 1) W14 #[.bool false, .bool true, .bool false, .bool true] 4 (Nat.zero_le _) (by unfold maxLen; omega) rfl)).keep (Kept.refl _ _) (fun _ _ _ => trivial)
 rw [hWn]; clear hWn; clear cHVx0; replace HB := cb hB HB; replace HT := HT.go hB; replace HLx := HLx.go hB; replace HPx := HPx.go hB; replace HUx := HUx.go hB; replace HVx := HVx.go hB; have HLy := Lib.hid hNB; clear hNB hB
 refine (pack_fresh _ p4B _ HLy.out.1.sl (by decide)).mono ?_
 rintro e W16 ⟨vpy, rfl, hpy, hB⟩
 replace HB := cb hB HB; replace HT := HT.go hB; replace HLx := HLx.go hB; replace HPx := HPx.go hB; replace HUx := HUx.go hB; replace HVx := HVx.go hB; replace HLy := HLy.go hB; have HPy := Lib.hid hpy; clear hpy; clear hB
 go_wp2_with fail
 refine (vbits_ok _ p4B _ HPy.out (by decide)).mono ?_
 rintro e W17 ⟨uy, rfl, huy, hB⟩
 replace HB := cb hB HB; replace HT := HT.go hB; replace HLx := HLx.go hB; replace HPx := HPx.go hB; replace HUx := HUx.go hB; replace HVx := HVx.go hB; replace HLy := HLy.go hB; replace HPy := HPy.go hB; have HUy := Lib.hid huy.any; have hsy := huy.store; clear huy; clear hB
 obtain ⟨W18, hWn, hB, hNB⟩ := ahd1 W17 (uy) 25
 replace HB := cb hB HB; replace HT := HT.go hB; replace HLx := HLx.go hB; replace HPx := HPx.go hB; replace HUx := HUx.go hB; replace HVx := HVx.go hB; replace HLy := HLy.go hB; replace HPy := HPy.go hB; replace HUy := HUy.go hB; have HVy := Lib.hid hNB; clear hNB hB; have cHVx0 := HVx.out.2.1; have cHVy0 := HVy.out.2.1
 go_wp2_with fail
 clear hWn
 obtain ⟨E0, hE0⟩ : ∃ E0, twE f (.bits p4A) (.bits p4B) = E0 := ⟨_, rfl⟩
 obtain ⟨V0, hV0⟩ : ∃ V0, twV f (.bits p4A) (.bits p4B) = V0 := ⟨_, rfl⟩
 have HE0 := Lib.hid hE0
 have HTT := Lib.hid (show E0 = 0 → V0.isBit = true → V0.packed.length = 4 ∧ Closed f (bw (sq V0.packed) 0) ∧ bw (sq V0.packed) 0 < 256 from fun h1 h2 => by
  rw [← hV0] at h2 ⊢
  exact two_table (hE0.trans h1) h2)
 have HV0 := Lib.hid hV0; clear hE0 hV0
 refine (fotwo_calls f _ _ (.bits p4A) (.bits p4B) _ HUx.out HUy.out (show p4A.length ≤ 1048576 by decide) (show p4B.length ≤ 1048576 by decide) trivial trivial HT.out).mono ?_
 rintro e W19 ⟨uz, rfl, huz, hB⟩
 clear cHVx0 cHVy0; replace HB := cb hB HB; replace HT := HT.go hB; replace HLx := HLx.go hB; replace HPx := HPx.go hB; replace HUx := HUx.go hB; replace HVx := HVx.go hB; replace HLy := HLy.go hB; replace HPy := HPy.go hB; replace HUy := HUy.go hB; replace HVy := HVy.go hB; rw [HE0.out]
 rw [HV0.out] at huz
 have HUZ := Lib.hid huz; have hsz := huz.store; clear huz; clear hB
 obtain ⟨W20, hWn, hB, hNB⟩ := ahd1 W19 (uz) 25
 replace HB := cb hB HB; replace HT := HT.go hB; replace HLx := HLx.go hB; replace HPx := HPx.go hB; replace HUx := HUx.go hB; replace HVx := HVx.go hB; replace HLy := HLy.go hB; replace HPy := HPy.go hB; replace HUy := HUy.go hB; replace HVy := HVy.go hB; replace HUZ := HUZ.go hB; have HVZ := Lib.hid hNB; clear hNB hB; have cHVx0 := HVx.out.2.1; have cHVy0 := HVy.out.2.1; have cHVZ0 := HVZ.out.2.1
 go_wp2_with fail
 clear hWn
 obtain ⟨bt, hbt⟩ : ∃ bt, V0.isBit = bt := ⟨_, rfl⟩
 have HBT := Lib.hid hbt
 obtain ⟨q, hq⟩ : ∃ q, V0.packed = q := ⟨_, rfl⟩
 rw [hbt, hq] at HTT
 have HQ := Lib.hid hq; clear hbt hq
 refine (packed_x _ V0 _ HUZ.out).mono ?_
 rintro e W21 ⟨vq, rfl, hvq, hB⟩
 clear cHVx0 cHVy0 cHVZ0; replace HB := cb hB HB; replace HT := HT.go hB; replace HLx := HLx.go hB; replace HPx := HPx.go hB; replace HUx := HUx.go hB; replace HVx := HVx.go hB; replace HLy := HLy.go hB; replace HPy := HPy.go hB; replace HUy := HUy.go hB; replace HVy := HVy.go hB; replace HUZ := HUZ.go hB; replace HVZ := HVZ.go hB; rw [HBT.out]
 rw [HQ.out] at hvq
 have HVQ := Lib.hid hvq.bits
 obtain ⟨aq, cq, rfl, _⟩ := HVQ.out.opened
 clear hvq; clear hB
 obtain ⟨W22, hWn, hB, hNB⟩ := ahd2 W21 (.int .i64 q.length) (.slice aq ((q.length + 63) / 64) cq) 63
 replace HB := cb hB HB; replace HT := HT.go hB; replace HLx := HLx.go hB; replace HPx := HPx.go hB; replace HUx := HUx.go hB; replace HVx := HVx.go hB; replace HLy := HLy.go hB; replace HPy := HPy.go hB; replace HUy := HUy.go hB; replace HVy := HVy.go hB; replace HUZ := HUZ.go hB; replace HVZ := HVZ.go hB; replace HVQ := HVQ.go hB; have HVP := Lib.hid hNB; clear hNB hB; have cHVx0 := HVx.out.2.1
 have cHVy0 := HVy.out.2.1; have cHVZ0 := HVZ.out.2.1; have cHVP0 := HVP.out.2.1; have cHVP1 := HVP.out.2.2.1
 by_cases h0 : E0 = 0 ∧ bt = true
 rotate_left
 ·have hc : (E0 != 0) = true ∨ ((E0 != 0) = false ∧ bt = false) := by
   by_cases h1 : E0 = 0
   ·right; exact ⟨by simp [h1], by cases bt <;> simp_all⟩
   ·left; simp [h1]
  clear h0
  rcases hc with h1 | ⟨h1, rfl⟩
  all_goals
   go_wp2
   go_ret2
   exact ⟨0, false, rfl, (fun h => nomatch h), HB.out⟩
 obtain ⟨rfl, rfl⟩ := h0
 obtain ⟨t1, t2, t3⟩ := HTT.out rfl rfl
 have HQ4 := Lib.hid t1; have HCL := Lib.hid t2; have HLT := Lib.hid t3
 obtain ⟨t, ht⟩ : ∃ t, bw (sq q) 0 = t := ⟨_, rfl⟩
 have HTE := Lib.hid ht
 rw [ht] at HCL HLT
 clear t1 t2 t3 ht
 go_wp2_with fail
 refine (words_calls _ q _ HVQ.out (by rw [HQ4.out]; decide)).mono ?_
 rintro e W23 ⟨vw, rfl, hvw, hB⟩
 clear cHVx0 cHVy0 cHVZ0 cHVP0 cHVP1; replace HB := cb hB HB; replace HT := HT.go hB; replace HLx := HLx.go hB; replace HPx := HPx.go hB; replace HUx := HUx.go hB; replace HVx := HVx.go hB; replace HLy := HLy.go hB; replace HPy := HPy.go hB; replace HUy := HUy.go hB; replace HVy := HVy.go hB; replace HUZ := HUZ.go hB; replace HVZ := HVZ.go hB; replace HVQ := HVQ.go hB; replace HVP := HVP.go hB
 have hw1 : words q = [t] := by rw [← HTE.out]; unfold words; rw [HQ4.out]; rfl
 rw [hw1] at hvw
 obtain ⟨_, aw, cw, rfl, hcw⟩ := hvw
 obtain ⟨bb, off, rfl, hcell⟩ := hcw 0 (by simp [u64s])
 have hcell : W23.cell? ⟨bb, off, none⟩ = some (.int .u64 (t : Int)) := by simpa [u64s] using hcell
 have HWC := Lib.hid hcell; clear hw1 hcw hcell; clear hB; have hcell := HWC.out
 have hwr : IntKind.u8.wrap (t : Int) = (t : Int) := IntWalk.u8_in _ (by have := HLT.out; omega)
 go_wp2
 go_ret2
 exact ⟨t, true, rfl, fun _ => ⟨HLT.out, HCL.out⟩, HB.out⟩
end Go.Proofs.YtbacchbcanlciaaGreatDoor

namespace Go.Proofs.YtbacchbcanlciaaGreatDoor
set_option maxRecDepth 100000
open Go.RowKit Fl
set_option linter.unusedVariables false

section
variable {P : Program} {ops : Array Oper} {Q : Exit → Act → World → Prop} {md : Region.Mode} {S : World → Prop} {T : Nat → Bool}
def AnyT (P : Program) (md : Region.Mode) (ops : Array Oper) (Q : Exit → Act → World → Prop) (S : World → Prop) (T : Nat → Bool) : Nat → Array Bool → Act → World → Prop
 | 0, l, a, w => Region.ready md ops l = [] ∧ Q .normal a w
 | n + 1, l, a, w => (Region.ready md ops l = [] → Q .normal a w) ∧ ∀ i ∈ Region.ready md ops l, wpOp P ops Q i (fun a' w' => (T i = true → wpAny P md ops Q n (l.setIfInBounds i true) a' w') ∧ (T i = false → S w' ∧ AnyT P md ops Q S T n (l.setIfInBounds i true) a' w')) a w
theorem AnyT.any : ∀ (n : Nat) (l : Array Bool) (a : Act) (w : World), AnyT P md ops Q S T n l a w → wpAny P md ops Q n l a w
 | 0, _, _, _, h => h
 | n + 1, _, _, _, h => ⟨h.1, fun i hi => wpOp_mono (fun a' w' h' => by
   cases e : T i with
   | true => exact h'.1 e
   | false => exact AnyT.any n _ a' w' (h'.2 e).2) (h.2 i hi)⟩
def waits2 (md : Region.Mode) (ops : Array Oper) (j i : Nat) : Bool := Region.waitsFor md ops j i || (List.range ops.size).any fun m => Region.waitsFor md ops j m && Region.waitsFor md ops m i
def waitsT (md : Region.Mode) (ops : Array Oper) (T : Nat → Bool) (i : Nat) : Bool := (List.range ops.size).all fun j => !T j || waits2 md ops j i
def closedL (md : Region.Mode) (ops : Array Oper) (l : Array Bool) : Bool := decide (l.size = ops.size) && (List.range ops.size).all fun j => match ops[j]? with
 | some o => !l.getD j false || o.after.toList.all fun e => !Region.binds md e || l.getD e.on false
 | none => true
theorem closedL_inv {l : Array Bool} (h : closedL md ops l = true) : HeadInv md ops ops.size l := by
 unfold closedL at h
 rw [Bool.and_eq_true] at h
 refine ⟨of_decide_eq_true h.1, fun j oj hj hl e he hb => ?_, fun t h1 h2 => by omega⟩
 have h1 := List.all_eq_true.1 h.2 j (List.mem_range.2 (Array.getElem?_eq_some_iff.1 hj).1)
 rw [hj] at h1
 simp only [hl, Bool.not_true, Bool.false_or] at h1
 have h2 := List.all_eq_true.1 h1 e (Array.mem_toList_iff.2 he)
 simpa [hb] using h2
theorem not_listed {l : Array Bool} {i : Nat} (hr : i ∈ Region.ready md ops l) : l.getD i false = false := getD_both (mem_ready.1 hr).1
theorem waits_not {l : Array Bool} {i j : Nat} (hw : waitsT md ops T i = true) (hc : HeadInv md ops ops.size l) (hr : i ∈ Region.ready md ops l) (hj : j ∈ Region.ready md ops l) : T j = false := by
 obtain ⟨_, oj, hoj, hall⟩ := mem_ready.1 hj
 have hlt := (Array.getElem?_eq_some_iff.1 hoj).1
 have h1 := List.all_eq_true.1 hw j (List.mem_range.2 hlt)
 cases e : T j with
 | false => rfl
 | true =>
  rw [e, Bool.not_true, Bool.false_or] at h1
  unfold waits2 at h1
  rw [Bool.or_eq_true] at h1
  rcases h1 with h1 | h1
  ·obtain ⟨o', ho', x, hx, hb, hon⟩ := Region.waitsFor_spec h1
   cases Option.some.inj (hoj.symm.trans ho')
   have h2 := hall x hx hb
   rw [hon, not_listed hr] at h2
   cases h2
  ·obtain ⟨m, _, hm⟩ := List.any_eq_true.1 h1
   rw [Bool.and_eq_true] at hm
   obtain ⟨o', ho', x, hx, hb, hon⟩ := Region.waitsFor_spec hm.1
   cases Option.some.inj (hoj.symm.trans ho')
   have h2 := hall x hx hb
   rw [hon] at h2
   obtain ⟨om, hom, y, hy, hb2, hon2⟩ := Region.waitsFor_spec hm.2
   have h3 := hc.closed m om hom h2 y hy hb2
   rw [hon2, not_listed hr] at h3
   cases h3
theorem AnyT.first {i : Nat} {oi : Oper} {v : Value} (hi : ops[i]? = some oi) (hsel : ∀ (j : Nat) (o : Oper) cs b, ops[j]? = some o → o.op ≠ .select cs b)
  (hQ : ∀ c a w, Q (.panic c) (a.put oi.dst v) w → Q (.panic c) a w) (hw : waitsT md ops T i = true) :
  ∀ (n : Nat) (l : Array Bool) (a : Act) (w : World),
   (∀ j oj, ops[j]? = some oj → j ≠ i → l.getD j true = false → (∀ e ∈ oj.after, Region.binds md e = true → e.on ≠ i) → oi.apart ops oj = true) →
   HeadInv md ops ops.size l → i ∈ Region.ready md ops l → YieldsIf P ops S oi v a → S w → AnyT P md ops Q S T n (l.setIfInBounds i true) (a.put oi.dst v) w → AnyT P md ops Q S T (n + 1) l a w := by
 intro n
 induction n with
 | zero =>
  intro l a w _ hc hr hy hS H
  have hTi := waits_not hw hc hr hr
  refine ⟨fun h => (by rw [h] at hr; cases hr), fun j hj => ?_⟩
  by_cases hji : j = i
  ·subst hji; exact hy.wpOp hi hS ⟨fun e => by rw [hTi] at e; (cases e), fun _ => ⟨hS, H⟩⟩
  ·have := ready_mono hj hji
   rw [H.1] at this
   cases this
 | succ n ih =>
  intro l a w hfree hc hr hy hS H
  have hTi := waits_not hw hc hr hr
  refine ⟨fun h => (by rw [h] at hr; cases hr), fun j hj => ?_⟩
  by_cases hji : j = i
  ·subst hji; exact hy.wpOp hi hS ⟨fun e => by rw [hTi] at e; (cases e), fun _ => ⟨hS, H⟩⟩
  ·have hTj := waits_not hw hc hr hj
   obtain ⟨hjun, oj, hoj, hall⟩ := mem_ready.1 hj
   have hnot : ∀ e ∈ oj.after, Region.binds md e = true → e.on ≠ i := fun e he hb heq => by
    have h1 := hall e he hb
    rw [heq, not_listed hr] at h1
    cases h1
   have h2 := wpOp_putIf hoj (hfree j oj hoj hji hjun hnot) (fun cs b => hsel i oi cs b hi) (fun cs b => hsel j oj cs b hoj) hQ hy (H.2 j (ready_mono hj hji))
   refine wpOp_mono (fun a' w' h3 => ⟨fun e => by rw [hTj] at e; (cases e), fun _ => ?_⟩) h2
   obtain ⟨hS', H'⟩ := h3.2.2 hTj
   refine ⟨hS', ih (l.setIfInBounds j true) a' w' (fun k ok hk hki hun hno => hfree k ok hk hki ?_ hno) (hc.set hj (Array.getElem?_eq_some_iff.1 hoj).1) (ready_mono hr (Ne.symm hji)) h3.1 hS' ?_⟩
   ·by_cases hjk : j = k
    ·subst hjk; exact hjun
    ·rw [getD_set_ne true hjk] at hun; exact hun
   ·rw [Array.setIfInBounds_comm _ _ hji]; exact H'
theorem AnyT.take {i : Nat} {oi : Oper} {v : Value} {n : Nat} {l : Array Bool} {a : Act} {w : World} (hi : ops[i]? = some oi) (hs : Region.noSelect ops = true) (hf : Region.free md ops l i = true)
  (hr : (Region.ready md ops l).contains i = true) (hw : waitsT md ops T i = true) (hc : closedL md ops l = true) (hQ : ∀ c a w, Q (.panic c) (a.put oi.dst v) w → Q (.panic c) a w) (hy : YieldsIf P ops S oi v a) (hS : S w)
  (h : AnyT P md ops Q S T n (l.setIfInBounds i true) (a.put oi.dst v) w) : AnyT P md ops Q S T (n + 1) l a w :=
 AnyT.first hi (Region.noSelect_spec hs) hQ hw n l a w (Region.free_spec hi hf) (closedL_inv hc) (by simpa using hr) hy hS h
theorem AnyT.one {i : Nat} {o : Oper} {n : Nat} {l : Array Bool} {a : Act} {w : World} (hr : Region.ready md ops l = [i]) (ho : ops[i]? = some o) (hT : T i = false)
  (h : ∀ K' : Act → World → Prop, Shut (∀ a w, S w → (S w → AnyT P md ops Q S T n (l.setIfInBounds i true) a w) → K' a w) → if Region.wanted o (yielded ops a.tmps) = true then Oper.wp P o a w K' Q else K' (a.put o.dst undef) w) : AnyT P md ops Q S T (n + 1) l a w := by
 refine ⟨fun h0 => (by rw [hr] at h0; cases h0), fun j hj => ?_⟩
 rw [hr] at hj
 cases List.mem_singleton.1 hj
 exact wpOp_step ho fun K' hK => h K' fun a w hS hW => hK a w ⟨fun e => by rw [hT] at e; (cases e), fun _ => ⟨hS, hW hS⟩⟩
theorem AnyT.last {i : Nat} {o : Oper} {n : Nat} {l : Array Bool} {a : Act} {w : World} (hr : Region.ready md ops l = [i]) (ho : ops[i]? = some o) (hT : T i = true)
  (h : ∀ K' : Act → World → Prop, Shut (∀ a w, wpAny P md ops Q n (l.setIfInBounds i true) a w → K' a w) → if Region.wanted o (yielded ops a.tmps) = true then Oper.wp P o a w K' Q else K' (a.put o.dst undef) w) : AnyT P md ops Q S T (n + 1) l a w := by
 refine ⟨fun h0 => (by rw [hr] at h0; cases h0), fun j hj => ?_⟩
 rw [hr] at hj
 cases List.mem_singleton.1 hj
 exact wpOp_step ho fun K' hK => h K' fun a w hW => hK a w ⟨fun _ => hW, fun e => by rw [hT] at e; (cases e)⟩
theorem AnyT.start {id : Nat} {a : Act} {w : World} (hm : P.follows .mixedOrders = true) (hS : S w.drew)
  (h : S w.drew → AnyT P .any ops Q S T ops.size (Array.replicate ops.size false) a w.drew) : (Code.region id ops true).wp P Q a w :=
 wp_region_any hm (AnyT.any _ _ _ _ (h hS))
end
end Go.Proofs.YtbacchbcanlciaaGreatDoor

namespace Go.Proofs.YtbacchbcanlciaaGreatDoor
set_option maxRecDepth 100000
open Go.RowKit Fl
set_option linter.unusedVariables false

theorem IsBitsX.lts {w : World} {ok : Nat → Prop} {v : Value} {l : List Bool} (h : IsBitsX w ok v l) : IsBitsX w (fun b => b < w.heap.size) v l := h.keep (Kept.refl _ _) (fun _ hb _ => hb)
theorem IsV.put_at {w : World} {ok : Nat → Prop} {u : Value} {l : List Bool} (h : IsV w ok u (.bits l)) {p : Addr} {y : Value} (hp : w.cell? p = some y) (hy : ∀ z : Nat, y ≠ .int .u64 (z : Int)) (x : Value) : IsV (w.setCell p x) ok u (.bits l) := by
 cases h with
 | bits h hm =>
  refine .bits ?_ hm
  obtain ⟨h1, ao, cap, e, h3⟩ := h
  refine ⟨h1, ao, cap, e, fun i hi => ?_⟩
  obtain ⟨b, off, e2, hb, hc⟩ := h3 i hi
  refine ⟨b, off, e2, hb, (World.cell?_setCell_other _ _ _ _ fun e9 => ?_).trans hc⟩
  rw [e9] at hp
  have e8 := Option.some.inj (hp.symm.trans hc)
  simp only [u64s, List.getElem_map] at e8
  exact hy _ e8
end Go.Proofs.YtbacchbcanlciaaGreatDoor

namespace Go.Proofs.YtbacchbcanlciaaGreatDoor
set_option maxRecDepth 100000
open Go.RowKit Fl
set_option linter.unusedVariables false

theorem pfx_cnt (F : Nat → Bool) : ∀ k, pfx F k = decide (cnt F k % 2 = 1)
 | 0 => rfl
 | k + 1 => by
  show (pfx F k ^^ F k) = decide ((cnt F k + (F k).toNat) % 2 = 1)
  rw [pfx_cnt F k]
  have h : cnt F k % 2 = 0 ∨ cnt F k % 2 = 1 := by omega
  cases F k <;> rcases h with h | h <;> simp [h, Nat.add_mod]
theorem odd_pfx (t : Nat) (r : List Bool) : ((List.range (r.map (flipB t)).length).map fun k => pfx (sq (r.map (flipB t))) k) = oddL t r := by
 rw [List.length_map]
 exact List.map_congr_left fun k _ => pfx_cnt _ k
theorem cell_two_newS (w : World) (x y : Value) (t : TypeId) : ∀ j u, [x, y][j]? = some u → (w.alloc (.cells #[x, y] t)).cell? ((⟨w.heap.size, 0, none⟩ : Addr).add j) = some u := by
 intro j u h
 rw [Go.WideShapes.add_plain]
 match j with
 | 0 => simp at h; subst h; simp
 | 1 => simp at h; subst h; simp
 | j + 2 => simp at h
set_option maxHeartbeats 16000000 in
theorem scrows_calls (t : Nat) (v : Value) (l : List Bool) (outer n : Nat) (w : World) (hv : IsBits w v l) (ht : t < 256) (hl : l.length ≤ 1048576) (hll : l.length = outer * n) (hpos : 0 < l.length) (hn : 64 ≤ n) (hT : TabAt w) :
  Calls Tryz.prog 68 #[.int .u8 (t : Int), v, .int .i64 (outer : Int), .int .i64 (n : Int)] w fun e w' => ∃ u, e = .returned (.agg #[u]) ∧ IsV w' (fun _ => True) u (.bits (upB t l outer n 1)) ∧ Below w.heap.size w w' := by
 obtain ⟨i0, hi0, hz0, hz1, hz2⟩ := info_parts info_vec1
 have HI0 := Lib.hid (And.intro hi0 (And.intro hz0 (And.intro hz1 hz2)))
 clear hi0 hz0 hz1 hz2; have HL := Lib.hid hl; have HLL := Lib.hid hll; have HTW := Lib.hid ht; have HPOS := Lib.hid hpos
 have hob : outer ≤ 16384 ∧ n ≤ 1048576 := by
  have h9 := Nat.mul_le_mul_left outer hn
  have h0 : 0 < outer := Nat.pos_of_ne_zero fun e => by rw [hll, e, Nat.zero_mul] at hpos; omega
  have h5 := Nat.le_mul_of_pos_left n h0
  omega
 have HN := Lib.hid (show 0 < n by omega)
 have HNO := Lib.hid hob.2; have HOM := Lib.hid hob.1
 obtain ⟨m, hm⟩ : ∃ m, l.length = m := ⟨_, rfl⟩
 obtain ⟨ao, cap, rfl, hcx⟩ := hv.opened
 have HV := Lib.hid hv
 rw [hm] at HV ⊢
 have HM := Lib.hid hm
 obtain ⟨L, hL⟩ : ∃ L, (m + 63) / 64 = L := ⟨_, rfl⟩
 rw [hL] at HV ⊢
 obtain ⟨W1, hW1⟩ : ∃ W1, W1 = (w.alloc (.cells #[.int .i64 m, .slice ao L cap] 63)).alloc (.cells #[.nilIface] 25) := ⟨_, rfl⟩
 have HA := Lib.hid (show At2 W1 w.heap.size (.int .i64 m) (.slice ao L cap) by rw [hW1]; exact (At2.new _ _ _ _).alloc _)
 have HR := Lib.hid (show At1 W1 (w.heap.size + 1) .nilIface by
  rw [hW1]; have := At1.new (w.alloc (.cells #[.int .i64 m, .slice ao L cap] 63)) .nilIface 25; simpa using this)
 have HB := Lib.hid (show Below w.heap.size w W1 by rw [hW1]; exact ((Below.refl _ _).alloc (Nat.le_refl _) _).alloc (by simp) _)
 replace HV := Lib.hid (HV.out.keep (keep_below HB.out))
 have HT := Lib.hid (show TabAt W1 from fun j hj => keep_below HB.out _ _ (hT j hj))
 have hfold := hW1.symm
 clear hcx hL hv hl hll ht hn hpos hob hT hW1 hm
 obtain ⟨lo, hlo⟩ : ∃ lo, (l.map fun x => tab t x false) = lo := ⟨_, rfl⟩
 obtain ⟨hi, hhi⟩ : ∃ hi, (l.map fun x => tab t x true) = hi := ⟨_, rfl⟩
 obtain ⟨se, hse⟩ : ∃ se, l.map (settB t) = se := ⟨_, rfl⟩
 obtain ⟨fl, hfl⟩ : ∃ fl, l.map (flipB t) = fl := ⟨_, rfl⟩
 have HLO := Lib.hid (show List.zipWith (tab t) l (List.replicate m false) = lo by rw [← HM.out, zip_rep, hlo])
 have HHI := Lib.hid (show List.zipWith (tab t) l (List.replicate m true) = hi by rw [← HM.out, zip_rep, hhi])
 have HSE := Lib.hid (show List.zipWith (tab 9) lo hi = se by rw [← hlo, ← hhi, zip_sett, hse])
 have HFL := Lib.hid (show List.zipWith (tab 4) lo hi = fl by rw [← hlo, ← hhi, zip_flip, hfl])
 have HLOM := Lib.hid (show lo.length = m by rw [← hlo, List.length_map, HM.out])
 have HHIM := Lib.hid (show hi.length = m by rw [← hhi, List.length_map, HM.out])
 have HSEM := Lib.hid (show se.length = m by rw [← hse, List.length_map, HM.out])
 have HFLM := Lib.hid (show fl.length = m by rw [← hfl, List.length_map, HM.out])
 have HLX := Lib.hid hlo; have HSX := Lib.hid hse; have HFX := Lib.hid hfl
 have HMM := Lib.hid (show m ≤ 1048576 by rw [← HM.out]; exact HL.out)
 have HMK := Lib.hid (show min (max (m : Int) 0) 1048576 = (m : Int) by have := HMM.out; omega)
 clear hlo hhi hse hfl; have cHA0 := HA.out.2.1; have cHA1 := HA.out.2.2.1; have cHR0 := HR.out.2.1; have zHR0 := HR.out.2.2 0
 go_enter Tryz.func68, Tryz.ntmps68
 go_wp2_with fail
 clear hfold; clear cHA0 cHA1 cHR0 zHR0
 refine wp_mid (fun s0 s1 w' => ∃ (vmk : Value) (alo : Option Addr) (clo rlo : Nat), s1 = (((((((((((s0.put (some 25) (.int .u8 (t : Int))).put (some 26) (.agg #[.int .i64 m, .slice ao L cap])).put (some 27) (.agg #[.int .i64 m, .slice ao L cap])).put (some 28) (.int .i64 (m : Int))).put (some 29) vmk).put (some 30) (.tuple #[(.agg #[.int .i64 lo.length, .slice alo ((lo.length + 63) / 64) clo]), .bool true])).put (some 24) (.tuple #[(.agg #[.int .i64 lo.length, .slice alo ((lo.length + 63) / 64) clo]), .bool true])).put (some 31) (.agg #[.int .i64 lo.length, .slice alo ((lo.length + 63) / 64) clo])).put (some 32) (.bool true)).put (some 9) (.pointer (some ⟨rlo, 0, none⟩))).put (some 10) (.bool true)) ∧ IsBits w' (.agg #[.int .i64 lo.length, .slice alo ((lo.length + 63) / 64) clo]) lo ∧ At2 w' rlo (.int .i64 lo.length) (.slice alo ((lo.length + 63) / 64) clo) ∧ W1.heap.size ≤ rlo ∧ Below W1.heap.size W1 w') ?_ ?_
 ·have HW0 := Lib.hid (Below.refl W1.heap.size W1)
  have HAS := HA
  obtain ⟨W11, hWD, hB⟩ := drwn W1
  replace HV := HV.go hB; replace HA := HA.go hB; replace HW0 := cb hB HW0; clear hB
  refine rgn (S := fun w' => w'.cell? ⟨w.heap.size, 0, none⟩ = some (.int .i64 m) ∧ w'.cell? ⟨w.heap.size, 1, none⟩ = some (.slice ao L cap)) hWD ⟨HA.out.2.1, HA.out.2.2.1⟩ (fun hHeld => ?_)
  clear hWD; apply tm 0; apply tm 1; apply tm 2
  refine wpAnyH_ready (rs := [3, 9]) (by kernel_rfl) (by simp) ?_
  refine AllReadyH.cons (o := _) rfl (fun K hK => ?_) ?_
  ·clear hHeld; go_simp
   refine (len_calls _ l _ HV.out).mono ?_
   rintro e W12 ⟨rfl, hB⟩
   replace HV := HV.go hB; replace HA := HA.go hB; replace HW0 := cb hB HW0; rw [HM.out]; clear hB
   refine hK.out _ _ ⟨HA.out.2.1, HA.out.2.2.1⟩ (fun hHeld => ?_)
   clear hK K
   refine wpAnyH_ready (rs := [4, 9]) (by kernel_rfl) (by simp) ?_
   refine AllReadyH.cons (o := _) rfl (fun K hK => ?_) ?_
   ·clear hHeld; go_simp
    refine (make_calls _ false m HMK.out _).mono ?_
    rintro e W13 ⟨vmk, rfl, hmk, hB⟩
    replace HV := HV.go hB; replace HA := HA.go hB; replace HW0 := cb hB HW0; have Hmk := Lib.hid hmk; clear hmk; clear hB
    refine hK.out _ _ ⟨HA.out.2.1, HA.out.2.2.1⟩ (fun hHeld => ?_)
    clear hK K
    refine wpAnyH_ready (rs := [5, 9]) (by kernel_rfl) (by simp) ?_
    refine AllReadyH.cons (o := _) rfl (fun K hK => ?_) ?_
    ·clear hHeld; go_simp
     refine (truth_yes t HTW.out _ vmk l (List.replicate m false) _ HV.out Hmk.out (by rw [List.length_replicate]; exact HM.out) HL.out).mono ?_
     rintro e W14 ⟨vlo, rfl, hlo, hB⟩
     replace HV := HV.go hB; replace HA := HA.go hB; replace HW0 := cb hB HW0; replace Hmk := Hmk.go hB
     rw [HLO.out] at hlo
     have Hlo := Lib.hid hlo
     obtain ⟨alo, clo, rfl, hclo⟩ := hlo.opened
     clear hlo hclo; clear hB
     refine hK.out _ _ ⟨HA.out.2.1, HA.out.2.2.1⟩ (fun hHeld => ?_)
     clear hK K; apply tm 6; apply tm 7; apply tm 8
     apply rdy 9; intro K hK; clear hHeld; go_simp
     obtain ⟨W15, hWn, hB, hNB⟩ := ahd2 W14 (.int .i64 0) (.slice none 0 0) 63
     have hbk : W1.heap.size ≤ W14.heap.size := HW0.out.size
     rw [hWn]; clear hWn
     obtain ⟨rlo, hnm⟩ : ∃ x, W14.heap.size = x := ⟨_, rfl⟩
     rw [hnm] at hNB hbk ⊢
     replace HV := HV.go hB; replace HA := HA.go hB; replace HW0 := cb hB HW0; replace Hmk := Hmk.go hB; replace Hlo := Hlo.go hB; have HRV := Lib.hid hNB; have HBK := Lib.hid hbk; clear hNB hB hnm hbk
     refine hK.out _ _ ⟨HA.out.2.1, HA.out.2.2.1⟩ (fun hHeld => ?_)
     clear hK K
     apply rdy 10; intro K hK; clear hHeld; have s0 := HRV.out.2.1; have t0 := HRV.out.2.2.2 0; have s1 := HRV.out.2.2.1; have t1 := HRV.out.2.2.2 1; go_simp; clear s0 t0 s1 t1
     obtain ⟨W16, hWn⟩ : ∃ xw9, (W15.setCell ⟨rlo, 0, none⟩ (.int .i64 lo.length)).setCell ⟨rlo, 1, none⟩ (.slice alo ((lo.length + 63) / 64) clo) = xw9 := ⟨_, rfl⟩
     rw [hWn]
     replace Hlo := Lib.hid (show IsBits W16 (.agg #[.int .i64 lo.length, .slice alo ((lo.length + 63) / 64) clo]) lo by rw [← hWn]; exact Hlo.out.set2 HRV.out _ _)
     replace HRV := Lib.hid (show At2 W16 rlo (.int .i64 lo.length) (.slice alo ((lo.length + 63) / 64) clo) by rw [← hWn]; exact at2_put HRV.out _ _)
     replace HW0 := Lib.hid (show Below W1.heap.size W1 W16 by rw [← hWn]; exact below_setc HW0.out HBK.out _ _)
     replace HA := Lib.hid (show At2 W16 w.heap.size (.int .i64 m) (.slice ao L cap) from HAS.out.below HW0.out)
     clear hWn
     refine hK.out _ _ ⟨HA.out.2.1, HA.out.2.2.1⟩ (fun hHeld => ?_)
     clear hK K; apply tm 11
     refine wpAnyH_done (by kernel_rfl) ?_ _
     clear hHeld
     refine ⟨rfl, vmk, alo, clo, rlo, ?_, Hlo.out, HRV.out, HBK.out, HW0.out⟩
     try simp only [Act.put, List.setIfInBounds_toArray, List.set_cons_zero, List.set_cons_succ]
     all_goals first | rfl | kernel_rfl
    refine AllReadyH.cons (o := _) rfl (fun K hK => ?_) ?_
    ·clear hHeld; go_simp
     obtain ⟨W14, hWn, hB, hNB⟩ := ahd2 W13 (.int .i64 0) (.slice none 0 0) 63
     have hbk : W1.heap.size ≤ W13.heap.size := HW0.out.size
     rw [hWn]; clear hWn
     obtain ⟨rlo, hnm⟩ : ∃ x, W13.heap.size = x := ⟨_, rfl⟩
     rw [hnm] at hNB hbk ⊢
     replace HV := HV.go hB; replace HA := HA.go hB; replace HW0 := cb hB HW0; replace Hmk := Hmk.go hB; have HRV := Lib.hid hNB; have HBK := Lib.hid hbk; clear hNB hB hnm hbk
     refine hK.out _ _ ⟨HA.out.2.1, HA.out.2.2.1⟩ (fun hHeld => ?_)
     clear hK K
     apply rdy 5; intro K hK; clear hHeld; go_simp
     refine (truth_yes t HTW.out _ vmk l (List.replicate m false) _ HV.out Hmk.out (by rw [List.length_replicate]; exact HM.out) HL.out).mono ?_
     rintro e W15 ⟨vlo, rfl, hlo, hB⟩
     replace HV := HV.go hB; replace HA := HA.go hB; replace HW0 := cb hB HW0; replace Hmk := Hmk.go hB; replace HRV := HRV.go hB
     rw [HLO.out] at hlo
     have Hlo := Lib.hid hlo
     obtain ⟨alo, clo, rfl, hclo⟩ := hlo.opened
     clear hlo hclo; clear hB
     refine hK.out _ _ ⟨HA.out.2.1, HA.out.2.2.1⟩ (fun hHeld => ?_)
     clear hK K; apply tm 6; apply tm 7; apply tm 8
     apply rdy 10; intro K hK; clear hHeld; have s0 := HRV.out.2.1; have t0 := HRV.out.2.2.2 0; have s1 := HRV.out.2.2.1; have t1 := HRV.out.2.2.2 1; go_simp; clear s0 t0 s1 t1
     obtain ⟨W16, hWn⟩ : ∃ xw9, (W15.setCell ⟨rlo, 0, none⟩ (.int .i64 lo.length)).setCell ⟨rlo, 1, none⟩ (.slice alo ((lo.length + 63) / 64) clo) = xw9 := ⟨_, rfl⟩
     rw [hWn]
     replace Hlo := Lib.hid (show IsBits W16 (.agg #[.int .i64 lo.length, .slice alo ((lo.length + 63) / 64) clo]) lo by rw [← hWn]; exact Hlo.out.set2 HRV.out _ _)
     replace HRV := Lib.hid (show At2 W16 rlo (.int .i64 lo.length) (.slice alo ((lo.length + 63) / 64) clo) by rw [← hWn]; exact at2_put HRV.out _ _)
     replace HW0 := Lib.hid (show Below W1.heap.size W1 W16 by rw [← hWn]; exact below_setc HW0.out HBK.out _ _)
     replace HA := Lib.hid (show At2 W16 w.heap.size (.int .i64 m) (.slice ao L cap) from HAS.out.below HW0.out)
     clear hWn
     refine hK.out _ _ ⟨HA.out.2.1, HA.out.2.2.1⟩ (fun hHeld => ?_)
     clear hK K; apply tm 11
     refine wpAnyH_done (by kernel_rfl) ?_ _
     clear hHeld
     refine ⟨rfl, vmk, alo, clo, rlo, ?_, Hlo.out, HRV.out, HBK.out, HW0.out⟩
     try simp only [Act.put, List.setIfInBounds_toArray, List.set_cons_zero, List.set_cons_succ]
     all_goals first | rfl | kernel_rfl
    exact AllReadyH.nil
   refine AllReadyH.cons (o := _) rfl (fun K hK => ?_) ?_
   ·clear hHeld; go_simp
    obtain ⟨W13, hWn, hB, hNB⟩ := ahd2 W12 (.int .i64 0) (.slice none 0 0) 63
    have hbk : W1.heap.size ≤ W12.heap.size := HW0.out.size
    rw [hWn]; clear hWn
    obtain ⟨rlo, hnm⟩ : ∃ x, W12.heap.size = x := ⟨_, rfl⟩
    rw [hnm] at hNB hbk ⊢
    replace HV := HV.go hB; replace HA := HA.go hB; replace HW0 := cb hB HW0; have HRV := Lib.hid hNB; have HBK := Lib.hid hbk; clear hNB hB hnm hbk
    refine hK.out _ _ ⟨HA.out.2.1, HA.out.2.2.1⟩ (fun hHeld => ?_)
    clear hK K
    apply rdy 4; intro K hK; clear hHeld; go_simp
    refine (make_calls _ false m HMK.out _).mono ?_
    rintro e W14 ⟨vmk, rfl, hmk, hB⟩
    replace HV := HV.go hB; replace HA := HA.go hB; replace HW0 := cb hB HW0; replace HRV := HRV.go hB; have Hmk := Lib.hid hmk; clear hmk; clear hB
    refine hK.out _ _ ⟨HA.out.2.1, HA.out.2.2.1⟩ (fun hHeld => ?_)
    clear hK K
    apply rdy 5; intro K hK; clear hHeld; go_simp
    refine (truth_yes t HTW.out _ vmk l (List.replicate m false) _ HV.out Hmk.out (by rw [List.length_replicate]; exact HM.out) HL.out).mono ?_
    rintro e W15 ⟨vlo, rfl, hlo, hB⟩
    replace HV := HV.go hB; replace HA := HA.go hB; replace HW0 := cb hB HW0; replace HRV := HRV.go hB; replace Hmk := Hmk.go hB
    rw [HLO.out] at hlo
    have Hlo := Lib.hid hlo
    obtain ⟨alo, clo, rfl, hclo⟩ := hlo.opened
    clear hlo hclo; clear hB
    refine hK.out _ _ ⟨HA.out.2.1, HA.out.2.2.1⟩ (fun hHeld => ?_)
    clear hK K; apply tm 6; apply tm 7; apply tm 8
    apply rdy 10; intro K hK; clear hHeld; have s0 := HRV.out.2.1; have t0 := HRV.out.2.2.2 0; have s1 := HRV.out.2.2.1; have t1 := HRV.out.2.2.2 1; go_simp; clear s0 t0 s1 t1
    obtain ⟨W16, hWn⟩ : ∃ xw9, (W15.setCell ⟨rlo, 0, none⟩ (.int .i64 lo.length)).setCell ⟨rlo, 1, none⟩ (.slice alo ((lo.length + 63) / 64) clo) = xw9 := ⟨_, rfl⟩
    rw [hWn]
    replace Hlo := Lib.hid (show IsBits W16 (.agg #[.int .i64 lo.length, .slice alo ((lo.length + 63) / 64) clo]) lo by rw [← hWn]; exact Hlo.out.set2 HRV.out _ _)
    replace HRV := Lib.hid (show At2 W16 rlo (.int .i64 lo.length) (.slice alo ((lo.length + 63) / 64) clo) by rw [← hWn]; exact at2_put HRV.out _ _)
    replace HW0 := Lib.hid (show Below W1.heap.size W1 W16 by rw [← hWn]; exact below_setc HW0.out HBK.out _ _)
    replace HA := Lib.hid (show At2 W16 w.heap.size (.int .i64 m) (.slice ao L cap) from HAS.out.below HW0.out)
    clear hWn
    refine hK.out _ _ ⟨HA.out.2.1, HA.out.2.2.1⟩ (fun hHeld => ?_)
    clear hK K; apply tm 11
    refine wpAnyH_done (by kernel_rfl) ?_ _
    clear hHeld
    refine ⟨rfl, vmk, alo, clo, rlo, ?_, Hlo.out, HRV.out, HBK.out, HW0.out⟩
    try simp only [Act.put, List.setIfInBounds_toArray, List.set_cons_zero, List.set_cons_succ]
    all_goals first | rfl | kernel_rfl
   exact AllReadyH.nil
  refine AllReadyH.cons (o := _) rfl (fun K hK => ?_) ?_
  ·clear hHeld; go_simp
   obtain ⟨W12, hWn, hB, hNB⟩ := ahd2 W11 (.int .i64 0) (.slice none 0 0) 63
   have hbk : W1.heap.size ≤ W11.heap.size := HW0.out.size
   rw [hWn]; clear hWn
   obtain ⟨rlo, hnm⟩ : ∃ x, W11.heap.size = x := ⟨_, rfl⟩
   rw [hnm] at hNB hbk ⊢
   replace HV := HV.go hB; replace HA := HA.go hB; replace HW0 := cb hB HW0; have HRV := Lib.hid hNB; have HBK := Lib.hid hbk; clear hNB hB hnm hbk
   refine hK.out _ _ ⟨HA.out.2.1, HA.out.2.2.1⟩ (fun hHeld => ?_)
   clear hK K
   apply rdy 3; intro K hK; clear hHeld; go_simp
   refine (len_calls _ l _ HV.out).mono ?_
   rintro e W13 ⟨rfl, hB⟩
   replace HV := HV.go hB; replace HA := HA.go hB; replace HW0 := cb hB HW0; replace HRV := HRV.go hB; rw [HM.out]; clear hB
   refine hK.out _ _ ⟨HA.out.2.1, HA.out.2.2.1⟩ (fun hHeld => ?_)
   clear hK K
   apply rdy 4; intro K hK; clear hHeld; go_simp
   refine (make_calls _ false m HMK.out _).mono ?_
   rintro e W14 ⟨vmk, rfl, hmk, hB⟩
   replace HV := HV.go hB; replace HA := HA.go hB; replace HW0 := cb hB HW0; replace HRV := HRV.go hB; have Hmk := Lib.hid hmk; clear hmk; clear hB
   refine hK.out _ _ ⟨HA.out.2.1, HA.out.2.2.1⟩ (fun hHeld => ?_)
   clear hK K
   apply rdy 5; intro K hK; clear hHeld; go_simp
   refine (truth_yes t HTW.out _ vmk l (List.replicate m false) _ HV.out Hmk.out (by rw [List.length_replicate]; exact HM.out) HL.out).mono ?_
   rintro e W15 ⟨vlo, rfl, hlo, hB⟩
   replace HV := HV.go hB; replace HA := HA.go hB; replace HW0 := cb hB HW0; replace HRV := HRV.go hB; replace Hmk := Hmk.go hB
   rw [HLO.out] at hlo
   have Hlo := Lib.hid hlo
   obtain ⟨alo, clo, rfl, hclo⟩ := hlo.opened
   clear hlo hclo; clear hB
   refine hK.out _ _ ⟨HA.out.2.1, HA.out.2.2.1⟩ (fun hHeld => ?_)
   clear hK K; apply tm 6; apply tm 7; apply tm 8
   apply rdy 10; intro K hK; clear hHeld; have s0 := HRV.out.2.1; have t0 := HRV.out.2.2.2 0; have s1 := HRV.out.2.2.1; have t1 := HRV.out.2.2.2 1; go_simp; clear s0 t0 s1 t1
   obtain ⟨W16, hWn⟩ : ∃ xw9, (W15.setCell ⟨rlo, 0, none⟩ (.int .i64 lo.length)).setCell ⟨rlo, 1, none⟩ (.slice alo ((lo.length + 63) / 64) clo) = xw9 := ⟨_, rfl⟩
   rw [hWn]
   replace Hlo := Lib.hid (show IsBits W16 (.agg #[.int .i64 lo.length, .slice alo ((lo.length + 63) / 64) clo]) lo by rw [← hWn]; exact Hlo.out.set2 HRV.out _ _)
   replace HRV := Lib.hid (show At2 W16 rlo (.int .i64 lo.length) (.slice alo ((lo.length + 63) / 64) clo) by rw [← hWn]; exact at2_put HRV.out _ _)
   replace HW0 := Lib.hid (show Below W1.heap.size W1 W16 by rw [← hWn]; exact below_setc HW0.out HBK.out _ _)
   replace HA := Lib.hid (show At2 W16 w.heap.size (.int .i64 m) (.slice ao L cap) from HAS.out.below HW0.out)
   clear hWn
   refine hK.out _ _ ⟨HA.out.2.1, HA.out.2.2.1⟩ (fun hHeld => ?_)
   clear hK K; apply tm 11
   refine wpAnyH_done (by kernel_rfl) ?_ _
   clear hHeld
   refine ⟨rfl, vmk, alo, clo, rlo, ?_, Hlo.out, HRV.out, HBK.out, HW0.out⟩
   try simp only [Act.put, List.setIfInBounds_toArray, List.set_cons_zero, List.set_cons_succ]
   all_goals first | rfl | kernel_rfl
  exact AllReadyH.nil
 rintro _ wmlo ⟨vmk, alo, clo, rlo, rfl, hlo, hAlo, hGlo, hB⟩
 have Hlo := Lib.hid hlo; have HVlo := Lib.hid hAlo; have HGlo := Lib.hid hGlo; clear hlo hAlo hGlo; replace HB := cb hB HB; replace HV := HV.go hB; replace HT := HT.go hB; replace HA := HA.go hB; replace HR := HR.go hB; clear hB
 simp only [Act.put, List.setIfInBounds_toArray, List.set_cons_zero, List.set_cons_succ]
 have cHA0 := HA.out.2.1; have cHA1 := HA.out.2.2.1; have cHR0 := HR.out.2.1; have cHVlo0 := HVlo.out.2.1; have cHVlo1 := HVlo.out.2.2.1
 go_wp2_with fail
 clear cHA0 cHA1 cHR0 cHVlo0 cHVlo1
 refine wp_mid (fun s0 s1 w' => ∃ (vmk : Value) (ahi : Option Addr) (chi rhi : Nat), s1 = (((((((((((s0.put (some 34) (.int .u8 (t : Int))).put (some 35) (.agg #[.int .i64 m, .slice ao L cap])).put (some 36) (.agg #[.int .i64 m, .slice ao L cap])).put (some 37) (.int .i64 (m : Int))).put (some 38) vmk).put (some 39) (.tuple #[(.agg #[.int .i64 hi.length, .slice ahi ((hi.length + 63) / 64) chi]), .bool true])).put (some 33) (.tuple #[(.agg #[.int .i64 hi.length, .slice ahi ((hi.length + 63) / 64) chi]), .bool true])).put (some 40) (.agg #[.int .i64 hi.length, .slice ahi ((hi.length + 63) / 64) chi])).put (some 41) (.bool true)).put (some 11) (.pointer (some ⟨rhi, 0, none⟩))).put (some 12) (.bool true)) ∧ IsBits w' (.agg #[.int .i64 hi.length, .slice ahi ((hi.length + 63) / 64) chi]) hi ∧ At2 w' rhi (.int .i64 hi.length) (.slice ahi ((hi.length + 63) / 64) chi) ∧ wmlo.heap.size ≤ rhi ∧ Below wmlo.heap.size wmlo w') ?_ ?_
 ·have HW0 := Lib.hid (Below.refl wmlo.heap.size wmlo)
  have HAS := HA
  obtain ⟨W11, hWD, hB⟩ := drwn wmlo
  replace HV := HV.go hB; replace HA := HA.go hB; replace HW0 := cb hB HW0; clear hB
  refine rgn (S := fun w' => w'.cell? ⟨w.heap.size, 0, none⟩ = some (.int .i64 m) ∧ w'.cell? ⟨w.heap.size, 1, none⟩ = some (.slice ao L cap)) hWD ⟨HA.out.2.1, HA.out.2.2.1⟩ (fun hHeld => ?_)
  clear hWD; apply tm 0; apply tm 1; apply tm 2
  refine wpAnyH_ready (rs := [3, 9]) (by kernel_rfl) (by simp) ?_
  refine AllReadyH.cons (o := _) rfl (fun K hK => ?_) ?_
  ·clear hHeld; go_simp
   refine (len_calls _ l _ HV.out).mono ?_
   rintro e W12 ⟨rfl, hB⟩
   replace HV := HV.go hB; replace HA := HA.go hB; replace HW0 := cb hB HW0; rw [HM.out]; clear hB
   refine hK.out _ _ ⟨HA.out.2.1, HA.out.2.2.1⟩ (fun hHeld => ?_)
   clear hK K
   refine wpAnyH_ready (rs := [4, 9]) (by kernel_rfl) (by simp) ?_
   refine AllReadyH.cons (o := _) rfl (fun K hK => ?_) ?_
   ·clear hHeld; go_simp
    refine (make_calls _ true m HMK.out _).mono ?_
    rintro e W13 ⟨vmk, rfl, hmk, hB⟩
    replace HV := HV.go hB; replace HA := HA.go hB; replace HW0 := cb hB HW0; have Hmk := Lib.hid hmk; clear hmk; clear hB
    refine hK.out _ _ ⟨HA.out.2.1, HA.out.2.2.1⟩ (fun hHeld => ?_)
    clear hK K
    refine wpAnyH_ready (rs := [5, 9]) (by kernel_rfl) (by simp) ?_
    refine AllReadyH.cons (o := _) rfl (fun K hK => ?_) ?_
    ·clear hHeld; go_simp
     refine (truth_yes t HTW.out _ vmk l (List.replicate m true) _ HV.out Hmk.out (by rw [List.length_replicate]; exact HM.out) HL.out).mono ?_
     rintro e W14 ⟨vhi, rfl, hhi, hB⟩
     replace HV := HV.go hB; replace HA := HA.go hB; replace HW0 := cb hB HW0; replace Hmk := Hmk.go hB
     rw [HHI.out] at hhi
     have Hhi := Lib.hid hhi
     obtain ⟨ahi, chi, rfl, hchi⟩ := hhi.opened
     clear hhi hchi; clear hB
     refine hK.out _ _ ⟨HA.out.2.1, HA.out.2.2.1⟩ (fun hHeld => ?_)
     clear hK K; apply tm 6; apply tm 7; apply tm 8
     apply rdy 9; intro K hK; clear hHeld; go_simp
     obtain ⟨W15, hWn, hB, hNB⟩ := ahd2 W14 (.int .i64 0) (.slice none 0 0) 63
     have hbk : wmlo.heap.size ≤ W14.heap.size := HW0.out.size
     rw [hWn]; clear hWn
     obtain ⟨rhi, hnm⟩ : ∃ x, W14.heap.size = x := ⟨_, rfl⟩
     rw [hnm] at hNB hbk ⊢
     replace HV := HV.go hB; replace HA := HA.go hB; replace HW0 := cb hB HW0; replace Hmk := Hmk.go hB; replace Hhi := Hhi.go hB; have HRV := Lib.hid hNB; have HBK := Lib.hid hbk; clear hNB hB hnm hbk
     refine hK.out _ _ ⟨HA.out.2.1, HA.out.2.2.1⟩ (fun hHeld => ?_)
     clear hK K
     apply rdy 10; intro K hK; clear hHeld; have s0 := HRV.out.2.1; have t0 := HRV.out.2.2.2 0; have s1 := HRV.out.2.2.1; have t1 := HRV.out.2.2.2 1; go_simp; clear s0 t0 s1 t1
     obtain ⟨W16, hWn⟩ : ∃ xw9, (W15.setCell ⟨rhi, 0, none⟩ (.int .i64 hi.length)).setCell ⟨rhi, 1, none⟩ (.slice ahi ((hi.length + 63) / 64) chi) = xw9 := ⟨_, rfl⟩
     rw [hWn]
     replace Hhi := Lib.hid (show IsBits W16 (.agg #[.int .i64 hi.length, .slice ahi ((hi.length + 63) / 64) chi]) hi by rw [← hWn]; exact Hhi.out.set2 HRV.out _ _)
     replace HRV := Lib.hid (show At2 W16 rhi (.int .i64 hi.length) (.slice ahi ((hi.length + 63) / 64) chi) by rw [← hWn]; exact at2_put HRV.out _ _)
     replace HW0 := Lib.hid (show Below wmlo.heap.size wmlo W16 by rw [← hWn]; exact below_setc HW0.out HBK.out _ _)
     replace HA := Lib.hid (show At2 W16 w.heap.size (.int .i64 m) (.slice ao L cap) from HAS.out.below HW0.out)
     clear hWn
     refine hK.out _ _ ⟨HA.out.2.1, HA.out.2.2.1⟩ (fun hHeld => ?_)
     clear hK K; apply tm 11
     refine wpAnyH_done (by kernel_rfl) ?_ _
     clear hHeld
     refine ⟨rfl, vmk, ahi, chi, rhi, ?_, Hhi.out, HRV.out, HBK.out, HW0.out⟩
     try simp only [Act.put, List.setIfInBounds_toArray, List.set_cons_zero, List.set_cons_succ]
     all_goals first | rfl | kernel_rfl
    refine AllReadyH.cons (o := _) rfl (fun K hK => ?_) ?_
    ·clear hHeld; go_simp
     obtain ⟨W14, hWn, hB, hNB⟩ := ahd2 W13 (.int .i64 0) (.slice none 0 0) 63
     have hbk : wmlo.heap.size ≤ W13.heap.size := HW0.out.size
     rw [hWn]; clear hWn
     obtain ⟨rhi, hnm⟩ : ∃ x, W13.heap.size = x := ⟨_, rfl⟩
     rw [hnm] at hNB hbk ⊢
     replace HV := HV.go hB; replace HA := HA.go hB; replace HW0 := cb hB HW0; replace Hmk := Hmk.go hB; have HRV := Lib.hid hNB; have HBK := Lib.hid hbk; clear hNB hB hnm hbk
     refine hK.out _ _ ⟨HA.out.2.1, HA.out.2.2.1⟩ (fun hHeld => ?_)
     clear hK K
     apply rdy 5; intro K hK; clear hHeld; go_simp
     refine (truth_yes t HTW.out _ vmk l (List.replicate m true) _ HV.out Hmk.out (by rw [List.length_replicate]; exact HM.out) HL.out).mono ?_
     rintro e W15 ⟨vhi, rfl, hhi, hB⟩
     replace HV := HV.go hB; replace HA := HA.go hB; replace HW0 := cb hB HW0; replace Hmk := Hmk.go hB; replace HRV := HRV.go hB
     rw [HHI.out] at hhi
     have Hhi := Lib.hid hhi
     obtain ⟨ahi, chi, rfl, hchi⟩ := hhi.opened
     clear hhi hchi; clear hB
     refine hK.out _ _ ⟨HA.out.2.1, HA.out.2.2.1⟩ (fun hHeld => ?_)
     clear hK K; apply tm 6; apply tm 7; apply tm 8
     apply rdy 10; intro K hK; clear hHeld; have s0 := HRV.out.2.1; have t0 := HRV.out.2.2.2 0; have s1 := HRV.out.2.2.1; have t1 := HRV.out.2.2.2 1; go_simp; clear s0 t0 s1 t1
     obtain ⟨W16, hWn⟩ : ∃ xw9, (W15.setCell ⟨rhi, 0, none⟩ (.int .i64 hi.length)).setCell ⟨rhi, 1, none⟩ (.slice ahi ((hi.length + 63) / 64) chi) = xw9 := ⟨_, rfl⟩
     rw [hWn]
     replace Hhi := Lib.hid (show IsBits W16 (.agg #[.int .i64 hi.length, .slice ahi ((hi.length + 63) / 64) chi]) hi by rw [← hWn]; exact Hhi.out.set2 HRV.out _ _)
     replace HRV := Lib.hid (show At2 W16 rhi (.int .i64 hi.length) (.slice ahi ((hi.length + 63) / 64) chi) by rw [← hWn]; exact at2_put HRV.out _ _)
     replace HW0 := Lib.hid (show Below wmlo.heap.size wmlo W16 by rw [← hWn]; exact below_setc HW0.out HBK.out _ _)
     replace HA := Lib.hid (show At2 W16 w.heap.size (.int .i64 m) (.slice ao L cap) from HAS.out.below HW0.out)
     clear hWn
     refine hK.out _ _ ⟨HA.out.2.1, HA.out.2.2.1⟩ (fun hHeld => ?_)
     clear hK K; apply tm 11
     refine wpAnyH_done (by kernel_rfl) ?_ _
     clear hHeld
     refine ⟨rfl, vmk, ahi, chi, rhi, ?_, Hhi.out, HRV.out, HBK.out, HW0.out⟩
     try simp only [Act.put, List.setIfInBounds_toArray, List.set_cons_zero, List.set_cons_succ]
     all_goals first | rfl | kernel_rfl
    exact AllReadyH.nil
   refine AllReadyH.cons (o := _) rfl (fun K hK => ?_) ?_
   ·clear hHeld; go_simp
    obtain ⟨W13, hWn, hB, hNB⟩ := ahd2 W12 (.int .i64 0) (.slice none 0 0) 63
    have hbk : wmlo.heap.size ≤ W12.heap.size := HW0.out.size
    rw [hWn]; clear hWn
    obtain ⟨rhi, hnm⟩ : ∃ x, W12.heap.size = x := ⟨_, rfl⟩
    rw [hnm] at hNB hbk ⊢
    replace HV := HV.go hB; replace HA := HA.go hB; replace HW0 := cb hB HW0; have HRV := Lib.hid hNB; have HBK := Lib.hid hbk; clear hNB hB hnm hbk
    refine hK.out _ _ ⟨HA.out.2.1, HA.out.2.2.1⟩ (fun hHeld => ?_)
    clear hK K
    apply rdy 4; intro K hK; clear hHeld; go_simp
    refine (make_calls _ true m HMK.out _).mono ?_
    rintro e W14 ⟨vmk, rfl, hmk, hB⟩
    replace HV := HV.go hB; replace HA := HA.go hB; replace HW0 := cb hB HW0; replace HRV := HRV.go hB; have Hmk := Lib.hid hmk; clear hmk; clear hB
    refine hK.out _ _ ⟨HA.out.2.1, HA.out.2.2.1⟩ (fun hHeld => ?_)
    clear hK K
    apply rdy 5; intro K hK; clear hHeld; go_simp
    refine (truth_yes t HTW.out _ vmk l (List.replicate m true) _ HV.out Hmk.out (by rw [List.length_replicate]; exact HM.out) HL.out).mono ?_
    rintro e W15 ⟨vhi, rfl, hhi, hB⟩
    replace HV := HV.go hB; replace HA := HA.go hB; replace HW0 := cb hB HW0; replace HRV := HRV.go hB; replace Hmk := Hmk.go hB
    rw [HHI.out] at hhi
    have Hhi := Lib.hid hhi
    obtain ⟨ahi, chi, rfl, hchi⟩ := hhi.opened
    clear hhi hchi; clear hB
    refine hK.out _ _ ⟨HA.out.2.1, HA.out.2.2.1⟩ (fun hHeld => ?_)
    clear hK K; apply tm 6; apply tm 7; apply tm 8
    apply rdy 10; intro K hK; clear hHeld; have s0 := HRV.out.2.1; have t0 := HRV.out.2.2.2 0; have s1 := HRV.out.2.2.1; have t1 := HRV.out.2.2.2 1; go_simp; clear s0 t0 s1 t1
    obtain ⟨W16, hWn⟩ : ∃ xw9, (W15.setCell ⟨rhi, 0, none⟩ (.int .i64 hi.length)).setCell ⟨rhi, 1, none⟩ (.slice ahi ((hi.length + 63) / 64) chi) = xw9 := ⟨_, rfl⟩
    rw [hWn]
    replace Hhi := Lib.hid (show IsBits W16 (.agg #[.int .i64 hi.length, .slice ahi ((hi.length + 63) / 64) chi]) hi by rw [← hWn]; exact Hhi.out.set2 HRV.out _ _)
    replace HRV := Lib.hid (show At2 W16 rhi (.int .i64 hi.length) (.slice ahi ((hi.length + 63) / 64) chi) by rw [← hWn]; exact at2_put HRV.out _ _)
    replace HW0 := Lib.hid (show Below wmlo.heap.size wmlo W16 by rw [← hWn]; exact below_setc HW0.out HBK.out _ _)
    replace HA := Lib.hid (show At2 W16 w.heap.size (.int .i64 m) (.slice ao L cap) from HAS.out.below HW0.out)
    clear hWn
    refine hK.out _ _ ⟨HA.out.2.1, HA.out.2.2.1⟩ (fun hHeld => ?_)
    clear hK K; apply tm 11
    refine wpAnyH_done (by kernel_rfl) ?_ _
    clear hHeld
    refine ⟨rfl, vmk, ahi, chi, rhi, ?_, Hhi.out, HRV.out, HBK.out, HW0.out⟩
    try simp only [Act.put, List.setIfInBounds_toArray, List.set_cons_zero, List.set_cons_succ]
    all_goals first | rfl | kernel_rfl
   exact AllReadyH.nil
  refine AllReadyH.cons (o := _) rfl (fun K hK => ?_) ?_
  ·clear hHeld; go_simp
   obtain ⟨W12, hWn, hB, hNB⟩ := ahd2 W11 (.int .i64 0) (.slice none 0 0) 63
   have hbk : wmlo.heap.size ≤ W11.heap.size := HW0.out.size
   rw [hWn]; clear hWn
   obtain ⟨rhi, hnm⟩ : ∃ x, W11.heap.size = x := ⟨_, rfl⟩
   rw [hnm] at hNB hbk ⊢
   replace HV := HV.go hB; replace HA := HA.go hB; replace HW0 := cb hB HW0; have HRV := Lib.hid hNB; have HBK := Lib.hid hbk; clear hNB hB hnm hbk
   refine hK.out _ _ ⟨HA.out.2.1, HA.out.2.2.1⟩ (fun hHeld => ?_)
   clear hK K
   apply rdy 3; intro K hK; clear hHeld; go_simp
   refine (len_calls _ l _ HV.out).mono ?_
   rintro e W13 ⟨rfl, hB⟩
   replace HV := HV.go hB; replace HA := HA.go hB; replace HW0 := cb hB HW0; replace HRV := HRV.go hB; rw [HM.out]; clear hB
   refine hK.out _ _ ⟨HA.out.2.1, HA.out.2.2.1⟩ (fun hHeld => ?_)
   clear hK K
   apply rdy 4; intro K hK; clear hHeld; go_simp
   refine (make_calls _ true m HMK.out _).mono ?_
   rintro e W14 ⟨vmk, rfl, hmk, hB⟩
   replace HV := HV.go hB; replace HA := HA.go hB; replace HW0 := cb hB HW0; replace HRV := HRV.go hB; have Hmk := Lib.hid hmk; clear hmk; clear hB
   refine hK.out _ _ ⟨HA.out.2.1, HA.out.2.2.1⟩ (fun hHeld => ?_)
   clear hK K
   apply rdy 5; intro K hK; clear hHeld; go_simp
   refine (truth_yes t HTW.out _ vmk l (List.replicate m true) _ HV.out Hmk.out (by rw [List.length_replicate]; exact HM.out) HL.out).mono ?_
   rintro e W15 ⟨vhi, rfl, hhi, hB⟩
   replace HV := HV.go hB; replace HA := HA.go hB; replace HW0 := cb hB HW0; replace HRV := HRV.go hB; replace Hmk := Hmk.go hB
   rw [HHI.out] at hhi
   have Hhi := Lib.hid hhi
   obtain ⟨ahi, chi, rfl, hchi⟩ := hhi.opened
   clear hhi hchi; clear hB
   refine hK.out _ _ ⟨HA.out.2.1, HA.out.2.2.1⟩ (fun hHeld => ?_)
   clear hK K; apply tm 6; apply tm 7; apply tm 8
   apply rdy 10; intro K hK; clear hHeld; have s0 := HRV.out.2.1; have t0 := HRV.out.2.2.2 0; have s1 := HRV.out.2.2.1; have t1 := HRV.out.2.2.2 1; go_simp; clear s0 t0 s1 t1
   obtain ⟨W16, hWn⟩ : ∃ xw9, (W15.setCell ⟨rhi, 0, none⟩ (.int .i64 hi.length)).setCell ⟨rhi, 1, none⟩ (.slice ahi ((hi.length + 63) / 64) chi) = xw9 := ⟨_, rfl⟩
   rw [hWn]
   replace Hhi := Lib.hid (show IsBits W16 (.agg #[.int .i64 hi.length, .slice ahi ((hi.length + 63) / 64) chi]) hi by rw [← hWn]; exact Hhi.out.set2 HRV.out _ _)
   replace HRV := Lib.hid (show At2 W16 rhi (.int .i64 hi.length) (.slice ahi ((hi.length + 63) / 64) chi) by rw [← hWn]; exact at2_put HRV.out _ _)
   replace HW0 := Lib.hid (show Below wmlo.heap.size wmlo W16 by rw [← hWn]; exact below_setc HW0.out HBK.out _ _)
   replace HA := Lib.hid (show At2 W16 w.heap.size (.int .i64 m) (.slice ao L cap) from HAS.out.below HW0.out)
   clear hWn
   refine hK.out _ _ ⟨HA.out.2.1, HA.out.2.2.1⟩ (fun hHeld => ?_)
   clear hK K; apply tm 11
   refine wpAnyH_done (by kernel_rfl) ?_ _
   clear hHeld
   refine ⟨rfl, vmk, ahi, chi, rhi, ?_, Hhi.out, HRV.out, HBK.out, HW0.out⟩
   try simp only [Act.put, List.setIfInBounds_toArray, List.set_cons_zero, List.set_cons_succ]
   all_goals first | rfl | kernel_rfl
  exact AllReadyH.nil
 rintro _ wmhi ⟨vmk, ahi, chi, rhi, rfl, hhi, hAhi, hGhi, hB⟩
 have Hhi := Lib.hid hhi; have HVhi := Lib.hid hAhi; have HGhi := Lib.hid hGhi; clear hhi hAhi hGhi; replace HB := cb hB HB; replace HV := HV.go hB; replace HT := HT.go hB; replace HA := HA.go hB; replace HR := HR.go hB; replace Hlo := Hlo.go hB; replace HVlo := HVlo.go hB; clear hB
 simp only [Act.put, List.setIfInBounds_toArray, List.set_cons_zero, List.set_cons_succ]
 have cHA0 := HA.out.2.1; have cHA1 := HA.out.2.2.1; have cHR0 := HR.out.2.1; have cHVlo0 := HVlo.out.2.1; have cHVlo1 := HVlo.out.2.2.1; have cHVhi0 := HVhi.out.2.1; have cHVhi1 := HVhi.out.2.2.1
 go_wp2_with fail
 refine (truth_yes 9 (by decide) _ _ lo hi _ Hlo.out Hhi.out (by rw [HLOM.out, HHIM.out]) (by rw [HLOM.out]; exact HMM.out)).mono ?_
 rintro e W11 ⟨vse, rfl, hse, hB⟩
 clear cHA0 cHA1 cHR0 cHVlo0 cHVlo1 cHVhi0 cHVhi1; replace HB := cb hB HB; replace HV := HV.go hB; replace HT := HT.go hB; replace HA := HA.go hB; replace HR := HR.go hB; replace Hlo := Hlo.go hB; replace HVlo := HVlo.go hB; replace Hhi := Hhi.go hB; replace HVhi := HVhi.go hB
 rw [HSE.out] at hse
 have Hse := Lib.hid hse
 obtain ⟨ase, cse, rfl, hcse⟩ := hse.opened
 clear hse hcse; clear hB
 obtain ⟨W12, hWn, hB, hNB⟩ := ahd2 W11 (.int .i64 se.length) (.slice ase ((se.length + 63) / 64) cse) 63
 replace HB := cb hB HB; replace HV := HV.go hB; replace HT := HT.go hB; replace HA := HA.go hB; replace HR := HR.go hB; replace Hlo := Hlo.go hB; replace HVlo := HVlo.go hB; replace Hhi := Hhi.go hB; replace HVhi := HVhi.go hB; replace Hse := Hse.go hB; have HVse := Lib.hid hNB; clear hNB hB; have cHA0 := HA.out.2.1; have cHA1 := HA.out.2.2.1; have cHR0 := HR.out.2.1; have cHVlo0 := HVlo.out.2.1
 have cHVlo1 := HVlo.out.2.2.1; have cHVhi0 := HVhi.out.2.1; have cHVhi1 := HVhi.out.2.2.1; have cHVse0 := HVse.out.2.1; have cHVse1 := HVse.out.2.2.1
 go_wp2_with fail
 clear hWn
 refine (truth_yes 4 (by decide) _ _ lo hi _ Hlo.out Hhi.out (by rw [HLOM.out, HHIM.out]) (by rw [HLOM.out]; exact HMM.out)).mono ?_
 rintro e W13 ⟨vfl, rfl, hfl, hB⟩
 clear cHA0 cHA1 cHR0 cHVlo0 cHVlo1 cHVhi0 cHVhi1 cHVse0 cHVse1; replace HB := cb hB HB; replace HV := HV.go hB; replace HT := HT.go hB; replace HA := HA.go hB; replace HR := HR.go hB; replace Hlo := Hlo.go hB; replace HVlo := HVlo.go hB; replace Hhi := Hhi.go hB; replace HVhi := HVhi.go hB; replace Hse := Hse.go hB; replace HVse := HVse.go hB
 rw [HFL.out] at hfl
 have Hfl := Lib.hid hfl
 obtain ⟨afl, cfl, rfl, hcfl⟩ := hfl.opened
 clear hfl hcfl; clear hB
 obtain ⟨W14, hWn, hB, hNB⟩ := ahd2 W13 (.int .i64 fl.length) (.slice afl ((fl.length + 63) / 64) cfl) 63
 replace HB := cb hB HB; replace HV := HV.go hB; replace HT := HT.go hB; replace HA := HA.go hB; replace HR := HR.go hB; replace Hlo := Hlo.go hB; replace HVlo := HVlo.go hB; replace Hhi := Hhi.go hB; replace HVhi := HVhi.go hB; replace Hse := Hse.go hB; replace HVse := HVse.go hB; replace Hfl := Hfl.go hB; have HVfl := Lib.hid hNB; clear hNB hB
 obtain ⟨D, hD⟩ : ∃ D, 2 * outer = D := ⟨_, rfl⟩
 have HD := Lib.hid hD; have hom := HOM.out
 have qD : IntKind.i64.wrap (2 * (outer : Int)) = (D : Int) := by rw [show 2 * (outer : Int) = ((D : Nat) : Int) by omega]; exact IntWalk.i64_in _ (by omega)
 have HDX := Lib.hid (show D ≤ maxLen by unfold maxLen; omega)
 have HDY := Lib.hid (show i0.bytes * D ≤ 281474976710656 by rw [HI0.out.2.2.2]; omega)
 obtain ⟨bk, hbk⟩ : ∃ bk, W14.heap.size = bk := ⟨_, rfl⟩
 have HBK := Lib.hid hbk; clear hD hom; have cHVfl0 := HVfl.out.2.1; have cHVfl1 := HVfl.out.2.2.1
 go_wp2_with ((with_reducible refine wpList_make_own _ rfl _ _ 124 rfl bk 25 i0 (.agg #[.nilIface]) 1 Tryz.underlying124 HI0.out.1 HI0.out.2.1 HI0.out.2.2.1 .i64 .i64 _ D rfl rfl rfl HDY.out HDX.out (Nat.le_of_eq HBK.out.symm) ?_))
 clear hWn hbk qD
 intro W2 hown hgr
 have HKW := Lib.hid (show Below W14.heap.size W14 W2 from (Below.refl _ _).grown hgr (Nat.le_refl _) (fun k hk => by cases hk))
 have HVR := Lib.hid (show VR bk 0 _ [] W2 from ⟨hown, fun p hp => by cases hp⟩)
 clear hown hgr; clear cHVfl0 cHVfl1
 have HB0 := HB
 have HV0 := HV
 have HT0 := HT
 have HA0 := HA
 have HR0 := HR
 have Hlo0 := Hlo
 have HVlo0 := HVlo
 have Hse0 := Hse
 have HVse0 := HVse
 have Hfl0 := Hfl
 have HVfl0 := HVfl
 clear HB HV HT HA HR Hlo HVlo Hse HVse Hfl HVfl
 go_wp2_with fail
 go_loopw [17, 58] (fun vz i wr => ∃ (o : Nat) (Z : List (Value × VV)), o ≤ outer ∧ i = .int .i64 o ∧ VR bk (2 * o) vz Z wr ∧ AllBits Z ∧ (Z.flatMap fun p => p.2.packed) = (upB t l outer n 1).take (o * n) ∧ Below W14.heap.size W14 wr) (fun _ i _ => outer - (intOf i).toNat)
 case atStart => exact ⟨0, [], by omega, rfl, HVR.out, (fun p hp => by cases hp), by simp, HKW.out⟩
 case round =>
  obtain ⟨o, Z, ho, rfl, hvr, hab, hfl, hbw⟩ := hrel
  clear HVR HKW
  have HB := Lib.hid (HB0.out.trans (hbw.mono HB0.out.size))
  have HV := Lib.hid (HV0.out.keep (keep_below hbw))
  have HT := HT0.go hbw
  have HA := Lib.hid (HA0.out.below hbw)
  have HR := Lib.hid (HR0.out.below hbw)
  have Hlo := Lib.hid (Hlo0.out.keep (keep_below hbw))
  have HVlo := Lib.hid (HVlo0.out.below hbw)
  have Hse := Lib.hid (Hse0.out.keep (keep_below hbw))
  have HVse := Lib.hid (HVse0.out.below hbw)
  have Hfl := Lib.hid (Hfl0.out.keep (keep_below hbw))
  have HVfl := Lib.hid (HVfl0.out.below hbw)
  have HVR := Lib.hid hvr; have HAB := Lib.hid hab; have HFF := Lib.hid hfl; have HKW := Lib.hid hbw; clear hvr hab hfl hbw
  by_cases hlt : o < outer
  ·have HLT := Lib.hid hlt
   obtain ⟨x, hx⟩ : ∃ x, o * n = x := ⟨_, rfl⟩
   obtain ⟨y, hy⟩ : ∃ y, (o + 1) * n = y := ⟨_, rfl⟩
   have hxy : x + n = y := by rw [← hx, ← hy, Nat.add_mul]; omega
   have hym : y ≤ m := by rw [← HM.out, HLL.out, ← hy]; exact Nat.mul_le_mul_right _ hlt
   obtain ⟨r, hr⟩ : ∃ r, (l.take y).drop x = r := ⟨_, rfl⟩
   have hrl : r.length = n := by rw [← hr, cut_len l (by omega) (by rw [HM.out]; exact hym)]; omega
   have HRL := Lib.hid hrl
   have HRG := Lib.hid (show lineG false l n 1 o 0 = r by rw [← hr, ← hx, ← hy]; exact (line_cut l HLL.out hlt).symm)
   have HRP := Lib.hid hr
   have HRS := Lib.hid (show (se.take y).drop x = r.map (settB t) by rw [← hr, ← HSX.out, List.map_drop, List.map_take])
   have HRF := Lib.hid (show (fl.take y).drop x = r.map (flipB t) by rw [← hr, ← HFX.out, List.map_drop, List.map_take])
   have HRO := Lib.hid (show (lo.take y).drop x = r.map (fun x => lowB t x) by
    rw [← hr, ← HLX.out, List.map_drop, List.map_take]; rfl)
   have HYS := Lib.hid (show y ≤ se.length by rw [HSEM.out]; exact hym)
   have HYF := Lib.hid (show y ≤ fl.length by rw [HFLM.out]; exact hym)
   have HYO := Lib.hid (show y ≤ lo.length by rw [HLOM.out]; exact hym)
   have HYL := Lib.hid (show y ≤ l.length by rw [HM.out]; exact hym)
   have HXX := Lib.hid hx; have HYY := Lib.hid hy
   obtain ⟨od, hod⟩ : ∃ od, oddL t r = od := ⟨_, rfl⟩
   have HOD := Lib.hid (show ((List.range (r.map (flipB t)).length).map fun k => pfx (sq (r.map (flipB t))) k) = od by rw [odd_pfx, hod])
   have HOL := Lib.hid (show od.length = n by rw [← hod, oddL_len, hrl])
   obtain ⟨F, hF⟩ : ∃ F, firstOf (r.map (settB t)) = F := ⟨_, rfl⟩
   have HF := Lib.hid hF
   have HFN := Lib.hid (show F ≤ n by
    rw [← hF]; unfold firstOf
    cases e : ((List.range (r.map (settB t)).length).filter (sq (r.map (settB t)))).head? with
    | none => simp [hrl]
    | some z =>
     have h9 := (List.mem_filter.1 (List.mem_of_mem_head? e)).1
     rw [List.length_map, hrl] at h9
     have := List.mem_range.1 h9
     simp; omega)
   have HRU := Lib.hid (rowU_settle t r hF)
   rw [hod, hrl] at HRU
   have HSL := Lib.hid (show (r.map (settB t)).length ≤ 1048576 by rw [List.length_map, hrl]; exact HNO.out)
   have HPL2 := Lib.hid (show (r.map (flipB t)).length = n by rw [List.length_map, hrl])
   have HLL2 := Lib.hid (show (r.map (fun x => lowB t x)).length ≤ 1048576 by rw [List.length_map, hrl]; exact HNO.out)
   obtain ⟨s1, hs1⟩ : ∃ s1, sqI (r.map fun x => lowB t x) (F : Int) = s1 := ⟨_, rfl⟩
   obtain ⟨s2, hs2⟩ : ∃ s2, sqI od (F : Int) = s2 := ⟨_, rfl⟩
   have HS1 := Lib.hid hs1; have HS2 := Lib.hid hs2
   rw [hs1, hs2] at HRU
   clear hx hy hxy hym hr hrl hod hF hs1 hs2; have cHVfl0 := HVfl.out.2.1; have cHVfl1 := HVfl.out.2.2.1
   go_wp2_with fail
   refine (scpiece_calls _ fl o n x y _ Hfl.out (by rw [HFLM.out]; exact HMM.out) HN.out HXX.out HYY.out HYF.out).mono ?_
   rintro e W15 ⟨vpf, rfl, hvpf, hB⟩
   clear cHVfl0 cHVfl1; replace HB := cb hB HB; replace HV := HV.go hB; replace HT := HT.go hB; replace HA := HA.go hB; replace HR := HR.go hB; replace Hlo := Hlo.go hB; replace HVlo := HVlo.go hB; replace Hse := Hse.go hB; replace HVse := HVse.go hB; replace Hfl := Hfl.go hB; replace HVfl := HVfl.go hB; replace HVR := HVR.go hB; replace HKW := cb hB HKW
   rw [HRF.out] at hvpf
   have Hvpf := Lib.hid hvpf; clear hvpf; clear hB; have cHVfl0 := HVfl.out.2.1; have cHVfl1 := HVfl.out.2.2.1
   go_wp2_with fail
   refine (scbefore_calls _ (r.map (flipB t)) n _ Hvpf.out HPL2.out HNO.out).mono ?_
   rintro e W16 ⟨vod, rfl, hod, hB⟩
   clear cHVfl0 cHVfl1; replace HB := cb hB HB; replace HV := HV.go hB; replace HT := HT.go hB; replace HA := HA.go hB; replace HR := HR.go hB; replace Hlo := Hlo.go hB; replace HVlo := HVlo.go hB; replace Hse := Hse.go hB; replace HVse := HVse.go hB; replace Hfl := Hfl.go hB; replace HVfl := HVfl.go hB; replace HVR := HVR.go hB; replace HKW := cb hB HKW; replace Hvpf := Hvpf.go hB
   rw [HOD.out] at hod
   obtain ⟨aod, cod, rfl, _⟩ := hod.opened
   have Hod := Lib.hid hod; clear hod; clear hB
   obtain ⟨W17, hWn, hB, hNB⟩ := ahd2 W16 (.int .i64 od.length) (.slice aod ((od.length + 63) / 64) cod) 63
   replace HB := cb hB HB; replace HV := HV.go hB; replace HT := HT.go hB; replace HA := HA.go hB; replace HR := HR.go hB; replace Hlo := Hlo.go hB; replace HVlo := HVlo.go hB; replace Hse := Hse.go hB; replace HVse := HVse.go hB; replace Hfl := Hfl.go hB; replace HVfl := HVfl.go hB; replace HVR := HVR.go hB; replace HKW := cb hB HKW; replace Hvpf := Hvpf.go hB; replace Hod := Hod.go hB; have HVod := Lib.hid hNB
   clear hNB hB
   obtain ⟨bo, hbo⟩ : ∃ bo, W16.heap.size = bo := ⟨_, rfl⟩
   rw [hbo] at HVod
   have cHVfl0 := HVfl.out.2.1; have cHVfl1 := HVfl.out.2.2.1; have cHVod0 := HVod.out.2.1; have cHVod1 := HVod.out.2.2.1
   go_wp2_with fail
   clear hWn hbo
   obtain ⟨fp, hfp⟩ : ∃ fp, List.zipWith (tab 6) r od = fp := ⟨_, rfl⟩
   have HFP := Lib.hid hfp
   have HFPL := Lib.hid (show fp.length = n by rw [← hfp]; exact tabs_len HRL.out HOL.out)
   rw [hfp] at HRU
   clear hfp; clear cHVfl0 cHVfl1 cHVod0 cHVod1
   refine wp_mid (fun s0 s1 w' => ∃ (vpp : Value) (afp : Option Addr) (cfp rfp : Nat), s1 = (((((((((((s0.put (some 67) (.agg #[.int .i64 m, .slice ao L cap])).put (some 68) (.int .i64 (o : Int))).put (some 69) (.int .i64 (n : Int))).put (some 70) vpp).put (some 71) (.agg #[.int .i64 od.length, .slice aod ((od.length + 63) / 64) cod])).put (some 72) (.tuple #[(.agg #[.int .i64 fp.length, .slice afp ((fp.length + 63) / 64) cfp]), .bool true])).put (some 66) (.tuple #[(.agg #[.int .i64 fp.length, .slice afp ((fp.length + 63) / 64) cfp]), .bool true])).put (some 73) (.agg #[.int .i64 fp.length, .slice afp ((fp.length + 63) / 64) cfp])).put (some 74) (.bool true)).put (some 20) (.pointer (some ⟨rfp, 0, none⟩))).put (some 21) (.bool true)) ∧ IsBits w' (.agg #[.int .i64 fp.length, .slice afp ((fp.length + 63) / 64) cfp]) fp ∧ At2 w' rfp (.int .i64 fp.length) (.slice afp ((fp.length + 63) / 64) cfp) ∧ W17.heap.size ≤ rfp ∧ Below W17.heap.size W17 w') ?_ ?_
   ·have HW0 := Lib.hid (Below.refl W17.heap.size W17)
    have HAS := HA
    have HVodS := HVod
    obtain ⟨W18, hWD, hB⟩ := drwn W17
    replace HV := HV.go hB; replace HA := HA.go hB; replace Hod := Hod.go hB; replace HVod := HVod.go hB; replace HW0 := cb hB HW0; clear hB
    refine rgn (S := fun w' => w'.cell? ⟨w.heap.size, 0, none⟩ = some (.int .i64 m) ∧ w'.cell? ⟨w.heap.size, 1, none⟩ = some (.slice ao L cap) ∧ w'.cell? ⟨bo, 0, none⟩ = some (.int .i64 od.length) ∧ w'.cell? ⟨bo, 1, none⟩ = some (.slice aod ((od.length + 63) / 64) cod)) hWD ⟨HA.out.2.1, HA.out.2.2.1, HVod.out.2.1, HVod.out.2.2.1⟩ (fun hHeld => ?_)
    clear hWD; apply tm 0; apply tm 1; apply tm 2; apply tm 4
    refine wpAnyH_ready (rs := [3, 9]) (by kernel_rfl) (by simp) ?_
    refine AllReadyH.cons (o := _) rfl (fun K hK => ?_) ?_
    ·clear hHeld; go_simp
     refine (scpiece_calls _ l o n x y _ HV.out HL.out HN.out HXX.out HYY.out HYL.out).mono ?_
     rintro e W19 ⟨vpp, rfl, hvpp, hB⟩
     replace HV := HV.go hB; replace HA := HA.go hB; replace Hod := Hod.go hB; replace HVod := HVod.go hB; replace HW0 := cb hB HW0
     rw [HRP.out] at hvpp
     have Hvpp := Lib.hid hvpp; clear hvpp; clear hB
     refine hK.out _ _ ⟨HA.out.2.1, HA.out.2.2.1, HVod.out.2.1, HVod.out.2.2.1⟩ (fun hHeld => ?_)
     clear hK K
     refine wpAnyH_ready (rs := [5, 9]) (by kernel_rfl) (by simp) ?_
     refine AllReadyH.cons (o := _) rfl (fun K hK => ?_) ?_
     ·clear hHeld; go_simp
      refine (truth_yes 6 (by decide) vpp _ r od _ Hvpp.out Hod.out (by rw [HRL.out, HOL.out]) (by rw [HRL.out]; exact HNO.out)).mono ?_
      rintro e W20 ⟨vfp, rfl, hfp, hB⟩
      replace HV := HV.go hB; replace HA := HA.go hB; replace Hod := Hod.go hB; replace HVod := HVod.go hB; replace HW0 := cb hB HW0; replace Hvpp := Hvpp.go hB
      rw [HFP.out] at hfp
      have Hfp := Lib.hid hfp
      obtain ⟨afp, cfp, rfl, hcfp⟩ := hfp.opened
      clear hfp hcfp; clear hB
      refine hK.out _ _ ⟨HA.out.2.1, HA.out.2.2.1, HVod.out.2.1, HVod.out.2.2.1⟩ (fun hHeld => ?_)
      clear hK K; apply tm 6; apply tm 7; apply tm 8
      apply rdy 9; intro K hK; clear hHeld; go_simp
      obtain ⟨W21, hWn, hB, hNB⟩ := ahd2 W20 (.int .i64 0) (.slice none 0 0) 63
      have hbk : W17.heap.size ≤ W20.heap.size := HW0.out.size
      rw [hWn]; clear hWn
      obtain ⟨rfp, hnm⟩ : ∃ x, W20.heap.size = x := ⟨_, rfl⟩
      rw [hnm] at hNB hbk ⊢
      replace HV := HV.go hB; replace HA := HA.go hB; replace Hod := Hod.go hB; replace HVod := HVod.go hB; replace HW0 := cb hB HW0; replace Hvpp := Hvpp.go hB; replace Hfp := Hfp.go hB; have HRV := Lib.hid hNB; have HBK := Lib.hid hbk; clear hNB hB hnm hbk
      refine hK.out _ _ ⟨HA.out.2.1, HA.out.2.2.1, HVod.out.2.1, HVod.out.2.2.1⟩ (fun hHeld => ?_)
      clear hK K
      apply rdy 10; intro K hK; clear hHeld; have s0 := HRV.out.2.1; have t0 := HRV.out.2.2.2 0; have s1 := HRV.out.2.2.1; have t1 := HRV.out.2.2.2 1; go_simp; clear s0 t0 s1 t1
      obtain ⟨W22, hWn⟩ : ∃ xw9, (W21.setCell ⟨rfp, 0, none⟩ (.int .i64 fp.length)).setCell ⟨rfp, 1, none⟩ (.slice afp ((fp.length + 63) / 64) cfp) = xw9 := ⟨_, rfl⟩
      rw [hWn]
      replace Hfp := Lib.hid (show IsBits W22 (.agg #[.int .i64 fp.length, .slice afp ((fp.length + 63) / 64) cfp]) fp by rw [← hWn]; exact Hfp.out.set2 HRV.out _ _)
      replace HRV := Lib.hid (show At2 W22 rfp (.int .i64 fp.length) (.slice afp ((fp.length + 63) / 64) cfp) by rw [← hWn]; exact at2_put HRV.out _ _)
      replace HW0 := Lib.hid (show Below W17.heap.size W17 W22 by rw [← hWn]; exact below_setc HW0.out HBK.out _ _)
      replace HA := Lib.hid (show At2 W22 w.heap.size (.int .i64 m) (.slice ao L cap) from HAS.out.below HW0.out)
      replace HVod := Lib.hid (show At2 W22 bo (.int .i64 od.length) (.slice aod ((od.length + 63) / 64) cod) from HVodS.out.below HW0.out)
      clear hWn
      refine hK.out _ _ ⟨HA.out.2.1, HA.out.2.2.1, HVod.out.2.1, HVod.out.2.2.1⟩ (fun hHeld => ?_)
      clear hK K; apply tm 11
      refine wpAnyH_done (by kernel_rfl) ?_ _
      clear hHeld
      refine ⟨rfl, vpp, afp, cfp, rfp, ?_, Hfp.out, HRV.out, HBK.out, HW0.out⟩
      try simp only [Act.put, List.setIfInBounds_toArray, List.set_cons_zero, List.set_cons_succ]
      all_goals first | rfl | kernel_rfl
     refine AllReadyH.cons (o := _) rfl (fun K hK => ?_) ?_
     ·clear hHeld; go_simp
      obtain ⟨W20, hWn, hB, hNB⟩ := ahd2 W19 (.int .i64 0) (.slice none 0 0) 63
      have hbk : W17.heap.size ≤ W19.heap.size := HW0.out.size
      rw [hWn]; clear hWn
      obtain ⟨rfp, hnm⟩ : ∃ x, W19.heap.size = x := ⟨_, rfl⟩
      rw [hnm] at hNB hbk ⊢
      replace HV := HV.go hB; replace HA := HA.go hB; replace Hod := Hod.go hB; replace HVod := HVod.go hB; replace HW0 := cb hB HW0; replace Hvpp := Hvpp.go hB; have HRV := Lib.hid hNB; have HBK := Lib.hid hbk; clear hNB hB hnm hbk
      refine hK.out _ _ ⟨HA.out.2.1, HA.out.2.2.1, HVod.out.2.1, HVod.out.2.2.1⟩ (fun hHeld => ?_)
      clear hK K
      apply rdy 5; intro K hK; clear hHeld; go_simp
      refine (truth_yes 6 (by decide) vpp _ r od _ Hvpp.out Hod.out (by rw [HRL.out, HOL.out]) (by rw [HRL.out]; exact HNO.out)).mono ?_
      rintro e W21 ⟨vfp, rfl, hfp, hB⟩
      replace HV := HV.go hB; replace HA := HA.go hB; replace Hod := Hod.go hB; replace HVod := HVod.go hB; replace HW0 := cb hB HW0; replace Hvpp := Hvpp.go hB; replace HRV := HRV.go hB
      rw [HFP.out] at hfp
      have Hfp := Lib.hid hfp
      obtain ⟨afp, cfp, rfl, hcfp⟩ := hfp.opened
      clear hfp hcfp; clear hB
      refine hK.out _ _ ⟨HA.out.2.1, HA.out.2.2.1, HVod.out.2.1, HVod.out.2.2.1⟩ (fun hHeld => ?_)
      clear hK K; apply tm 6; apply tm 7; apply tm 8
      apply rdy 10; intro K hK; clear hHeld; have s0 := HRV.out.2.1; have t0 := HRV.out.2.2.2 0; have s1 := HRV.out.2.2.1; have t1 := HRV.out.2.2.2 1; go_simp; clear s0 t0 s1 t1
      obtain ⟨W22, hWn⟩ : ∃ xw9, (W21.setCell ⟨rfp, 0, none⟩ (.int .i64 fp.length)).setCell ⟨rfp, 1, none⟩ (.slice afp ((fp.length + 63) / 64) cfp) = xw9 := ⟨_, rfl⟩
      rw [hWn]
      replace Hfp := Lib.hid (show IsBits W22 (.agg #[.int .i64 fp.length, .slice afp ((fp.length + 63) / 64) cfp]) fp by rw [← hWn]; exact Hfp.out.set2 HRV.out _ _)
      replace HRV := Lib.hid (show At2 W22 rfp (.int .i64 fp.length) (.slice afp ((fp.length + 63) / 64) cfp) by rw [← hWn]; exact at2_put HRV.out _ _)
      replace HW0 := Lib.hid (show Below W17.heap.size W17 W22 by rw [← hWn]; exact below_setc HW0.out HBK.out _ _)
      replace HA := Lib.hid (show At2 W22 w.heap.size (.int .i64 m) (.slice ao L cap) from HAS.out.below HW0.out)
      replace HVod := Lib.hid (show At2 W22 bo (.int .i64 od.length) (.slice aod ((od.length + 63) / 64) cod) from HVodS.out.below HW0.out)
      clear hWn
      refine hK.out _ _ ⟨HA.out.2.1, HA.out.2.2.1, HVod.out.2.1, HVod.out.2.2.1⟩ (fun hHeld => ?_)
      clear hK K; apply tm 11
      refine wpAnyH_done (by kernel_rfl) ?_ _
      clear hHeld
      refine ⟨rfl, vpp, afp, cfp, rfp, ?_, Hfp.out, HRV.out, HBK.out, HW0.out⟩
      try simp only [Act.put, List.setIfInBounds_toArray, List.set_cons_zero, List.set_cons_succ]
      all_goals first | rfl | kernel_rfl
     exact AllReadyH.nil
    refine AllReadyH.cons (o := _) rfl (fun K hK => ?_) ?_
    ·clear hHeld; go_simp
     obtain ⟨W19, hWn, hB, hNB⟩ := ahd2 W18 (.int .i64 0) (.slice none 0 0) 63
     have hbk : W17.heap.size ≤ W18.heap.size := HW0.out.size
     rw [hWn]; clear hWn
     obtain ⟨rfp, hnm⟩ : ∃ x, W18.heap.size = x := ⟨_, rfl⟩
     rw [hnm] at hNB hbk ⊢
     replace HV := HV.go hB; replace HA := HA.go hB; replace Hod := Hod.go hB; replace HVod := HVod.go hB; replace HW0 := cb hB HW0; have HRV := Lib.hid hNB; have HBK := Lib.hid hbk; clear hNB hB hnm hbk
     refine hK.out _ _ ⟨HA.out.2.1, HA.out.2.2.1, HVod.out.2.1, HVod.out.2.2.1⟩ (fun hHeld => ?_)
     clear hK K
     apply rdy 3; intro K hK; clear hHeld; go_simp
     refine (scpiece_calls _ l o n x y _ HV.out HL.out HN.out HXX.out HYY.out HYL.out).mono ?_
     rintro e W20 ⟨vpp, rfl, hvpp, hB⟩
     replace HV := HV.go hB; replace HA := HA.go hB; replace Hod := Hod.go hB; replace HVod := HVod.go hB; replace HW0 := cb hB HW0; replace HRV := HRV.go hB
     rw [HRP.out] at hvpp
     have Hvpp := Lib.hid hvpp; clear hvpp; clear hB
     refine hK.out _ _ ⟨HA.out.2.1, HA.out.2.2.1, HVod.out.2.1, HVod.out.2.2.1⟩ (fun hHeld => ?_)
     clear hK K
     apply rdy 5; intro K hK; clear hHeld; go_simp
     refine (truth_yes 6 (by decide) vpp _ r od _ Hvpp.out Hod.out (by rw [HRL.out, HOL.out]) (by rw [HRL.out]; exact HNO.out)).mono ?_
     rintro e W21 ⟨vfp, rfl, hfp, hB⟩
     replace HV := HV.go hB; replace HA := HA.go hB; replace Hod := Hod.go hB; replace HVod := HVod.go hB; replace HW0 := cb hB HW0; replace HRV := HRV.go hB; replace Hvpp := Hvpp.go hB
     rw [HFP.out] at hfp
     have Hfp := Lib.hid hfp
     obtain ⟨afp, cfp, rfl, hcfp⟩ := hfp.opened
     clear hfp hcfp; clear hB
     refine hK.out _ _ ⟨HA.out.2.1, HA.out.2.2.1, HVod.out.2.1, HVod.out.2.2.1⟩ (fun hHeld => ?_)
     clear hK K; apply tm 6; apply tm 7; apply tm 8
     apply rdy 10; intro K hK; clear hHeld; have s0 := HRV.out.2.1; have t0 := HRV.out.2.2.2 0; have s1 := HRV.out.2.2.1; have t1 := HRV.out.2.2.2 1; go_simp; clear s0 t0 s1 t1
     obtain ⟨W22, hWn⟩ : ∃ xw9, (W21.setCell ⟨rfp, 0, none⟩ (.int .i64 fp.length)).setCell ⟨rfp, 1, none⟩ (.slice afp ((fp.length + 63) / 64) cfp) = xw9 := ⟨_, rfl⟩
     rw [hWn]
     replace Hfp := Lib.hid (show IsBits W22 (.agg #[.int .i64 fp.length, .slice afp ((fp.length + 63) / 64) cfp]) fp by rw [← hWn]; exact Hfp.out.set2 HRV.out _ _)
     replace HRV := Lib.hid (show At2 W22 rfp (.int .i64 fp.length) (.slice afp ((fp.length + 63) / 64) cfp) by rw [← hWn]; exact at2_put HRV.out _ _)
     replace HW0 := Lib.hid (show Below W17.heap.size W17 W22 by rw [← hWn]; exact below_setc HW0.out HBK.out _ _)
     replace HA := Lib.hid (show At2 W22 w.heap.size (.int .i64 m) (.slice ao L cap) from HAS.out.below HW0.out)
     replace HVod := Lib.hid (show At2 W22 bo (.int .i64 od.length) (.slice aod ((od.length + 63) / 64) cod) from HVodS.out.below HW0.out)
     clear hWn
     refine hK.out _ _ ⟨HA.out.2.1, HA.out.2.2.1, HVod.out.2.1, HVod.out.2.2.1⟩ (fun hHeld => ?_)
     clear hK K; apply tm 11
     refine wpAnyH_done (by kernel_rfl) ?_ _
     clear hHeld
     refine ⟨rfl, vpp, afp, cfp, rfp, ?_, Hfp.out, HRV.out, HBK.out, HW0.out⟩
     try simp only [Act.put, List.setIfInBounds_toArray, List.set_cons_zero, List.set_cons_succ]
     all_goals first | rfl | kernel_rfl
    exact AllReadyH.nil
   rintro _ wmfp ⟨vpp, afp, cfp, rfp, rfl, hfp, hAfp, hGfp, hB⟩
   have Hfp := Lib.hid hfp; have HVfp := Lib.hid hAfp; have HGfp := Lib.hid hGfp; clear hfp hAfp hGfp; replace HB := cb hB HB; replace HV := HV.go hB; replace HT := HT.go hB; replace HA := HA.go hB; replace HR := HR.go hB; replace Hlo := Hlo.go hB; replace HVlo := HVlo.go hB; replace Hse := Hse.go hB; replace HVse := HVse.go hB; replace Hfl := Hfl.go hB; replace HVfl := HVfl.go hB; replace HVR := HVR.go hB
   replace HKW := cb hB HKW; replace Hvpf := Hvpf.go hB; replace Hod := Hod.go hB; replace HVod := HVod.go hB; clear hB
   simp only [Act.put, List.setIfInBounds_toArray, List.set_cons_zero, List.set_cons_succ]
   have cHVse0 := HVse.out.2.1; have cHVse1 := HVse.out.2.2.1
   go_wp2_with fail
   refine (scpiece_calls _ se o n x y _ Hse.out (by rw [HSEM.out]; exact HMM.out) HN.out HXX.out HYY.out HYS.out).mono ?_
   rintro e W18 ⟨vps, rfl, hvps, hB⟩
   clear cHVse0 cHVse1; replace HB := cb hB HB; replace HV := HV.go hB; replace HT := HT.go hB; replace HA := HA.go hB; replace HR := HR.go hB; replace Hlo := Hlo.go hB; replace HVlo := HVlo.go hB; replace Hse := Hse.go hB; replace HVse := HVse.go hB; replace Hfl := Hfl.go hB; replace HVfl := HVfl.go hB; replace HVR := HVR.go hB; replace HKW := cb hB HKW; replace Hvpf := Hvpf.go hB; replace Hod := Hod.go hB
   replace HVod := HVod.go hB; replace Hfp := Hfp.go hB; replace HVfp := HVfp.go hB
   rw [HRS.out] at hvps
   have Hvps := Lib.hid hvps; clear hvps; clear hB; have cHVse0 := HVse.out.2.1; have cHVse1 := HVse.out.2.2.1
   go_wp2_with fail
   refine (first_calls _ (r.map (settB t)) _ Hvps.out HSL.out HT.out).mono ?_
   rintro e W19 ⟨rfl, hB⟩
   clear cHVse0 cHVse1; replace HB := cb hB HB; replace HV := HV.go hB; replace HT := HT.go hB; replace HA := HA.go hB; replace HR := HR.go hB; replace Hlo := Hlo.go hB; replace HVlo := HVlo.go hB; replace Hse := Hse.go hB; replace HVse := HVse.go hB; replace Hfl := Hfl.go hB; replace HVfl := HVfl.go hB; replace HVR := HVR.go hB; replace HKW := cb hB HKW; replace Hvpf := Hvpf.go hB; replace Hod := Hod.go hB
   replace HVod := HVod.go hB; replace Hfp := Hfp.go hB; replace HVfp := HVfp.go hB; replace Hvps := Hvps.go hB; rw [HF.out]; clear hB; have cHVse0 := HVse.out.2.1; have cHVse1 := HVse.out.2.2.1
   go_wp2_with fail
   clear cHVse0 cHVse1
   obtain ⟨W20, hWD, hB⟩ := drwn W19
   replace HB := cb hB HB; replace HV := HV.go hB; replace HT := HT.go hB; replace HA := HA.go hB; replace HR := HR.go hB; replace Hlo := Hlo.go hB; replace HVlo := HVlo.go hB; replace Hse := Hse.go hB; replace HVse := HVse.go hB; replace Hfl := Hfl.go hB; replace HVfl := HVfl.go hB; replace HVR := HVR.go hB; replace HKW := cb hB HKW; replace Hvpf := Hvpf.go hB; replace Hod := Hod.go hB; replace HVod := HVod.go hB
   replace Hfp := Hfp.go hB; replace HVfp := HVfp.go hB; replace Hvps := Hvps.go hB; clear hB
   refine rgn (S := fun w' => w'.cell? ⟨rlo, 0, none⟩ = some (.int .i64 lo.length) ∧ w'.cell? ⟨rlo, 1, none⟩ = some (.slice alo ((lo.length + 63) / 64) clo) ∧ w'.cell? ⟨bo, 0, none⟩ = some (.int .i64 od.length) ∧ w'.cell? ⟨bo, 1, none⟩ = some (.slice aod ((od.length + 63) / 64) cod)) hWD ⟨HVlo.out.2.1, HVlo.out.2.2.1, HVod.out.2.1, HVod.out.2.2.1⟩ (fun hHeld => ?_)
   clear hWD; apply tk 0; apply tk 1; apply tk 2; apply tk 4; apply tk 6; apply tk 7
   apply rdy 3; intro K hK; clear hHeld; go_simp
   refine (scpiece_calls _ lo o n x y _ Hlo.out (by rw [HLOM.out]; exact HMM.out) HN.out HXX.out HYY.out HYO.out).mono ?_
   rintro e W21 ⟨vpl, rfl, hvpl, hB⟩
   replace HB := cb hB HB; replace HV := HV.go hB; replace HT := HT.go hB; replace HA := HA.go hB; replace HR := HR.go hB; replace Hlo := Hlo.go hB; replace HVlo := HVlo.go hB; replace Hse := Hse.go hB; replace HVse := HVse.go hB; replace Hfl := Hfl.go hB; replace HVfl := HVfl.go hB; replace HVR := HVR.go hB; replace HKW := cb hB HKW; replace Hvpf := Hvpf.go hB; replace Hod := Hod.go hB; replace HVod := HVod.go hB
   replace Hfp := Hfp.go hB; replace HVfp := HVfp.go hB; replace Hvps := Hvps.go hB
   rw [HRO.out] at hvpl
   have Hvpl := Lib.hid hvpl; clear hvpl; clear hB
   refine hK.out _ _ ⟨HVlo.out.2.1, HVlo.out.2.2.1, HVod.out.2.1, HVod.out.2.2.1⟩ (fun hHeld => ?_)
   clear hK K
   apply rdy 5; intro K hK; clear hHeld; go_simp
   refine (at_calls _ (r.map fun x => lowB t x) (F : Int) _ Hvpl.out HLL2.out).mono ?_
   rintro e W22 ⟨rfl, hB⟩
   replace HB := cb hB HB; replace HV := HV.go hB; replace HT := HT.go hB; replace HA := HA.go hB; replace HR := HR.go hB; replace Hlo := Hlo.go hB; replace HVlo := HVlo.go hB; replace Hse := Hse.go hB; replace HVse := HVse.go hB; replace Hfl := Hfl.go hB; replace HVfl := HVfl.go hB; replace HVR := HVR.go hB; replace HKW := cb hB HKW; replace Hvpf := Hvpf.go hB; replace Hod := Hod.go hB; replace HVod := HVod.go hB
   replace Hfp := Hfp.go hB; replace HVfp := HVfp.go hB; replace Hvps := Hvps.go hB; replace Hvpl := Hvpl.go hB; rw [HS1.out]; clear hB
   refine hK.out _ _ ⟨HVlo.out.2.1, HVlo.out.2.2.1, HVod.out.2.1, HVod.out.2.2.1⟩ (fun hHeld => ?_)
   clear hK K
   apply rdy 8; intro K hK; clear hHeld; go_simp
   refine (at_calls _ od (F : Int) _ Hod.out (by rw [HOL.out]; exact HNO.out)).mono ?_
   rintro e W23 ⟨rfl, hB⟩
   replace HB := cb hB HB; replace HV := HV.go hB; replace HT := HT.go hB; replace HA := HA.go hB; replace HR := HR.go hB; replace Hlo := Hlo.go hB; replace HVlo := HVlo.go hB; replace Hse := Hse.go hB; replace HVse := HVse.go hB; replace Hfl := Hfl.go hB; replace HVfl := HVfl.go hB; replace HVR := HVR.go hB; replace HKW := cb hB HKW; replace Hvpf := Hvpf.go hB; replace Hod := Hod.go hB; replace HVod := HVod.go hB
   replace Hfp := Hfp.go hB; replace HVfp := HVfp.go hB; replace Hvps := Hvps.go hB; replace Hvpl := Hvpl.go hB; rw [HS2.out]; clear hB
   refine hK.out _ _ ⟨HVlo.out.2.1, HVlo.out.2.2.1, HVod.out.2.1, HVod.out.2.2.1⟩ (fun hHeld => ?_)
   clear hK K; apply tk 9; apply tk 10
   refine wpAnyH_done (by kernel_rfl) ?_ _
   clear hHeld
   obtain ⟨sb, hsb⟩ : ∃ sb, (!(s1 == s2)) = sb := ⟨_, rfl⟩
   have hsb2 : (s1 != s2) = sb := hsb
   rw [hsb2] at HRU
   clear hsb2
   obtain ⟨y0, hy0⟩ : ∃ y0, min (F + 1) n = y0 := ⟨_, rfl⟩
   obtain ⟨m0, hm0⟩ : ∃ m0, n - (F + 1) = m0 := ⟨_, rfl⟩
   rw [hy0, hm0] at HRU
   have hfn := HFN.out; have hno := HNO.out
   have HY0 := Lib.hid (show min (max ((F : Int) + 1) 0) fp.length = (y0 : Int) by rw [HFPL.out]; omega)
   have HX0 := Lib.hid (show min (max (0 : Int) 0) fp.length = ((0 : Nat) : Int) by rw [HFPL.out]; omega)
   have HYP := Lib.hid (show 0 < y0 by have := HN.out; omega)
   have HM0 := Lib.hid (show min (max ((n : Int) - (F : Int) - 1) 0) 1048576 = (m0 : Int) by omega)
   have HYN := Lib.hid (show y0 ≤ 1048576 ∧ m0 ≤ 1048576 by omega)
   clear hy0 hm0; have cHVfp0 := HVfp.out.2.1; have cHVfp1 := HVfp.out.2.2.1
   go_wp2_with fail
   try rw [hsb]
   clear hsb; have hO := HVR.out
   refine (cut_fresh _ fp _ _ _ Hfp.out (by rw [HFPL.out]; exact HNO.out) 0 y0 HX0.out HY0.out HYP.out).mono ?_
   rintro e W24 ⟨vcu, rfl, hcu, hB⟩
   clear cHVfp0 cHVfp1; replace HB := cb hB HB; replace HV := HV.go hB; replace HT := HT.go hB; replace HA := HA.go hB; replace HR := HR.go hB; replace Hlo := Hlo.go hB; replace HVlo := HVlo.go hB; replace Hse := Hse.go hB; replace HVse := HVse.go hB; replace Hfl := Hfl.go hB; replace HVfl := HVfl.go hB; replace HVR := HVR.go hB; replace HKW := cb hB HKW; replace Hvpf := Hvpf.go hB; replace Hod := Hod.go hB
   replace HVod := HVod.go hB; replace Hfp := Hfp.go hB; replace HVfp := HVfp.go hB; replace Hvps := Hvps.go hB; replace Hvpl := Hvpl.go hB
   rw [List.drop_zero] at hcu
   have Hcu := Lib.hid (show IsBitsX W24 (fun b => u17.ownBlock ≠ some b) _ _ from hcu.keep (Kept.refl _ _) (fun b _ (h : W23.heap.size + 2 ≤ b) => hO.free (.inl (by omega))))
   clear hcu hO; clear hB; have cHVfp0 := HVfp.out.2.1; have cHVfp1 := HVfp.out.2.2.1
   go_wp2_with fail
   refine (vbits_ok _ (fp.take y0) _ Hcu.out (by rw [List.length_take]; have := HYN.out; omega)).mono ?_
   rintro e W25 ⟨u1, rfl, hu, hB⟩
   clear cHVfp0 cHVfp1; replace HB := cb hB HB; replace HV := HV.go hB; replace HT := HT.go hB; replace HA := HA.go hB; replace HR := HR.go hB; replace Hlo := Hlo.go hB; replace HVlo := HVlo.go hB; replace Hse := Hse.go hB; replace HVse := HVse.go hB; replace Hfl := Hfl.go hB; replace HVfl := HVfl.go hB; replace HVR := HVR.go hB; replace HKW := cb hB HKW; replace Hvpf := Hvpf.go hB; replace Hod := Hod.go hB
   replace HVod := HVod.go hB; replace Hfp := Hfp.go hB; replace HVfp := HVfp.go hB; replace Hvps := Hvps.go hB; replace Hvpl := Hvpl.go hB; replace Hcu := Hcu.go hB; have HU1 := Lib.hid hu
   have HO1 := Lib.hid (show u1.oneCell' = true from hu.one)
   clear hu; clear hB; have cHVfp0 := HVfp.out.2.1; have cHVfp1 := HVfp.out.2.2.1
   go_wp2_with fail
   have hO := HVR.out
   refine (make_fresh _ sb m0 HM0.out _).mono ?_
   rintro e W26 ⟨vmk2, rfl, hmk2, hB⟩
   clear cHVfp0 cHVfp1; replace HB := cb hB HB; replace HV := HV.go hB; replace HT := HT.go hB; replace HA := HA.go hB; replace HR := HR.go hB; replace Hlo := Hlo.go hB; replace HVlo := HVlo.go hB; replace Hse := Hse.go hB; replace HVse := HVse.go hB; replace Hfl := Hfl.go hB; replace HVfl := HVfl.go hB; replace HVR := HVR.go hB; replace HKW := cb hB HKW; replace Hvpf := Hvpf.go hB; replace Hod := Hod.go hB
   replace HVod := HVod.go hB; replace Hfp := Hfp.go hB; replace HVfp := HVfp.go hB; replace Hvps := Hvps.go hB; replace Hvpl := Hvpl.go hB; replace Hcu := Hcu.go hB; replace HU1 := HU1.go hB
   have Hmk := Lib.hid (show IsBitsX W26 (fun b => u17.ownBlock ≠ some b) _ _ from hmk2.keep (Kept.refl _ _) (fun b _ (h : W25.heap.size ≤ b) => hO.free (.inl h)))
   clear hmk2 hO; clear hB; have cHVfp0 := HVfp.out.2.1; have cHVfp1 := HVfp.out.2.2.1
   go_wp2_with fail
   refine (vbits_ok _ (List.replicate m0 sb) _ Hmk.out (by rw [List.length_replicate]; exact HYN.out.2)).mono ?_
   rintro e W27 ⟨u2, rfl, hu, hB⟩
   clear cHVfp0 cHVfp1; replace HB := cb hB HB; replace HV := HV.go hB; replace HT := HT.go hB; replace HA := HA.go hB; replace HR := HR.go hB; replace Hlo := Hlo.go hB; replace HVlo := HVlo.go hB; replace Hse := Hse.go hB; replace HVse := HVse.go hB; replace Hfl := Hfl.go hB; replace HVfl := HVfl.go hB; replace HVR := HVR.go hB; replace HKW := cb hB HKW; replace Hvpf := Hvpf.go hB; replace Hod := Hod.go hB
   replace HVod := HVod.go hB; replace Hfp := Hfp.go hB; replace HVfp := HVfp.go hB; replace Hvps := Hvps.go hB; replace Hvpl := Hvpl.go hB; replace Hcu := Hcu.go hB; replace HU1 := HU1.go hB; replace Hmk := Hmk.go hB; have HU2 := Lib.hid hu
   have HO2 := Lib.hid (show u2.oneCell' = true from hu.one)
   clear hu; clear hB
   have HQM := Lib.hid (show 2 * o + 2 ≤ 40000 by have := HOM.out; have := HLT.out; omega)
   have HM1 : Hid (2 * o + 2 ≤ maxLen) := Lib.hid (by have := HQM.out; unfold maxLen; omega)
   have HSW := Lib.hid (show bk ≤ W27.heap.size by have := HKW.out.size; have := HBK.out; omega)
   have hcu := cell_two_newS W27 u1 u2 25
   have cHVfp0 := HVfp.out.2.1; have cHVfp1 := HVfp.out.2.2.1
   go_wp2_with (at_builtin; refine wpList_append_blk _ rfl _ _ 124 rfl bk 25 i0 (.agg #[.nilIface]) 1 16 Tryz.underlying124 HI0.out.1 HI0.out.2.1 HI0.out.2.2.1 HI0.out.2.2.2 rfl (by decide) _ _ _ rfl (HVR.out.1.alloc _) ⟨W27.heap.size, 0, none⟩ 2 2 [u1, u2] rfl rfl hcu ?c2 HM1.out ?c4 ?c5 ?_)
   case c2 =>
    intro x hx
    simp at hx
    rcases hx with rfl | rfl
    ·exact HO1.out
    ·exact HO2.out
   case c4 => have := HQM.out; omega
   case c5 => have := HSW.out; simp <;> omega
   intro v' w3 hown' hgrow hblk
   clear hcu; clear cHVfp0 cHVfp1
   obtain ⟨wa, hwa⟩ : ∃ wa, W27.alloc (.cells #[u1, u2] 25) = wa := ⟨_, rfl⟩
   have hBa : Below W27.heap.size W27 wa := by rw [← hwa]; exact below_new _ _
   rw [hwa] at hgrow
   have hblk2 : ∀ j, v'.ownBlock = some j → u17.ownBlock = some j ∨ wa.heap.size ≤ j := fun j hj => by rw [← hwa]; simpa using hblk j hj
   have HVR4 := Lib.hid (show VR bk (2 * o + 2) v' (Z ++ [(u1, .bits (fp.take y0)), (u2, .bits (List.replicate m0 sb))]) w3 from (HVR.out.below hBa).snoc (Y := [(u1, .bits (fp.take y0)), (u2, .bits (List.replicate m0 sb))]) (fun p hp => by
    simp only [List.mem_cons, List.not_mem_nil, or_false] at hp
    rcases hp with rfl | rfl
    ·exact HU1.out.grow hBa
    ·exact HU2.out.grow hBa) (by simpa using hown') hgrow hblk2)
   have HKW4 := Lib.hid (show Below W14.heap.size W14 w3 from (HKW.out.trans (hBa.mono HKW.out.size)).grown hgrow (by have h1 := HKW.out.size; have h2 := hBa.size; omega) (fun j hj => by rw [HBK.out]; exact (World.ownsRow.lt HVR.out.1 j hj).1))
   have HAB4 := Lib.hid (show AllBits (Z ++ [(u1, VV.bits (fp.take y0)), (u2, VV.bits (List.replicate m0 sb))]) from fun p hp => by
    rcases List.mem_append.1 hp with h | h
    ·exact HAB.out p h
    ·simp only [List.mem_cons, List.not_mem_nil, or_false] at h
     rcases h with rfl | rfl <;> rfl)
   have HFF4 := Lib.hid (show ((Z ++ [(u1, VV.bits (fp.take y0)), (u2, VV.bits (List.replicate m0 sb))]).flatMap fun p => p.2.packed) = (upB t l outer n 1).take ((o + 1) * n) by
    rw [List.flatMap_append, HFF.out, ← upB_row t l HLT.out HN.out, HRG.out, HRU.out]
    simp [VV.packed])
   clear hown' hgrow hblk hblk2 hwa hBa
   have hom := HOM.out
   go_wp2
   go_roundw
   case rel => exact ⟨o + 1, _, by have := HLT.out; omega, by go_num, by rw [Nat.mul_add]; exact HVR4.out, HAB4.out, HFF4.out, HKW4.out⟩
   case measure => simp [intOf]; have := HLT.out; omega
  ·have hoo : o = outer := by omega
   have HFA := Lib.hid (show (Z.flatMap fun p => p.2.packed) = upB t l outer n 1 by
    rw [HFF.out, hoo]; exact List.take_of_length_le (by rw [upB_len, Nat.mul_one]; exact Nat.le_refl _))
   have HZL := Lib.hid (show Z.length ≤ 1000000 by rw [HVR.out.ends.2, hoo]; have := HOM.out; omega)
   have HPO := Lib.hid (show 0 < (Z.flatMap fun p => p.2.packed).length ∧ (Z.flatMap fun p => p.2.packed).length ≤ 1048576 by
    rw [HFA.out, upB_len, Nat.mul_one, ← HLL.out]; exact ⟨HPOS.out, HL.out⟩)
   have HZS := Lib.hid HVR.out.ends.1
   obtain ⟨a13, c13, rfl⟩ := owned_len HVR.out.1
   clear hoo; have cHR0 := HR.out.2.1; have zHR0 := HR.out.2.2 0
   go_wp2_with fail
   refine (scjoined_calls _ Z bk _ HZS.out HZL.out HAB.out HPO.out.1 HPO.out.2 HT.out).mono ?_
   rintro e W15 ⟨uq, rfl, huq, hB⟩
   clear cHR0 zHR0; replace HB := cb hB HB; replace HV := HV.go hB; replace HT := HT.go hB; replace HA := HA.go hB; replace HR := HR.go hB; replace Hlo := Hlo.go hB; replace HVlo := HVlo.go hB; replace Hse := Hse.go hB; replace HVse := HVse.go hB; replace Hfl := Hfl.go hB; replace HVfl := HVfl.go hB; replace HKW := cb hB HKW; replace HZS := HZS.go hB
   rw [HFA.out] at huq
   have HQ := Lib.hid huq; have hsq := huq.store; clear huq; clear hB; have cHR0 := HR.out.2.1; have zHR0 := HR.out.2.2 0
   go_wp2_with fail
   refine bodyPost_ret (v := .agg #[uq]) (by simp [results, Tryz.results68, go_sem, cHR0]) rfl ⟨uq, rfl, ?_, HB.out.setCell (Nat.le_succ _) _⟩
   exact HQ.out.bits_set HR.out.2.1 (.inl rfl) _
end Go.Proofs.YtbacchbcanlciaaGreatDoor

namespace Go.Proofs.YtbacchbcanlciaaGreatDoor
set_option maxRecDepth 100000
open Go.RowKit Fl
set_option linter.unusedVariables false

set_option maxHeartbeats 4000000 in
theorem scsized_calls (outer n inner : Nat) (w : World) (h : outer * n * inner ≤ 1048576) (hn : 0 < n) (hnm : n ≤ 1048576) (hom : outer ≤ 1048576) (him : inner ≤ 1048576) :
  Calls Tryz.prog 30 #[.int .i64 ((outer * n * inner : Nat) : Int), .int .i64 (outer : Int), .int .i64 (n : Int), .int .i64 (inner : Int)] w fun e w' => e = .returned (.bool true) ∧ w = w' := by
 by_cases h0 : outer = 0
 ·subst h0
  have e : 0 * n * inner = 0 := by rw [Nat.zero_mul, Nat.zero_mul]
  rw [e]
  go_enter Tryz.func30, Tryz.ntmps30
  go_wp2
  go_ret
  exact ⟨rfl, rfl⟩
 ·obtain ⟨C, hC⟩ : ∃ C, outer * n * inner = C := ⟨_, rfl⟩
  obtain ⟨D, hD⟩ : ∃ D, n * inner = D := ⟨_, rfl⟩
  have hCD : C = outer * D := by rw [← hC, ← hD, Nat.mul_assoc]
  have hDC : D ≤ C := by rw [hCD]; exact Nat.le_mul_of_pos_left _ (by omega)
  rw [hC] at h ⊢
  have o1 : ((outer : Int) == 0) = false := by rw [beq_eq_false_iff_ne]; omega
  have o2 : ((outer : Int) = 0) = False := eq_false (by omega)
  have o3 : (outer = 0) = False := eq_false h0
  have n3 : (n = 0) = False := eq_false (by omega)
  have n2 : ((n : Int) = 0) = False := eq_false (by omega)
  have d1 : (C : Int) / (outer : Int) = (D : Int) := by rw [hCD, Int.natCast_mul]; exact Int.mul_ediv_cancel_left _ (by omega)
  have d2 : (D : Int) / (n : Int) = (inner : Int) := by rw [← hD, Int.natCast_mul]; exact Int.mul_ediv_cancel_left _ (by omega)
  have m1 : (C : Int) % (outer : Int) = 0 := by rw [hCD, Int.natCast_mul]; exact Int.mul_emod_right _ _
  have m2 : (D : Int) % (n : Int) = 0 := by rw [← hD, Int.natCast_mul]; exact Int.mul_emod_right _ _
  have t1 : (C : Int).tdiv (outer : Int) = (D : Int) := by rw [Int.tdiv_eq_ediv_of_nonneg (by omega)]; exact d1
  have t2 : (D : Int).tdiv (n : Int) = (inner : Int) := by rw [Int.tdiv_eq_ediv_of_nonneg (by omega)]; exact d2
  have r1 : (C : Int).tmod (outer : Int) = 0 := by rw [Int.tmod_eq_emod_of_nonneg (by omega)]; exact m1
  have r2 : (D : Int).tmod (n : Int) = 0 := by rw [Int.tmod_eq_emod_of_nonneg (by omega)]; exact m2
  have w1 : IntKind.i64.wrap (D : Int) = (D : Int) := IntWalk.i64_in _ (by omega)
  have w2 : IntKind.i64.wrap (inner : Int) = (inner : Int) := IntWalk.i64_in _ (by omega)
  clear hC hD hCD hDC h0
  go_enter Tryz.func30, Tryz.ntmps30
  go_wp2
  go_ret
  exact ⟨rfl, rfl⟩

def TriedS (f : Int) (l : List Bool) (outer n inner : Nat) (w : World) (e : Ending) (w' : World) : Prop :=
 ∃ u r, e = .returned (.tuple #[.agg #[u], .bool r]) ∧ ((r = true ∧ ∃ t, Closed f t ∧ IsV w' (fun _ => True) u (.bits (upB t l outer n inner))) ∨ (r = false ∧ u = .nilIface)) ∧ Below w.heap.size w w'
end Go.Proofs.YtbacchbcanlciaaGreatDoor

namespace Go.Proofs.YtbacchbcanlciaaGreatDoor
set_option maxRecDepth 100000
open Go.RowKit Fl
set_option linter.unusedVariables false

set_option maxHeartbeats 16000000 in
theorem scnumbers_calls {ok : Nat → Prop} (f : Int) (v : Value) (l : List Nat) (outer n inner : Nat) (w : World) (hfk : fknown f = true) (hv : Slc w ok v l.length (f64s l)) (hl : l.length = outer * n * inner) (hlm : l.length ≤ 1048576) (hN : ∀ x ∈ l, Num x) (hn : 0 < n) (hnm : n ≤ 1048576) (him : inner ≤ 1048576) (hom : outer ≤ 1048576) (hT : TabAt w) :
  Calls Tryz.prog 35 #[.int .i64 f, v, .int .i64 (outer : Int), .int .i64 (n : Int), .int .i64 (inner : Int)] w fun e w' => ∃ u, e = .returned (.tuple #[.agg #[u], .int .i64 (errG (rowN f) (upRows l outer n inner))]) ∧ IsV w' (fun b => w.heap.size ≤ b) u (if errG (rowN f) (upRows l outer n inner) = 0 then sqL (outG (rowN f) (upRows l outer n inner)) else .none) ∧ Below w.heap.size w w' := by
 obtain ⟨P, hP⟩ : ∃ P, upRows l outer n inner = P := ⟨_, rfl⟩
 obtain ⟨E, hEE⟩ : ∃ E : Int, E = errG (rowN f) P := ⟨_, rfl⟩
 obtain ⟨R, hRR⟩ : ∃ R : VV, R = (if errG (rowN f) P = 0 then sqL (outG (rowN f) P) else .none) := ⟨_, rfl⟩
 rw [hP, ← hRR, ← hEE]
 have HFK := Lib.hid hfk; have HPE := Lib.hid hP; have HRR := Lib.hid hRR; have HEE := Lib.hid hEE; have HV := Lib.hid hv
 have HPN := Lib.hid (show ∀ r ∈ P, Num (rowN f r).1 by rw [← hP]; exact upRows_num hN)
 have HLL := Lib.hid (And.intro hl hlm)
 have HNM := Lib.hid hN; have HIM := Lib.hid him; have HNN := Lib.hid hnm; have HN0 := Lib.hid hn; have HOM := Lib.hid hom
 obtain ⟨N, hNe⟩ : ∃ N, l.length = N := ⟨_, rfl⟩
 have HNE := Lib.hid hNe
 have HNL := Lib.hid (show N ≤ 1048576 by omega)
 obtain ⟨ao, cap, rfl, _⟩ := hv.opened
 rw [hNe] at HV ⊢
 have hst := run_store_float
 obtain ⟨W1, hW1⟩ : ∃ W1, W1 = w.alloc (.cells #[.nilIface] 25) := ⟨_, rfl⟩
 have HB := Lib.hid (show Below w.heap.size w W1 by rw [hW1]; exact below_new _ _)
 have HR := Lib.hid (show At1 W1 w.heap.size .nilIface by rw [hW1]; exact At1.new w _ _)
 have HT := Lib.hid (show TabAt W1 from fun j hj => keep_below HB.out _ _ (hT j hj))
 have HWS := Lib.hid (show W1.heap.size = w.heap.size + 1 by rw [hW1]; simp)
 replace HV := Lib.hid (HV.out.below HB.out)
 obtain ⟨bk, hbk⟩ : ∃ bk, W1.heap.size = bk := ⟨_, rfl⟩
 have HBK := Lib.hid hbk
 have hmk := run_mkF1 N (by omega) W1
 obtain ⟨W0, hW0⟩ : ∃ W0, W0 = W1.alloc (.cells (zerosV (.float .f64 0) N) 42) := ⟨_, rfl⟩
 rw [hbk] at hmk
 have HO0 := Lib.hid (show W0.ownsRow bk 42 1 (.slice (some ⟨bk, 0, none⟩) N N) N (f64s (fillU f l outer n inner 0 0 0)) by
  rw [hW0, fillU_zero, ← hl, hNe]; unfold f64s; rw [List.map_replicate, ← hbk]; exact own_make1 _ _ _ (by omega) _ _ (Nat.le_refl _))
 have HK0 := Lib.hid (show Below W1.heap.size W1 W0 by rw [hW0]; exact below_new _ _)
 have hfold := hW1.symm
 have hfold2 := hW0.symm
 clear hW1 hT hv hl hlm hN hn hnm him hom hP hEE hRR hbk hfk hW0 hNe; have cHR0 := HR.out.2.1; have zHR0 := HR.out.2.2 0
 go_enter Tryz.func35, Tryz.ntmps35
 go_wp2_with fail
 clear hfold hfold2 hmk cHR0 zHR0
 go_loopw [26] (fun i wr => ∃ o : Nat, o ≤ outer ∧ i = .int .i64 o ∧ okU f l outer n inner o 0 0 ∧ wr.ownsRow bk 42 1 (.slice (some ⟨bk, 0, none⟩) N N) N (f64s (fillU f l outer n inner o 0 0)) ∧ Below W1.heap.size W1 wr) (fun i _ => outer - (intOf i).toNat)
 case atStart => exact ⟨0, by omega, rfl, okU_zero _ _ _ _ _, HO0.out, HK0.out⟩
 case round =>
  obtain ⟨o, ho, rfl, hok, hown, hB⟩ := hrel
  have HO := Lib.hid hown; have HK := Lib.hid hB; have HOK := Lib.hid hok; clear hown hB hok
  by_cases hlo : o < outer
  ·have HLO := Lib.hid hlo
   go_wp2_with fail
   go_loopw [30] (fun i wr => ∃ k : Nat, k ≤ inner ∧ i = .int .i64 k ∧ okU f l outer n inner o k 0 ∧ wr.ownsRow bk 42 1 (.slice (some ⟨bk, 0, none⟩) N N) N (f64s (fillU f l outer n inner o k 0)) ∧ Below W1.heap.size W1 wr) (fun i _ => inner - (intOf i).toNat)
   case atStart => exact ⟨0, by omega, rfl, HOK.out, HO.out, HK.out⟩
   case round =>
    obtain ⟨k, hk, rfl, hok, hown, hB⟩ := hrel
    have HO := Lib.hid hown; have HK := Lib.hid hB; have HOK := Lib.hid hok; clear hown hB hok
    by_cases hlk : k < inner
    ·have HLK := Lib.hid hlk
     have HVW := Lib.hid (HV.out.below HK.out)
     have HRW := Lib.hid (HR.out.below HK.out)
     have hlm := HNL.out; have hn0 := HN0.out
     obtain ⟨r, hr⟩ : ∃ r, lineG 0 l n inner o k = r := ⟨_, rfl⟩
     have HRE := Lib.hid hr
     have HRN := Lib.hid (show r.length = n by rw [← hr, lineG_len])
     have HRM := Lib.hid (show ∀ x ∈ r, Num x by rw [← hr]; exact lineG_num HNM.out)
     obtain ⟨X, hX⟩ : ∃ X, o * n = X := ⟨_, rfl⟩
     obtain ⟨Y, hY⟩ : ∃ Y, X * inner = Y := ⟨_, rfl⟩
     obtain ⟨Z, hZ⟩ : ∃ Z, Y + k = Z := ⟨_, rfl⟩
     have hpl := place_lt (o := o) (i := n - 1) (k := k) HLO.out (show n - 1 < n by omega) hlk
     rw [← HLL.out.1, HNE.out, hX, Nat.add_mul, hY] at hpl
     have hXm : X ≤ Y := by rw [← hY]; exact Nat.le_mul_of_pos_right _ (by omega)
     have hZl : Z < N := by omega
     have HIN := Lib.hid (show (n - 1) * inner < (l.drop Z).length by rw [List.length_drop, HNE.out]; omega)
     have HRD := Lib.hid (show ∀ i, i < n → r.getD i 0 = (l.drop Z).getD (i * inner) 0 from fun i hi => by
      rw [← hr, lineG_get 0 l n inner o k hi, hX, Nat.add_mul, hY]
      simp only [List.getD_eq_getElem?_getD, List.getElem?_drop]
      rw [show Y + i * inner + k = Z + i * inner by omega])
     have HZP := Lib.hid (show ∀ j, (o * n + j) * inner + k = Z + j * inner from fun j => by rw [hX, Nat.add_mul, hY]; omega)
     obtain ⟨E1, hE1⟩ : ∃ E1, errG (rowN f) (upsR r) = E1 := ⟨_, rfl⟩
     obtain ⟨b, off, cap', x9, e9, hx9, hc9⟩ := Slc.at_map (Value.float .f64) (l := l) (by rw [HNE.out]; exact HVW.out) Z (by rw [HNE.out]; exact hZl)
     rw [HNE.out] at e9
     cases e9
     have hcap := HVW.out.2
     obtain ⟨ao8, cap8, e8, hcap1, hcap2⟩ := hcap
     cases e8
     have hcz : (cap = Z) = False := eq_false (by omega)
     have HVD := Lib.hid (show Slc wr ok (.slice (some ⟨b, off + Z, none⟩) (N - Z) (cap - Z)) (l.drop Z).length (f64s (l.drop Z)) by
      have h9 := Slc.dropm (Value.float .f64) (s := l) (b := b) (off := off) (cap := cap) (by rw [HNE.out]; exact HVW.out) Z (by rw [HNE.out]; omega)
      rw [HNE.out] at h9; exact h9)
     have HDL := Lib.hid (show (l.drop Z).length ≤ 1048576 by rw [List.length_drop, HNE.out]; omega)
     have q1 : IntKind.i64.wrap ((o : Int) * (n : Int)) = (X : Int) := by rw [← Int.natCast_mul, hX]; exact IntWalk.i64_in _ (by omega)
     have q2 : IntKind.i64.wrap ((X : Int) * (inner : Int)) = (Y : Int) := by rw [← Int.natCast_mul, hY]; exact IntWalk.i64_in _ (by omega)
     have q3 : IntKind.i64.wrap ((Y : Int) + (k : Int)) = (Z : Int) := by rw [← Int.natCast_add, hZ]; exact IntWalk.i64_in _ (by omega)
     have HE1 := Lib.hid hE1; clear hr hX hY hZ hpl hXm hx9 hc9 hE1
     go_wp2_with fail
     refine (sctak_calls _ (l.drop Z) r n inner _ HVD.out HN0.out HNN.out HIM.out HDL.out HIN.out HRN.out HRD.out).mono ?_
     rintro e W7 ⟨v7, rfl, hv7, hB7⟩
     have HO7 := Lib.hid (owns_below HO.out hB7)
     have HK7 := Lib.hid (HK.out.trans (hB7.mono HK.out.size))
     have HV7 := Lib.hid (show Slc W7 (fun b => wr.heap.size ≤ b) v7 r.length (f64s r) by rw [HRN.out]; exact hv7)
     clear hB7 hv7
     go_wp2_with fail
     refine (scalong_calls f v7 r _ HV7.out (by rw [HRN.out]; exact HN0.out) (by rw [HRN.out]; exact HNN.out) HRM.out).mono ?_
     rintro e W8 ⟨v8, rfl, hv8, hB8⟩
     rw [HE1.out]
     rw [HE1.out, HRN.out] at hv8
     have HS8 := Lib.hid (show W1.heap.size ≤ W7.heap.size from HK7.out.size)
     have HO8 := Lib.hid (owns_below HO7.out hB8)
     have HK8 := Lib.hid (HK7.out.trans (hB8.mono HK7.out.size))
     have HSZ7 := Lib.hid (show bk < W7.heap.size from (own_lt HO7.out).1)
     have HV8 := Lib.hid hv8
     have HB8 := Lib.hid (HB.out.trans (HK8.out.mono HB.out.size))
     have HRW8 := Lib.hid (HR.out.below HK8.out)
     clear hB8 hv8; have cHR0 := HRW8.out.2.1; have zHR0 := HRW8.out.2.2 0
     by_cases h0 : E1 = 0
     ·obtain ⟨q, hq⟩ : ∃ q, outG (rowN f) (upsR r) = q := ⟨_, rfl⟩
      have HQL := Lib.hid (show q.length = n by rw [← hq, outG_len, upsR_len, HRN.out])
      have HQ := Lib.hid (show Slc W8 (fun b => b ≠ bk) v8 n (f64s q) by
       rw [← hq]
       exact (HV8.out h0).keep (Kept.refl _ _) (fun b _ (h : W7.heap.size ≤ b) => by have := HSZ7.out; omega))
      have HQG := Lib.hid (show ∀ j, j < n → rowN f (r.take (j + 1)) = (q.getD j 0, 0) from fun j hj => by
       have g1 := upsR_get (r := r) (k := j) (by rw [HRN.out]; exact hj)
       have g2 : (rowN f (r.take (j + 1))).2 = 0 := errG_zero (HE1.out.trans h0) _ (List.mem_of_getElem? g1)
       refine Prod.ext ?_ g2
       rw [← hq]; unfold outG
       rw [List.getD_eq_getElem?_getD, List.getElem?_map, g1]; rfl)
      obtain ⟨a8, c8, rfl, _⟩ := HQ.out.opened
      subst h0
      clear hq
      go_wp2_with fail
      clear cHR0 zHR0
      go_loopw [57] (fun i wr => ∃ j : Nat, j ≤ n ∧ i = .int .i64 j ∧ okU f l outer n inner o k j ∧ wr.ownsRow bk 42 1 (.slice (some ⟨bk, 0, none⟩) N N) N (f64s (fillU f l outer n inner o k j)) ∧ Below W1.heap.size W1 wr ∧ Slc wr (fun b => b ≠ bk) (.slice a8 n c8) n (f64s q)) (fun i _ => n - (intOf i).toNat)
      case atStart => exact ⟨0, by omega, rfl, HOK.out, HO8.out, HK8.out, HQ.out⟩
      case round =>
       obtain ⟨j, hj, rfl, hok, hown, hB, hrow⟩ := hrel
       have HO := Lib.hid hown; have HK := Lib.hid hB; have HOK := Lib.hid hok; have HQ := Lib.hid hrow; clear hown hB hok hrow; have hnm := HNN.out; have him := HIM.out
       by_cases hlj : j < n
       ·have HLJ := Lib.hid hlj
        obtain ⟨M, hM⟩ : ∃ M, j * inner = M := ⟨_, rfl⟩
        obtain ⟨D, hD⟩ : ∃ D, Z + M = D := ⟨_, rfl⟩
        have hDe : (o * n + j) * inner + k = D := by rw [HZP.out, hM, hD]
        have HDE := Lib.hid hDe
        have hpl := place_lt (o := o) (i := j) (k := k) HLO.out hlj HLK.out
        rw [hDe, ← HLL.out.1, HNE.out] at hpl
        have hnl := HNL.out
        have q4 : IntKind.i64.wrap ((j : Int) * (inner : Int)) = (M : Int) := by rw [← Int.natCast_mul, hM]; exact IntWalk.i64_in _ (by omega)
        have q5 : IntKind.i64.wrap ((Z : Int) + (M : Int)) = (D : Int) := by rw [← Int.natCast_add, hD]; exact IntWalk.i64_in _ (by omega)
        obtain ⟨b2, off2, cp2, y, e2, hy, hcy⟩ := Slc.at_map (Value.float .f64) (l := q) (by rw [HQL.out]; exact HQ.out) j (by rw [HQL.out]; exact hlj)
        rw [HQL.out] at e2
        obtain ⟨rfl, rfl⟩ : a8 = some ⟨b2, off2, none⟩ ∧ c8 = cp2 := by cases e2; exact ⟨rfl, rfl⟩
        have hyg : q.getD j 0 = y := by rw [List.getD_eq_getElem?_getD, hy]; rfl
        have HRY := Lib.hid (show rowN f ((lineG 0 l n inner o k).take (j + 1)) = (y, 0) by rw [HRE.out, HQG.out j hlj, hyg])
        have HOK2 := Lib.hid (okU_step HLK.out HLJ.out HOK.out (by rw [HRY.out]))
        have HFS := Lib.hid (show (fillU f l outer n inner o k j).set D y = fillU f l outer n inner o k (j + 1) by
         have h9 := fillU_set f l HLO.out HLK.out HLJ.out
         rw [HRY.out, hDe] at h9; exact h9)
        have hcw := owns_cell HO.out D (by unfold f64s; rw [List.length_map, fillU_len, ← HLL.out.1, HNE.out]; exact hpl)
        have hfr := World.ownsRow.frozenAt HO.out D
        have HBW := Lib.hid (show W1.heap.size ≤ bk from Nat.le_of_eq HBK.out)
        clear hM hD hDe hy hyg e2
        go_wp2
        go_roundw
        case rel =>
         refine ⟨j + 1, by omega, by go_num, HOK2.out, ?_, HK.out.setCell HBW.out _, HQ.out.keep (Kept.setCell _ _ _ (by simp)) (fun _ _ h => h)⟩
         have h9 := (World.ownsRow.stored HO.out D (.float .f64 y)).1
         rw [← HFS.out]
         unfold f64s at h9 ⊢
         rw [List.map_set]
         exact h9
        case measure => simp [intOf]; omega
       ·have hjn : j = n := by omega
        have HOK2 := Lib.hid (okU_row (hjn ▸ HOK.out))
        rw [hjn, fillU_row] at HO
        clear hjn
        go_wp2
        go_roundw
        case rel => exact ⟨k + 1, by omega, by go_num, HOK2.out, HO.out, HK.out⟩
        case measure => simp [intOf]; omega
     ·have HE2 := Lib.hid (show errG (rowN f) P = E1 by
       have hx : ∃ j, j < n ∧ (rowN f (r.take (j + 1))).2 ≠ 0 := by
        refine Classical.byContradiction fun h9 => h0 ?_
        rw [← HE1.out]
        refine errG_all fun y hy => ?_
        obtain ⟨j, hj, rfl⟩ := List.mem_map.1 hy
        have hj := List.mem_range.1 hj
        rw [HRN.out] at hj
        exact Classical.byContradiction fun h8 => h9 ⟨j, hj, h8⟩
       obtain ⟨j, hj, hb⟩ := hx
       have a1 := upRows_err HFK.out (l := l) (outer := outer) (n := n) (inner := inner) (List.mem_of_getElem? (upRows_get HLO.out hj HLK.out)) (by rw [HRE.out]; exact hb)
       rw [HPE.out, HRE.out] at a1
       have b1 := rowN_err HFK.out (r.take (j + 1))
       have c1 := errG_err (c := 24) (rowN_err HFK.out) (upsR r)
       rw [HE1.out] at c1
       rw [a1]; omega)
      have hne : (E1 != 0) = true := by simp [h0]
      have HNE0 := Lib.hid h0; clear h0
      go_wp2
      refine bodyPost_ret (v := .tuple #[.agg #[.nilIface], .int .i64 E1]) (by simp [results, Tryz.results35, go_sem, cHR0]) rfl ⟨.nilIface, ?_, ?_, HB8.out.setCell (Nat.le_refl _) _⟩
      ·rw [HEE.out, HE2.out]
      ·rw [HRR.out, HE2.out, if_neg HNE0.out]; exact .none
    ·have hki : k = inner := by omega
     have HOK2 := Lib.hid (okU_cell (hki ▸ HOK.out))
     rw [hki, fillU_cell] at HO
     clear hki; have hom := HOM.out
     go_wp2
     go_roundw
     case rel => exact ⟨o + 1, by omega, by go_num, HOK2.out, HO.out, HK.out⟩
     case measure => simp [intOf]; omega
  ·have hoo : o = outer := by omega
   rw [hoo] at HOK HO
   have HE2 := Lib.hid (show errG (rowN f) P = 0 by rw [← HPE.out]; exact okU_all HOK.out)
   obtain ⟨L, hL⟩ : ∃ L, outG (rowN f) P = L := ⟨_, rfl⟩
   have HLE := Lib.hid (show L.length = N by rw [← hL, outG_len, ← HPE.out, upRows_len, ← HLL.out.1, HNE.out])
   have HLN := Lib.hid (show ∀ x ∈ L, Num x by rw [← hL]; exact outG_num HPN.out)
   have HRE := Lib.hid (show R = sqL L by rw [HRR.out, if_pos HE2.out, hL])
   have HLS := Lib.hid (show Slc wr (fun b => bk ≤ b) (.slice (some ⟨bk, 0, none⟩) N N) L.length (f64s L) by
    have := Slc.owned HO.out
    rw [fillU_all, HPE.out, hL] at this
    rw [HLE.out]; exact this)
   have HLM := Lib.hid (show L.length ≤ 1048576 by rw [HLE.out]; exact HNL.out)
   clear hoo hL
   have HB2 := Lib.hid (HB.out.trans (HK.out.mono HB.out.size))
   have HRW := Lib.hid (HR.out.below HK.out)
   have HTW := Lib.hid (show TabAt wr from fun j hj => keep_below HK.out _ _ (HT.out j hj))
   have HSW := Lib.hid HK.out.size
   go_wp2_with fail
   refine (numbers_yes _ L _ HLS.out HLM.out (fun x hx => (HLN.out x hx).1) HTW.out).mono ?_
   rintro e W11 ⟨uq, rfl, huq, hB⟩
   replace HB2 := cb hB HB2; replace HRW := HRW.go hB
   rw [map_ze HLN.out] at huq
   have HQ := Lib.hid (show IsV W11 (fun b => w.heap.size + 1 ≤ b) uq (sqL L) from huq.wide (fun b _ (h : wr.heap.size ≤ b) => by have := HWS.out; have := HSW.out; omega))
   have hsq := huq.store; clear huq; clear hB
   obtain ⟨W12, hWn, hB, hNB⟩ := ahd1 W11 (uq) 25
   replace HB2 := cb hB HB2; replace HRW := HRW.go hB; replace HQ := HQ.go hB; have HQV := Lib.hid hNB; clear hNB hB; have cHRW0 := HRW.out.2.1; have zHRW0 := HRW.out.2.2 0; have cHQV0 := HQV.out.2.1
   go_wp2_with fail
   clear hWn
   refine bodyPost_ret (v := .tuple #[.agg #[uq], .int .i64 0]) (by simp [results, Tryz.results35, go_sem, cHRW0]) rfl ⟨uq, ?_, ?_, HB2.out.setCell (Nat.le_refl _) _⟩
   ·rw [HEE.out, HE2.out]
   ·rw [HRE.out]
    exact HQ.out.keep (Kept.setCell _ _ _ (by simp)) (fun b _ (h : w.heap.size + 1 ≤ b) => by omega)
end Go.Proofs.YtbacchbcanlciaaGreatDoor

namespace Go.Proofs.YtbacchbcanlciaaGreatDoor
set_option maxRecDepth 100000
open Go.RowKit Fl
set_option linter.unusedVariables false

end Go.Proofs.YtbacchbcanlciaaGreatDoor

namespace Go.Proofs.YtbacchbcanlciaaGreatDoor
set_option maxRecDepth 100000
open Go.RowKit Fl
set_option linter.unusedVariables false

set_option maxHeartbeats 16000000 in
theorem rsscan_calls {ok : Nat → Prop} (f : Int) (v : Value) (l : List Nat) (outer n inner : Nat) (w : World) (hv : Slc w ok v l.length (f64s l)) (hl : l.length = outer * n * inner) (hlm : l.length ≤ 1048576) (hN : ∀ x ∈ l, Num x) (hnm : n ≤ 1048576) (him : inner ≤ 1048576) (hom : outer ≤ 1048576) :
  Calls Tryz.prog 10 #[.int .i64 f, v, .int .i64 (outer : Int), .int .i64 (n : Int), .int .i64 (inner : Int)] w fun e w' => ∃ v', e = .returned (.tuple #[v', .int .i64 (rsE f l outer n inner)]) ∧ Slc w' (fun b => w.heap.size ≤ b) v' (rsL f l outer n inner).length (f64s (rsL f l outer n inner)) ∧ Below w.heap.size w w' := by
 obtain ⟨E, hEE⟩ : ∃ E : Int, E = rsE f l outer n inner := ⟨_, rfl⟩
 obtain ⟨R, hRR⟩ : ∃ R, R = rsL f l outer n inner := ⟨_, rfl⟩
 rw [← hRR, ← hEE]
 have HRR := Lib.hid hRR; have HEE := Lib.hid hEE; have HV := Lib.hid hv
 have HLL := Lib.hid (And.intro hl hlm)
 have HNM := Lib.hid hN; clear hRR hEE
 obtain ⟨ao, cap, rfl, _⟩ := hv.opened
 have hst := run_store_float
 by_cases hk : fknown f = true
 rotate_left
 ·have HK := Lib.hid (show fknown f = false by simpa using hk)
  have HE0 := Lib.hid (rsE_1 (l := l) (outer := outer) (n := n) (inner := inner) HK.out)
  have HR0 := Lib.hid (show R = [] by rw [HRR.out]; exact rsL_bad (by rw [HE0.out]; decide))
  clear hv hl hlm hN hk
  go_enter Tryz.func10, Tryz.ntmps10
  go_wp2_with ((with_reducible refine (rfknown_calls _ _).mono ?_); rintro e w' ⟨rfl, rfl⟩; rw [HK.out])
  go_ret2
  refine ⟨.slice none 0 0, ?_, ?_, Below.refl _ _⟩
  ·(rw [HEE.out, HE0.out]) <;> rfl
  ·rw [HR0.out]; exact Slc.nil _ _
 have HK := Lib.hid hk
 have HE1 := Lib.hid (rsE_yes (l := l) (outer := outer) (n := n) (inner := inner) hk)
 have h1 : ¬ (outer : Int) < 0 := by omega
 have h2 : ¬ (n : Int) < 0 := by omega
 have h3 : ¬ (inner : Int) < 0 := by omega
 have HIM := Lib.hid him; have HNN := Lib.hid hnm; have HOM := Lib.hid hom
 obtain ⟨N, hNe⟩ : ∃ N, l.length = N := ⟨_, rfl⟩
 have HNE := Lib.hid hNe
 have HNL := Lib.hid (show N ≤ 1048576 by omega)
 rw [hNe] at HV ⊢
 have hmk := run_mkF1 N (by omega) w
 obtain ⟨W0, hW0⟩ : ∃ W0, W0 = w.alloc (.cells (zerosV (.float .f64 0) N) 42) := ⟨_, rfl⟩
 have HO0 := Lib.hid (show W0.ownsRow w.heap.size 42 1 (.slice (some ⟨w.heap.size, 0, none⟩) N N) N (f64s (fillU f l outer n inner 0 0 0)) by
  rw [hW0, fillU_zero, ← hl, hNe]; unfold f64s; rw [List.map_replicate]; exact own_make1 _ _ _ (by omega) _ _ (Nat.le_refl _))
 have HS0 := Lib.hid (show w.heap.size < W0.heap.size by rw [hW0]; simp)
 have HW := Lib.hid (show Below w.heap.size w W0 by rw [hW0]; exact below_new _ _)
 have hfold := hW0.symm
 clear hv hl hlm hN hk hW0 hNe
 go_enter Tryz.func10, Tryz.ntmps10
 go_wp2_with ((with_reducible refine (rfknown_calls _ _).mono ?_); rintro e w' ⟨rfl, rfl⟩; rw [HK.out])
 clear hfold hmk
 go_loopw [13] (fun i wr => ∃ o : Nat, o ≤ outer ∧ i = .int .i64 o ∧ okU f l outer n inner o 0 0 ∧ wr.ownsRow w.heap.size 42 1 (.slice (some ⟨w.heap.size, 0, none⟩) N N) N (f64s (fillU f l outer n inner o 0 0)) ∧ w.heap.size < wr.heap.size ∧ Below w.heap.size w wr) (fun i _ => outer - (intOf i).toNat)
 case atStart => exact ⟨0, by omega, rfl, okU_zero _ _ _ _ _, HO0.out, HS0.out, HW.out⟩
 case round =>
  obtain ⟨o, ho, rfl, hok, hown, hsz, hB⟩ := hrel
  have HO := Lib.hid hown; have HB := Lib.hid hB; have HOK := Lib.hid hok; have HSZ := Lib.hid hsz; clear hown hB hok hsz
  by_cases hlo : o < outer
  ·have HLO := Lib.hid hlo
   go_wp2_with fail
   go_loopw [14] (fun i wr => ∃ k : Nat, k ≤ inner ∧ i = .int .i64 k ∧ okU f l outer n inner o k 0 ∧ wr.ownsRow w.heap.size 42 1 (.slice (some ⟨w.heap.size, 0, none⟩) N N) N (f64s (fillU f l outer n inner o k 0)) ∧ w.heap.size < wr.heap.size ∧ Below w.heap.size w wr) (fun i _ => inner - (intOf i).toNat)
   case atStart => exact ⟨0, by omega, rfl, HOK.out, HO.out, HSZ.out, HB.out⟩
   case round =>
    obtain ⟨k, hk, rfl, hok, hown, hsz, hB⟩ := hrel
    have HO := Lib.hid hown; have HB := Lib.hid hB; have HOK := Lib.hid hok; have HSZ := Lib.hid hsz; clear hown hB hok hsz
    by_cases hlk : k < inner
    ·have HLK := Lib.hid hlk
     have HVW := Lib.hid (HV.out.below HB.out)
     obtain ⟨r, hr⟩ : ∃ r, lineG 0 l n inner o k = r := ⟨_, rfl⟩
     have HRE := Lib.hid hr
     have HRN := Lib.hid (show r.length = n by rw [← hr, lineG_len])
     have HRM := Lib.hid (show ∀ x ∈ r, Num x by rw [← hr]; exact lineG_num HNM.out)
     clear hr
     go_wp2_with fail
     refine (rfline_calls _ l outer n inner o k _ (by rw [HNE.out]; exact HVW.out) HLL.out.1 HLL.out.2 HLO.out HLK.out HNN.out HIM.out HOM.out).mono ?_
     rintro e W8 ⟨v8, rfl, hv8, hB8⟩
     rw [HRE.out] at hv8
     have HV8 := Lib.hid (show Slc W8 (fun b => b ≠ w.heap.size) v8 n (f64s r) from hv8.keep (Kept.refl _ _) (fun b _ (h : wr.heap.size ≤ b) => by have := HSZ.out; omega))
     have HSZ8 := Lib.hid (show w.heap.size < W8.heap.size by have := HSZ.out; have := hB8.size; omega)
     have HO8 := Lib.hid (owns_below HO.out hB8)
     have HB8 := Lib.hid (HB.out.trans (hB8.mono HB.out.size))
     clear hB8 hv8
     obtain ⟨ar, cr, rfl, _⟩ := HV8.out.opened
     go_wp2_with fail
     go_loopw [16] (fun i wr => ∃ j : Nat, j ≤ n ∧ i = .int .i64 j ∧ okU f l outer n inner o k j ∧ wr.ownsRow w.heap.size 42 1 (.slice (some ⟨w.heap.size, 0, none⟩) N N) N (f64s (fillU f l outer n inner o k j)) ∧ w.heap.size < wr.heap.size ∧ Below w.heap.size w wr ∧ Slc wr (fun b => b ≠ w.heap.size) (.slice ar n cr) n (f64s r)) (fun i _ => n - (intOf i).toNat)
     case atStart => exact ⟨0, by omega, rfl, HOK.out, HO8.out, HSZ8.out, HB8.out, HV8.out⟩
     case round =>
      obtain ⟨j, hj, rfl, hok, hown, hsz, hB, hrow⟩ := hrel
      have HO := Lib.hid hown; have HB := Lib.hid hB; have HOK := Lib.hid hok; have HSZ := Lib.hid hsz; have HVR := Lib.hid hrow; clear hown hB hok hsz hrow; have hnm := HNN.out
      by_cases hlj : j < n
      ·obtain ⟨y, hy⟩ : ∃ y, rowN f (r.take (j + 1)) = y := ⟨_, rfl⟩
       have HY := Lib.hid hy
       obtain ⟨rt, hrt⟩ : ∃ rt, r.take (j + 1) = rt := ⟨_, rfl⟩
       have HRT := Lib.hid (show rt.length = j + 1 by rw [← hrt, List.length_take, HRN.out]; omega)
       have HVT := Lib.hid (show Slc wr (fun b => b ≠ w.heap.size) (.slice ar (j + 1) cr) rt.length (f64s rt) by
        have h9 := Slc.takem (Value.float .f64) (s := r) (ao := ar) (cap := cr) (by rw [HRN.out]; exact HVR.out) (j + 1) (by rw [HRN.out]; omega)
        rw [hrt] at h9; exact h9)
       have HTM := Lib.hid (show ∀ x ∈ rt, Num x by rw [← hrt]; exact fun x hx => HRM.out x (List.mem_of_mem_take hx))
       rw [hrt] at hy HY
       have HYL := Lib.hid (show rowN f ((lineG 0 l n inner o k).take (j + 1)) = y by rw [HRE.out, hrt]; exact hy)
       obtain ⟨X, hX⟩ : ∃ X, o * n = X := ⟨_, rfl⟩
       obtain ⟨Y, hY⟩ : ∃ Y, X + j = Y := ⟨_, rfl⟩
       obtain ⟨Z, hZ⟩ : ∃ Z, Y * inner = Z := ⟨_, rfl⟩
       obtain ⟨D, hD⟩ : ∃ D, Z + k = D := ⟨_, rfl⟩
       have hpl := place_lt (o := o) (i := j) (k := k) HLO.out hlj HLK.out
       rw [hX, hY, hZ, hD, ← HLL.out.1, HNE.out] at hpl
       have hnl := HNL.out
       have hYZ : Y ≤ Z := by rw [← hZ]; exact Nat.le_mul_of_pos_right _ (by have := HLK.out; omega)
       have q1 : IntKind.i64.wrap ((o : Int) * (n : Int)) = (X : Int) := by rw [← Int.natCast_mul, hX]; exact IntWalk.i64_in _ (by omega)
       have q2 : IntKind.i64.wrap ((X : Int) + (j : Int)) = (Y : Int) := by rw [← Int.natCast_add, hY]; exact IntWalk.i64_in _ (by omega)
       have q3 : IntKind.i64.wrap ((Y : Int) * (inner : Int)) = (Z : Int) := by rw [← Int.natCast_mul, hZ]; exact IntWalk.i64_in _ (by omega)
       have q4 : IntKind.i64.wrap ((Z : Int) + (k : Int)) = (D : Int) := by rw [← Int.natCast_add, hD]; exact IntWalk.i64_in _ (by omega)
       have HPD := Lib.hid (show (o * n + j) * inner + k = D by rw [hX, hY, hZ, hD])
       have HLJ := Lib.hid hlj; clear hrt hy hX hY hZ hD hYZ
       go_wp2_with fail
       refine (rfrow_calls f _ rt _ HVT.out (by rw [HRT.out]; omega) HTM.out).mono ?_
       rintro e W9 ⟨rfl, hB9⟩
       rw [HY.out]
       have HO9 := Lib.hid (owns_below HO.out hB9)
       have HB9 := Lib.hid (HB.out.trans (hB9.mono HB.out.size))
       have HVR9 := Lib.hid (HVR.out.below hB9)
       have HSZ9 := Lib.hid (show w.heap.size < W9.heap.size by have := HSZ.out; have := hB9.size; omega)
       clear hB9
       by_cases h0 : y.2 = 0
       ·have HOK2 := Lib.hid (okU_step HLK.out HLJ.out HOK.out (by rw [HYL.out]; exact h0))
        have HFS := Lib.hid (show (fillU f l outer n inner o k j).set D y.1 = fillU f l outer n inner o k (j + 1) by rw [← HPD.out, ← HYL.out]; exact fillU_set f l HLO.out HLK.out HLJ.out)
        have hcw := owns_cell HO9.out D (by unfold f64s; rw [List.length_map, fillU_len, ← HLL.out.1, HNE.out]; exact hpl)
        have hfr := World.ownsRow.frozenAt HO9.out D
        rw [h0]; clear h0
        go_wp2
        go_roundw
        case rel =>
         refine ⟨j + 1, by omega, by go_num, HOK2.out, ?_, by simpa using HSZ9.out, HB9.out.setCell (Nat.le_refl _) _, HVR9.out.keep (Kept.setCell _ _ _ (by simp)) (fun _ _ h => h)⟩
         have h9 := (World.ownsRow.stored HO9.out D (.float .f64 y.1)).1
         rw [← HFS.out]
         unfold f64s at h9 ⊢
         rw [List.map_set]
         exact h9
        case measure => simp [intOf]; omega
       ·obtain ⟨er, her⟩ : ∃ er, y.2 = er := ⟨_, rfl⟩
        have HE2 := Lib.hid (show rsE f l outer n inner = er by
         rw [HE1.out, upRows_err HK.out (List.mem_of_getElem? (upRows_get HLO.out HLJ.out HLK.out)) (by rw [HYL.out]; exact h0), HYL.out, her])
        have hne : (er != 0) = true := by rw [← her]; simp [h0]
        have HR0 := Lib.hid (show R = [] by rw [HRR.out]; exact rsL_bad (by rw [HE2.out, ← her]; exact h0))
        rw [her]; clear h0 her
        go_wp2
        go_ret2
        refine ⟨.slice none 0 0, ?_, ?_, HB9.out⟩
        ·(rw [HEE.out, HE2.out]) <;> rfl
        ·rw [HR0.out]; exact Slc.nil _ _
      ·have hjn : j = n := by omega
       have HOK2 := Lib.hid (okU_row (hjn ▸ HOK.out))
       rw [hjn, fillU_row] at HO
       clear hjn; have him := HIM.out
       go_wp2
       go_roundw
       case rel => exact ⟨k + 1, by omega, by go_num, HOK2.out, HO.out, HSZ.out, HB.out⟩
       case measure => simp [intOf]; omega
    ·have hki : k = inner := by omega
     have HOK2 := Lib.hid (okU_cell (hki ▸ HOK.out))
     rw [hki, fillU_cell] at HO
     clear hki; have hom := HOM.out
     go_wp2
     go_roundw
     case rel => exact ⟨o + 1, by omega, by go_num, HOK2.out, HO.out, HSZ.out, HB.out⟩
     case measure => simp [intOf]; omega
  ·have hoo : o = outer := by omega
   rw [hoo] at HOK HO
   have HE2 := Lib.hid (show errG (rowN f) (upRows l outer n inner) = 0 from okU_all HOK.out)
   have HR0 := Lib.hid (show R = outG (rowN f) (upRows l outer n inner) by rw [HRR.out, rsL_yes (by rw [HE1.out]; exact HE2.out)])
   rw [fillU_all, ← HR0.out] at HO
   have HL := Lib.hid (show Slc wr (fun b => w.heap.size ≤ b) (.slice (some ⟨w.heap.size, 0, none⟩) N N) R.length (f64s R) by
    rw [HR0.out, outG_len, upRows_len, ← HLL.out.1, HNE.out, ← HR0.out]; exact Slc.owned HO.out)
   clear hoo
   go_wp2
   go_ret2
   refine ⟨_, ?_, HL.out, HB.out⟩
   (rw [HEE.out, HE1.out, HE2.out]) <;> rfl
end Go.Proofs.YtbacchbcanlciaaGreatDoor

/- Layer 9, plain: what every function does to a number, and to all numbers of a list. -/
import Derived.Test.YtbdhibcbpgjbmaaGreatDoorSqF
namespace Go.Proofs.YtbdhibcbpgjbmaaGreatDoor
set_option maxRecDepth 100000
open Go.RowKit Fl
set_option linter.unusedVariables false

/-- 0 less a word; 1 divided by one. -/
def negw (x : Nat) : Nat := (Ieee.double.sub 0 x).getD 0
def invw (x : Nat) : Nat := (Ieee.double.div 4607182418800017408 x).getD 0
theorem negw_spec {x : Nat} (hx : Num x) : floatBits .sub .f64 0 x = some (negw x) ∧ Num (negw x) ∧ V (negw x) = -V x := by
 obtain ⟨z, hz, hn, hv⟩ := neg_word hx
 have e : negw x = z := by unfold negw; rw [hz]; rfl
 rw [e]; exact ⟨hz, hn, hv⟩
theorem negw_rs {x : Nat} (hx : Num x) : rs (negw x) = (negw x, 0) := by
 have h := (negw_spec hx).2.1
 rw [rs_fin h.1, ze_of_num h]
theorem invw_spec {x : Nat} (hx : Fnt x) (h : V x ≠ 0) : floatBits .quo .f64 4607182418800017408 x = some (invw x) := by
 obtain ⟨z, hz⟩ := div_some one_fin hx h
 have e : invw x = z := by unfold invw; rw [hz]; rfl
 rw [e]; exact hz
theorem abs_num {x : Nat} (hx : Num x) : Num (x % 9223372036854775808) := ⟨mod_fin hx.1, fun h => by omega⟩
theorem negw_abs {x : Nat} (hx : Num x) (h : V x < 0) : negw x = x % 9223372036854775808 := by
 obtain ⟨_, h2, h3⟩ := negw_spec hx
 refine V_inj h2 (abs_num hx) ?_
 rw [h3, V_mod]; omega
theorem abs_same {x : Nat} (hx : Num x) (h : ¬ V x < 0) : x % 9223372036854775808 = x := by
 refine V_inj (abs_num hx) hx ?_
 rw [V_mod]; omega
theorem zero_of {x : Nat} (hx : Num x) (h : V x = 0) : x = 0 := V_inj hx num_zero (by rw [h, V_zero])

/-- One: the word and the error. -/
def oneW (f : Int) (x : Nat) : Nat × Int :=
 if f = 1 then (x, 0) else if f = 2 then (negw x, 0) else if f = 3 then (sgw (V x), 0)
 else if f = 4 then (if V x = 0 then (0, 24) else rs (invw x))
 else if f = 5 then (ze (cl x), 0) else if f = 6 then (fl x, 0) else if f = 7 then (x % 9223372036854775808, 0)
 else if f = 8 then (if V x = 0 then (4607182418800017408, 0) else if V x = pw 1074 then (0, 0) else (0, 24))
 else (0, 1)
theorem sgw_num (v : Int) : Num (sgw v) := by
 unfold sgw
 split
 ·exact ⟨neg_fin, by decide⟩
 ·split
  ·exact num_zero
  ·exact ⟨one_fin, by decide⟩
theorem oneW_num {x : Nat} (f : Int) (hx : Num x) : Num (oneW f x).1 := by
 unfold oneW
 split; exact hx
 split; exact (negw_spec hx).2.1
 split; exact sgw_num _
 split
 ·split; exact num_zero
  exact rs_num _ (wf_f64 (floatBits_wf (invw_spec hx.1 (by assumption))))
 split; exact ze_num (cl_spec hx).1
 split; exact (fl_spec hx).1
 split; exact abs_num hx
 split
 ·split
  ·exact ⟨one_fin, by decide⟩
  ·split <;> exact num_zero
 exact num_zero
theorem rs_err (z : Nat) : (rs z).2 = 0 ∨ (rs z).2 = 24 := by unfold rs; split <;> simp
theorem oneW_err {f : Int} (x : Nat) (h1 : 1 ≤ f) (h8 : f ≤ 8) : (oneW f x).2 = 0 ∨ (oneW f x).2 = 24 := by
 unfold oneW
 repeat' (first | split | exact rs_err _ | exact Or.inl rfl | exact Or.inr rfl | omega)
theorem oneW_arg {f : Int} (x : Nat) (h : ¬ (1 ≤ f ∧ f ≤ 8)) : oneW f x = (0, 1) := by
 unfold oneW
 rw [if_neg (by omega), if_neg (by omega), if_neg (by omega), if_neg (by omega), if_neg (by omega), if_neg (by omega), if_neg (by omega), if_neg (by omega)]
/-- All numbers of a list: the first error, and what comes of them. -/
def errL (f : Int) : List Nat → Int
 | [] => 0
 | x :: l => if (oneW f x).2 = 0 then errL f l else (oneW f x).2
def outL (f : Int) (l : List Nat) : List Nat := l.map fun x => (oneW f x).1
theorem errL_step {f : Int} {l : List Nat} {k : Nat} {x : Nat} (h : l[k]? = some x) : errL f (l.drop k) = if (oneW f x).2 = 0 then errL f (l.drop (k + 1)) else (oneW f x).2 := by
 obtain ⟨hk, e⟩ := List.getElem?_eq_some_iff.1 h
 rw [List.drop_eq_getElem_cons hk, e, errL]
theorem errL_err {f : Int} (h1 : 1 ≤ f) (h8 : f ≤ 8) : ∀ l, errL f l = 0 ∨ errL f l = 24 := by
 intro l
 induction l with
 | nil => exact Or.inl rfl
 | cons x l ih =>
  rw [errL]
  split
  ·exact ih
  ·rcases oneW_err x h1 h8 with h | h
   ·contradiction
   ·exact Or.inr h
theorem errL_all {f : Int} {l : List Nat} (h : ∀ x ∈ l, (oneW f x).2 = 0) : errL f l = 0 := by
 induction l with
 | nil => rfl
 | cons x l ih => rw [errL, if_pos (h x List.mem_cons_self)]; exact ih fun y hy => h y (List.mem_cons_of_mem _ hy)
theorem outL_num {f : Int} {l : List Nat} (h : ∀ x ∈ l, Num x) : ∀ x ∈ outL f l, Num x := by
 intro x hx
 obtain ⟨y, hy, rfl⟩ := List.mem_map.1 hx
 exact oneW_num f (h y hy)
theorem outL_len (f : Int) (l : List Nat) : (outL f l).length = l.length := by simp [outL]
theorem outL_take {f : Int} {l : List Nat} {k : Nat} {x : Nat} (h : l[k]? = some x) : outL f (l.take (k + 1)) = outL f (l.take k) ++ [(oneW f x).1] := by
 obtain ⟨hk, e⟩ := List.getElem?_eq_some_iff.1 h
 unfold outL
 rw [List.take_succ_eq_append_getElem hk, e]; simp

/-- Functions that make 0 or 1 of 0 and 1. -/
abbrev keepF (f : Int) : Prop := f ≠ 2 ∧ f ≠ 4
theorem V_flagW (b : Bool) : V (flagW b) = if b then (pw 1074 : Int) else 0 := by cases b <;> first | exact V_zero | exact V_one
theorem oneW_flag {f : Int} (h1 : 1 ≤ f) (h8 : f ≤ 8) (hk : keepF f) (b : Bool) : oneW f (flagW b) = (flagW (if f = 8 then !b else b), 0) := by
 have hn := num_flag b
 have hv := V_flagW b
 have hp := pw_pos 1074
 have hd : V (flagW b) / (pw 1074 : Int) * pw 1074 = V (flagW b) := by
  rw [hv]; cases b
  ·simp
  ·rw [if_pos rfl, Int.ediv_self (by omega), Int.one_mul]
 have hd2 : -V (flagW b) / (pw 1074 : Int) * pw 1074 = -V (flagW b) := by
  rw [hv]; cases b
  ·simp
  ·rw [if_pos rfl, Int.neg_ediv_of_dvd (Int.dvd_refl _), Int.ediv_self (by omega)]; omega
 unfold oneW
 have hk2 := hk.1
 have hk4 := hk.2
 rcases (by omega : f = 1 ∨ f = 3 ∨ f = 5 ∨ f = 6 ∨ f = 7 ∨ f = 8) with rfl | rfl | rfl | rfl | rfl | rfl
 ·simp
 ·rw [if_neg (by decide), if_neg (by decide), if_pos rfl, if_neg (by decide)]
  rw [hv]; cases b
  ·rfl
  ·rw [if_pos rfl]; unfold sgw; rw [if_neg (by omega), if_neg (by omega)]; rfl
 ·rw [if_neg (by decide), if_neg (by decide), if_neg (by decide), if_neg (by decide), if_pos rfl, if_neg (by decide)]
  rw [show ze (cl (flagW b)) = flagW b from V_inj (ze_num (cl_spec hn).1) hn (by rw [ze_val, (cl_spec hn).2, hd2]; omega)]
 ·rw [if_neg (by decide), if_neg (by decide), if_neg (by decide), if_neg (by decide), if_neg (by decide), if_pos rfl, if_neg (by decide)]
  rw [show fl (flagW b) = flagW b from V_inj (fl_spec hn).1 hn (by rw [(fl_spec hn).2, hd])]
 ·rw [if_neg (by decide), if_neg (by decide), if_neg (by decide), if_neg (by decide), if_neg (by decide), if_neg (by decide), if_pos rfl, if_neg (by decide)]
  rw [abs_same hn (by rw [hv]; split <;> omega)]
 ·rw [if_neg (by decide), if_neg (by decide), if_neg (by decide), if_neg (by decide), if_neg (by decide), if_neg (by decide), if_neg (by decide), if_pos rfl, if_pos rfl]
  rw [hv]; cases b
  ·rfl
  ·rw [if_pos rfl, if_neg (by omega), if_pos rfl]; rfl

/-- Apply: the error, and what comes of a vector. -/
def appE (f : Int) (V : VV) : Int := if 1 ≤ f ∧ f ≤ 8 then (if V.cls = 0 then errL f V.nums else 24) else 1
noncomputable def appV (f : Int) (V : VV) : VV :=
 if appE f V = 0 then (if V.isBit = true ∧ keepF f then .bits (if f = 8 then V.packed.map (!·) else V.packed) else (VV.floats (outL f V.nums)).sq) else .none
theorem appV_none {f : Int} {V : VV} (h : appE f V ≠ 0) : appV f V = .none := if_neg h
theorem appE_zero {f : Int} {V : VV} (h : appE f V = 0) : (1 ≤ f ∧ f ≤ 8) ∧ V.cls = 0 ∧ errL f V.nums = 0 := by
 unfold appE at h
 split at h
 ·split at h
  ·exact ⟨by assumption, by assumption, h⟩
  ·cases h
 ·cases h
theorem appV_spec {f : Int} {V : VV} (hok : V.ok) (hn : V.nm) (h : appE f V = 0) :
  (appV f V).nums = outL f V.nums ∧ (appV f V).ok ∧ (appV f V).nm ∧ 0 < (appV f V).kind ∧ (appV f V).kind = (appV f V).least := by
 obtain ⟨⟨h1, h8⟩, hc, he⟩ := appE_zero h
 have hN := VV.nums_num hok hn
 unfold appV
 rw [if_pos h]
 by_cases hb : V.isBit = true ∧ keepF f
 ·rw [if_pos hb]
  cases V with
  | bits l =>
   refine ⟨?_, ?_, trivial, by show (0 : Int) < 1; decide, rfl⟩
   ·show (if f = 8 then l.map (!·) else l).map flagW = outL f (l.map flagW)
    unfold outL
    rw [List.map_map]
    have e : (if f = 8 then l.map (!·) else l) = l.map fun b => if f = 8 then !b else b := by split <;> simp
    rw [e, List.map_map]
    exact List.map_congr_left fun b _ => by show flagW _ = (oneW f (flagW b)).1; rw [oneW_flag h1 h8 hb.2]
   ·have : l.length ≤ 1048576 := hok
    show (if f = 8 then l.map (!·) else l).length ≤ 1048576
    split <;> simpa using this
  | none => simp [VV.isBit] at hb
  | smalls l => simp [VV.isBit] at hb
  | ints l => simp [VV.isBit] at hb
  | floats l => simp [VV.isBit] at hb
  | chars l => simp [VV.isBit] at hb
  | boxes l => simp [VV.isBit] at hb
 ·rw [if_neg hb]
  have hO := outL_num (f := f) hN
  have hlen := VV.ok_len hok
  have hll := VV.nums_lenle (V := V)
  have hok2 : (VV.floats (outL f V.nums)).ok := by show (outL f V.nums).length ≤ 1048576; rw [outL_len]; omega
  have hn2 : (VV.floats (outL f V.nums)).nm := hO
  obtain ⟨s1, s2, s3, s4, s5, s6⟩ := VV.sq_spec hok2 hn2
  refine ⟨s2, s4, s5, ?_, ?_⟩
  ·rw [s1]
   have := (least_bd (VV.floats (outL f V.nums)) rfl).1
   omega
  ·rw [VV.least_eq s4 s5 (s3.trans rfl), s2, VV.sq_kind hok2 hn2 rfl]
end Go.Proofs.YtbdhibcbpgjbmaaGreatDoor

/- Merged: ArM, ArB, ArC, ArA, ArD, ArE, ArF, ArG. -/
import Derived.Test.YtghojndkcndjbaaGreatDoorMgNu1
import Derived.Test.YtghojndkcndjbaaGreatDoorMgMo1
import Derived.Test.YtghojndkcndjbaaGreatDoorMgVe1
import Derived.Test.YtghojndkcndjbaaGreatDoorMgSq1
/- Layers 10 and above, plain: the vector of given numbers; a function done to all elements; what every function of two numbers does. -/
namespace Go.Proofs.YtghojndkcndjbaaGreatDoor
set_option maxRecDepth 100000
open Go.RowKit Fl
set_option linter.unusedVariables false

/-- The vector of these numbers, in the least kind. -/
noncomputable def sqL (l : List Nat) : VV := (VV.floats l).sq
theorem sqL_spec {l : List Nat} (hl : l.length ≤ 1048576) (hN : ∀ x ∈ l, Num x) : (sqL l).nums = l ∧ (sqL l).ok ∧ (sqL l).nm ∧ (sqL l).cls = 0 ∧ 0 < (sqL l).kind ∧ (sqL l).kind = (sqL l).least ∧ (sqL l).len = l.length := by
 obtain ⟨s1, s2, s3, s4, s5, s6⟩ := VV.sq_spec (V := VV.floats l) hl hN
 have h0 : (VV.floats l).sq.cls = 0 := s3
 refine ⟨s2, s4, s5, h0, ?_, ?_, s6⟩
 ·show 0 < (VV.floats l).sq.kind
  rw [s1]
  have := (least_bd (VV.floats l) rfl).1
  omega
 ·show (VV.floats l).sq.kind = ((VV.floats l).sq.least : Int)
  rw [VV.least_eq s4 s5 h0, s2, VV.sq_kind (V := VV.floats l) hl hN rfl]
theorem bit_flag (b : Bool) : bitW (flagW b) = b := by
 unfold bitW
 rw [V_flagW]
 have hp := pw_pos 1074
 cases b
 ·rw [decide_eq_false]; simp; omega
 ·simp
theorem wn_ofInt {n : Int} (h : n.natAbs ≤ 9007199254740992) : wnOf (floatOfInt .f64 n) = n := wnOf_wh (wh_of n h)
/-- What is in the least kind is told by its numbers. -/
theorem VV.canon {V : VV} (hok : V.ok) (hn : V.nm) (hc : V.cls = 0) (hk : V.kind = V.least) (h0 : 0 < V.kind) : V = sqL V.nums := by
 have hlen := VV.ok_len hok
 have hnl := VV.nums_lenle (V := V)
 have hN := VV.nums_num hok hn
 have hle := VV.least_eq hok hn hc
 have hF : (VV.floats V.nums).ok := by show V.nums.length ≤ 1048576; omega
 have hl2 : (VV.floats V.nums).least = V.least := by rw [VV.least_eq hF hN rfl, hle]; rfl
 have hfit := VV.fit_least' (VV.floats V.nums)
 have e : sqL V.nums = (VV.floats V.nums).into V.kind := by unfold sqL VV.sq; rw [hl2, ← hk]
 rw [hl2, ← hk] at hfit
 rw [e]
 have hfn : ¬ (VV.floats V.nums).fit V.kind = false := by rw [hfit]; decide
 unfold VV.into
 cases V with
 | none => simp [VV.kind] at h0
 | chars l => simp [VV.cls] at hc
 | boxes l => simp [VV.cls] at hc
 | bits l =>
  rw [if_neg (by show ¬ (4 : Int) = 1; decide), if_neg hfn, if_pos (show (VV.bits l).kind = 1 from rfl)]
  show VV.bits l = VV.bits ((l.map flagW).map bitW)
  rw [map_back (fun b _ => bit_flag b)]
 | smalls l =>
  rw [if_neg (by show ¬ (4 : Int) = 2; decide), if_neg hfn, if_neg (by show ¬ (2 : Int) = 1; decide), if_pos (show (VV.smalls l).kind = 2 from rfl)]
  show VV.smalls l = VV.smalls ((l.map (floatOfInt .f64)).map wnOf)
  rw [map_back (fun n hx => wn_ofInt (by have := hok.2 n hx; omega))]
 | ints l =>
  rw [if_neg (by show ¬ (4 : Int) = 3; decide), if_neg hfn, if_neg (by show ¬ (3 : Int) = 1; decide), if_neg (by show ¬ (3 : Int) = 2; decide), if_pos (show (VV.ints l).kind = 3 from rfl)]
  show VV.ints l = VV.ints ((l.map (floatOfInt .f64)).map wnOf)
  rw [map_back (fun n hx => wn_ofInt (by have := sm_of (hn n hx); omega))]
 | floats l =>
  rw [if_pos (show (VV.floats (VV.floats l).nums).kind = (VV.floats l).kind from rfl)]
  rfl

/-- A function done to all: the first error; what comes of them. -/
def errG {α : Type} (g : α → Nat × Int) : List α → Int
 | [] => 0
 | x :: l => if (g x).2 = 0 then errG g l else (g x).2
def outG {α : Type} (g : α → Nat × Int) (l : List α) : List Nat := l.map fun x => (g x).1
theorem errG_step {α : Type} {g : α → Nat × Int} {l : List α} {k : Nat} {x : α} (h : l[k]? = some x) : errG g (l.drop k) = if (g x).2 = 0 then errG g (l.drop (k + 1)) else (g x).2 := by
 obtain ⟨hk, e⟩ := List.getElem?_eq_some_iff.1 h
 rw [List.drop_eq_getElem_cons hk, e, errG]
theorem errG_all {α : Type} {g : α → Nat × Int} {l : List α} (h : ∀ x ∈ l, (g x).2 = 0) : errG g l = 0 := by
 induction l with
 | nil => rfl
 | cons x l ih => rw [errG, if_pos (h x List.mem_cons_self)]; exact ih fun y hy => h y (List.mem_cons_of_mem _ hy)
theorem outG_num {α : Type} {g : α → Nat × Int} {l : List α} (h : ∀ x ∈ l, Num (g x).1) : ∀ x ∈ outG g l, Num x := by
 intro x hx
 obtain ⟨y, hy, rfl⟩ := List.mem_map.1 hx
 exact h y hy
theorem outG_len {α : Type} (g : α → Nat × Int) (l : List α) : (outG g l).length = l.length := by simp [outG]
theorem outG_take {α : Type} {g : α → Nat × Int} {l : List α} {k : Nat} {x : α} (h : l[k]? = some x) : outG g (l.take (k + 1)) = outG g (l.take k) ++ [(g x).1] := by
 obtain ⟨hk, e⟩ := List.getElem?_eq_some_iff.1 h
 unfold outG
 rw [List.take_succ_eq_append_getElem hk, e]; simp

/-- Sums, differences, products, quotients of words. -/
def addw (a b : Nat) : Nat := (Ieee.double.add a b).getD 0
def subw (a b : Nat) : Nat := (Ieee.double.sub a b).getD 0
def mulw (a b : Nat) : Nat := (Ieee.double.mul a b).getD 0
def quow (a b : Nat) : Nat := (Ieee.double.div a b).getD 0
theorem addw_spec {a b : Nat} (ha : Fnt a) (hb : Fnt b) : floatBits .add .f64 a b = some (addw a b) := by
 obtain ⟨z, hz⟩ : ∃ z, Ieee.double.add a b = some z := ⟨_, add_fin ha hb⟩
 have e : addw a b = z := by unfold addw; rw [hz]; rfl
 rw [e]; exact hz
theorem subw_spec {a b : Nat} (ha : Fnt a) (hb : Fnt b) : floatBits .sub .f64 a b = some (subw a b) := by
 obtain ⟨z, hz⟩ : ∃ z, Ieee.double.sub a b = some z := ⟨_, sub_fin ha hb⟩
 have e : subw a b = z := by unfold subw; rw [hz]; rfl
 rw [e]; exact hz
theorem mulw_spec {a b : Nat} (ha : Fnt a) (hb : Fnt b) : floatBits .mul .f64 a b = some (mulw a b) := by
 obtain ⟨z, hz⟩ : ∃ z, Ieee.double.mul a b = some z := ⟨_, mul_fin ha hb⟩
 have e : mulw a b = z := by unfold mulw; rw [hz]; rfl
 rw [e]; exact hz
theorem quow_spec {a b : Nat} (ha : Fnt a) (hb : Fnt b) (h0 : V b ≠ 0) : floatBits .quo .f64 a b = some (quow a b) := by
 obtain ⟨z, hz⟩ := div_some ha hb h0
 have e : quow a b = z := by unfold quow; rw [hz]; rfl
 rw [e]; exact hz
theorem floatBits_lt {op : BinOp} {a b z : Nat} (h : floatBits op .f64 a b = some z) : z < 18446744073709551616 := wf_f64 (floatBits_wf h)
/-- One of layer 10: the word and the error. -/
def quoA (a b : Nat) : Nat × Int := if V b ≠ 0 then rs (quow a b) else if V a ≠ 0 then (0, 24) else (4607182418800017408, 0)
open Classical in
noncomputable def restA (a b : Nat) : Nat × Int := if (∃ m, Wh a m) ∧ ∃ n, Wh b n then (floatOfInt .f64 (rst (wnOf a) (wnOf b)), 0) else (0, 24)
open Classical in
noncomputable def powA (a b : Nat) : Nat × Int := if ∃ n : Int, Wh b n ∧ n.natAbs ≤ 1023 then pwr a (wnOf b) else (0, 24)
noncomputable def oneA (f : Int) (a b : Nat) : Nat × Int :=
 if f = 1 then rs (addw a b) else if f = 2 then rs (subw a b) else if f = 3 then rs (mulw a b) else if f = 4 then quoA a b
 else if f = 5 then (mxw a b, 0) else if f = 6 then (mnw a b, 0) else if f = 7 then restA a b else if f = 8 then powA a b
 else (0, 1)
theorem restA_yes {a b : Nat} {m n : Int} (ha : Wh a m) (hb : Wh b n) : restA a b = (floatOfInt .f64 (rst m n), 0) := by
 unfold restA; rw [if_pos ⟨⟨m, ha⟩, ⟨n, hb⟩⟩, wnOf_wh ha, wnOf_wh hb]
theorem restA_no {a b : Nat} (h : ¬ ((∃ m, Wh a m) ∧ ∃ n, Wh b n)) : restA a b = (0, 24) := by unfold restA; rw [if_neg h]
theorem powA_yes {a b : Nat} {n : Int} (hb : Wh b n) (h : n.natAbs ≤ 1023) : powA a b = pwr a n := by unfold powA; rw [if_pos ⟨n, hb, h⟩, wnOf_wh hb]
theorem powA_no {a b : Nat} (h : ∀ n : Int, ¬ Wh b n) : powA a b = (0, 24) := by unfold powA; rw [if_neg (fun ⟨n, h1, _⟩ => h n h1)]
theorem powA_much {a b : Nat} {n : Int} (hb : Wh b n) (h : 1023 < n.natAbs) : powA a b = (0, 24) := by
 unfold powA
 rw [if_neg]
 rintro ⟨m, h1, h2⟩
 rw [wh_unique h1 hb] at h2
 omega
theorem oneA_arg {f : Int} (a b : Nat) (h : ¬ (1 ≤ f ∧ f ≤ 8)) : oneA f a b = (0, 1) := by
 unfold oneA
 rw [if_neg (by omega), if_neg (by omega), if_neg (by omega), if_neg (by omega), if_neg (by omega), if_neg (by omega), if_neg (by omega), if_neg (by omega)]
theorem oneA_num {f : Int} {a b : Nat} (ha : Num a) (hb : Num b) : Num (oneA f a b).1 := by
 unfold oneA
 split; exact rs_num _ (floatBits_lt (addw_spec ha.1 hb.1))
 split; exact rs_num _ (floatBits_lt (subw_spec ha.1 hb.1))
 split; exact rs_num _ (floatBits_lt (mulw_spec ha.1 hb.1))
 split
 ·unfold quoA
  split
  ·exact rs_num _ (floatBits_lt (quow_spec ha.1 hb.1 (by assumption)))
  ·split
   ·exact num_zero
   ·exact num_one
 split; (unfold mxw; split; exact hb; exact ha)
 split; (unfold mnw; split; exact hb; exact ha)
 split
 ·unfold restA
  split
  ·rename_i h
   obtain ⟨⟨m, hm⟩, ⟨n, hn⟩⟩ := h
   rw [wnOf_wh hm, wnOf_wh hn]
   have := rst_small hm.2.1 hn.2.1
   exact num_ofInt _ (sm_yes (by omega) (by omega))
  ·exact num_zero
 split
 ·unfold powA
  split
  ·exact pwr_num' _ _
  ·exact num_zero
 exact num_zero
end Go.Proofs.YtghojndkcndjbaaGreatDoor

/- Layer 10, plain: the elements of two lists that go together; what whole numbers make; what Apply tells. -/
namespace Go.Proofs.YtghojndkcndjbaaGreatDoor
set_option maxRecDepth 100000
open Go.RowKit Fl
set_option linter.unusedVariables false

/-- A function of two whole numbers, and whether it tells one. -/
def whA (f a b : Int) : Int × Bool :=
 if f = 1 then (if sm (a + b) then a + b else 0, sm (a + b)) else if f = 2 then (if sm (a - b) then a - b else 0, sm (a - b))
 else if f = 3 then (if pm a b then a * b else 0, pm a b) else if f = 5 then (max a b, true) else if f = 6 then (min a b, true)
 else if f = 7 then (rst a b, true) else (0, false)
theorem rs_whole {z : Nat} {n : Int} (hf : Fnt z) (hn : sm n = true) (hv : V z = n * pw 1074) : rs z = (floatOfInt .f64 n, 0) := by
 have h := sm_of hn
 rw [rs_fin hf, V_inj (ze_num hf) (num_ofInt n hn) (by rw [ze_val, hv, ofInt_val n (by omega)])]
theorem whA_one {f a b : Int} (ha : sm a = true) (hb : sm b = true) (h : (whA f a b).2 = true) : oneA f (floatOfInt .f64 a) (floatOfInt .f64 b) = (floatOfInt .f64 (whA f a b).1, 0) ∧ sm (whA f a b).1 = true := by
 have h1 := sm_of ha
 have h2 := sm_of hb
 have va := ofInt_val a (by omega)
 have vb := ofInt_val b (by omega)
 have hp := pw_pos 1074
 unfold whA at h ⊢
 by_cases e1 : f = 1
 ·subst e1
  rw [if_pos rfl] at h ⊢
  have hs : sm (a + b) = true := h
  have h3 := sm_of hs
  obtain ⟨z, hz, hf, hv⟩ := whole_sum (a := a) (b := b) (by omega) (by omega)
  have ez : addw (floatOfInt .f64 a) (floatOfInt .f64 b) = z := by unfold addw; rw [hz]; rfl
  have eo : oneA 1 (floatOfInt .f64 a) (floatOfInt .f64 b) = rs z := by unfold oneA; rw [if_pos rfl, ez]
  rw [eo, hs]
  exact ⟨rs_whole hf hs (hv (by omega)), hs⟩
 rw [if_neg e1] at h ⊢
 by_cases e2 : f = 2
 ·subst e2
  rw [if_pos rfl] at h ⊢
  have hs : sm (a - b) = true := h
  have h3 := sm_of hs
  obtain ⟨z, hz, hf, hv⟩ := whole_diff (a := a) (b := b) (by omega) (by omega)
  have ez : subw (floatOfInt .f64 a) (floatOfInt .f64 b) = z := by unfold subw; rw [hz]; rfl
  have eo : oneA 2 (floatOfInt .f64 a) (floatOfInt .f64 b) = rs z := by unfold oneA; rw [if_neg (by decide), if_pos rfl, ez]
  rw [eo, hs]
  exact ⟨rs_whole hf hs (hv (by omega)), hs⟩
 rw [if_neg e2] at h ⊢
 by_cases e3 : f = 3
 ·subst e3
  rw [if_pos rfl] at h ⊢
  have hs : pm a b = true := h
  have h3 := pm_bound hs
  obtain ⟨z, hz, hf, hv⟩ := whole_prod (a := a) (b := b) (by omega) (by omega)
  have ez : mulw (floatOfInt .f64 a) (floatOfInt .f64 b) = z := by unfold mulw; rw [hz]; rfl
  have eo : oneA 3 (floatOfInt .f64 a) (floatOfInt .f64 b) = rs z := by unfold oneA; rw [if_neg (by decide), if_neg (by decide), if_pos rfl, ez]
  have hm : sm (a * b) = true := sm_yes h3.1 h3.2
  rw [eo, hs]
  exact ⟨rs_whole hf hm (hv (by omega)), hm⟩
 rw [if_neg e3] at h ⊢
 have hlt : V (floatOfInt .f64 a) < V (floatOfInt .f64 b) ↔ a < b := by
  rw [va, vb]; exact Int.mul_lt_mul_right (by omega)
 have hlt2 : V (floatOfInt .f64 b) < V (floatOfInt .f64 a) ↔ b < a := by
  rw [va, vb]; exact Int.mul_lt_mul_right (by omega)
 by_cases e5 : f = 5
 ·subst e5
  rw [if_pos rfl]
  have eo : oneA 5 (floatOfInt .f64 a) (floatOfInt .f64 b) = (mxw (floatOfInt .f64 a) (floatOfInt .f64 b), 0) := by simp [oneA]
  rw [eo]
  unfold mxw
  by_cases hl : a < b
  ·rw [if_pos (hlt.2 hl)]; have e : max a b = b := by omega
   show _ = (floatOfInt .f64 (max a b), 0) ∧ sm (max a b) = true
   rw [e]; exact ⟨rfl, hb⟩
  ·rw [if_neg (fun h => hl (hlt.1 h))]; have e : max a b = a := by omega
   show _ = (floatOfInt .f64 (max a b), 0) ∧ sm (max a b) = true
   rw [e]; exact ⟨rfl, ha⟩
 rw [if_neg e5] at h ⊢
 by_cases e6 : f = 6
 ·subst e6
  rw [if_pos rfl]
  have eo : oneA 6 (floatOfInt .f64 a) (floatOfInt .f64 b) = (mnw (floatOfInt .f64 a) (floatOfInt .f64 b), 0) := by simp [oneA]
  rw [eo]
  unfold mnw
  by_cases hl : b < a
  ·rw [if_pos (hlt2.2 hl)]; have e : min a b = b := by omega
   show _ = (floatOfInt .f64 (min a b), 0) ∧ sm (min a b) = true
   rw [e]; exact ⟨rfl, hb⟩
  ·rw [if_neg (fun h => hl (hlt2.1 h))]; have e : min a b = a := by omega
   show _ = (floatOfInt .f64 (min a b), 0) ∧ sm (min a b) = true
   rw [e]; exact ⟨rfl, ha⟩
 rw [if_neg e6] at h ⊢
 by_cases e7 : f = 7
 ·subst e7
  rw [if_pos rfl]
  have eo : oneA 7 (floatOfInt .f64 a) (floatOfInt .f64 b) = restA (floatOfInt .f64 a) (floatOfInt .f64 b) := by simp [oneA]
  rw [eo, restA_yes (wh_of a (by omega)) (wh_of b (by omega))]
  have := rst_small (m := a) (n := b) (by omega) (by omega)
  exact ⟨rfl, sm_yes (by show _ ≤ rst a b; omega) (by show rst a b ≤ _; omega)⟩
 rw [if_neg e7] at h
 cases h

theorem VV.nums_len0 {V : VV} (h : V.cls = 0) : V.nums.length = V.len := by
 cases V <;> first | (simp [VV.nums, VV.len]; done) | (simp [VV.cls] at h)
theorem sqW_eq {l : List Int} (hl : l.length ≤ 1048576) (hs : ∀ z ∈ l, sm z = true) : (VV.ints l).sq = sqL (l.map (floatOfInt .f64)) := by
 obtain ⟨s1, s2, s3, s4, s5, s6⟩ := VV.sq_spec (V := VV.ints l) hl hs
 have h0 : (VV.ints l).sq.cls = 0 := s3
 have hc := VV.canon s4 s5 h0 (by rw [VV.least_eq s4 s5 h0, s2, VV.sq_kind (V := VV.ints l) hl hs rfl]) (by
  rw [s1]
  have := (least_bd (VV.ints l) rfl).1
  omega)
 rw [hc, s2]; rfl
end Go.Proofs.YtghojndkcndjbaaGreatDoor

/- Package arith, walked: One, Length, known, at, oneWhole. -/
namespace Go.Proofs.YtghojndkcndjbaaGreatDoor
set_option maxRecDepth 100000
open Go.RowKit Fl
set_option linter.unusedVariables false

set_option maxHeartbeats 2000000 in
theorem aone_calls (f : Int) (a b : Nat) (w : World) (ha : Num a) (hb : Num b) : Calls Tryz.prog 34 #[.int .i64 f, .float .f64 a, .float .f64 b] w (Pwd (oneA f a b) w) := by
 have HA := Lib.hid ha; have HB := Lib.hid hb; have LA := Lib.hid ha.1.1; have LB := Lib.hid hb.1.1
 rcases one_cases f with rfl | rfl | rfl | rfl | rfl | rfl | rfl | rfl | hf
 ·have HE := Lib.hid (show oneA 1 a b = rs (addw a b) by simp [oneA])
  have HS := Lib.hid (addw_spec ha.1 hb.1)
  rw [HE.out]; clear ha hb
  go_enter Tryz.func34, Tryz.ntmps34
  go_wp2_with (refine (add_calls _ _ _ _ HS.out).mono ?_; rintro e w' ⟨rfl, rfl⟩)
  go_ret2
  exact ⟨rfl, 0, rfl⟩
 ·have HE := Lib.hid (show oneA 2 a b = rs (subw a b) by simp [oneA])
  have HS := Lib.hid (subw_spec ha.1 hb.1)
  rw [HE.out]; clear ha hb
  go_enter Tryz.func34, Tryz.ntmps34
  go_wp2_with (refine (sub_calls _ _ _ _ HS.out).mono ?_; rintro e w' ⟨rfl, rfl⟩)
  go_ret2
  exact ⟨rfl, 0, rfl⟩
 ·have HE := Lib.hid (show oneA 3 a b = rs (mulw a b) by simp [oneA])
  have HS := Lib.hid (mulw_spec ha.1 hb.1)
  rw [HE.out]; clear ha hb
  go_enter Tryz.func34, Tryz.ntmps34
  go_wp2_with (refine (mul_calls _ _ _ _ HS.out).mono ?_; rintro e w' ⟨rfl, rfl⟩)
  go_ret2
  exact ⟨rfl, 0, rfl⟩
 ·by_cases h0 : V b = 0
  ·have e0 := zero_of hb h0
   by_cases ha0 : V a = 0
   ·have e1 := zero_of ha ha0
    have HE := Lib.hid (show oneA 4 a b = (4607182418800017408, 0) by simp [oneA, quoA, h0, ha0])
    rw [HE.out, e0, e1]
    clear ha hb h0 ha0 e0 e1
    go_enter Tryz.func34, Tryz.ntmps34
    go_wp2_with (refine (div_none _).mono ?_; rintro e w' ⟨rfl, rfl⟩)
    go_ret2
    exact ⟨rfl, 0, rfl⟩
   ·have HE := Lib.hid (show oneA 4 a b = (0, 24) by simp [oneA, quoA, h0, ha0])
    have H0 := Lib.hid ha0
    rw [HE.out, e0]
    clear ha hb h0 ha0 e0
    go_enter Tryz.func34, Tryz.ntmps34
    go_wp2_with (refine (div_zero _ _ HA.out.1 H0.out).mono ?_; rintro e w' ⟨rfl, rfl⟩)
    go_ret2
    exact ⟨rfl, 0, rfl⟩
  ·have HE := Lib.hid (show oneA 4 a b = rs (quow a b) by simp [oneA, quoA, h0])
   have HS := Lib.hid (quow_spec ha.1 hb.1 h0)
   have H0 := Lib.hid h0; rw [HE.out]; clear ha hb h0
   go_enter Tryz.func34, Tryz.ntmps34
   go_wp2_with (refine (div_calls _ _ _ _ HB.out.1 H0.out HS.out).mono ?_; rintro e w' ⟨rfl, rfl⟩)
   go_ret2
   exact ⟨rfl, 0, rfl⟩
 ·have HE := Lib.hid (show oneA 5 a b = (mxw a b, 0) by simp [oneA])
  rw [HE.out]; clear ha hb
  go_enter Tryz.func34, Tryz.ntmps34
  go_wp2_with (refine (max_calls _ _ _ HA.out HB.out).mono ?_; rintro e w' ⟨rfl, rfl⟩)
  go_ret2
  exact ⟨rfl, 0, rfl⟩
 ·have HE := Lib.hid (show oneA 6 a b = (mnw a b, 0) by simp [oneA])
  rw [HE.out]; clear ha hb
  go_enter Tryz.func34, Tryz.ntmps34
  go_wp2_with (refine (min_calls _ _ _ HA.out HB.out).mono ?_; rintro e w' ⟨rfl, rfl⟩)
  go_ret2
  exact ⟨rfl, 0, rfl⟩
 ·by_cases h1 : ∃ m, Wh a m
  ·obtain ⟨m, hm⟩ := h1
   have HM := Lib.hid hm
   by_cases h2 : ∃ n, Wh b n
   ·obtain ⟨n, hn⟩ := h2
    have HN := Lib.hid hn
    have HE := Lib.hid (show oneA 7 a b = (floatOfInt .f64 (rst m n), 0) by simp only [oneA]; exact restA_yes hm hn)
    rw [HE.out]; clear ha hb hm hn
    go_enter Tryz.func34, Tryz.ntmps34
    go_wp2_with (refine (rest_yes _ _ _ _ _ HM.out HN.out).mono ?_; rintro e w' ⟨rfl, rfl⟩)
    go_ret2
    exact ⟨rfl, 0, rfl⟩
   ·have HW2 : Hid (∀ n, ¬ Wh b n) := Lib.hid (fun n hn => h2 ⟨n, hn⟩)
    have HE := Lib.hid (show oneA 7 a b = (0, 24) by simp only [oneA]; exact restA_no (fun h => h2 h.2))
    rw [HE.out]; clear ha hb hm h2
    go_enter Tryz.func34, Tryz.ntmps34
    go_wp2_with (refine (rest_no2 _ _ _ _ HM.out LB.out HW2.out).mono ?_; rintro e w' ⟨rfl, rfl⟩)
    go_ret2
    exact ⟨rfl, 0, rfl⟩
  ·have HW1 : Hid (∀ m, ¬ Wh a m) := Lib.hid (fun n hn => h1 ⟨n, hn⟩)
   have HE := Lib.hid (show oneA 7 a b = (0, 24) by simp only [oneA]; exact restA_no (fun h => h1 h.1))
   rw [HE.out]; clear ha hb h1
   go_enter Tryz.func34, Tryz.ntmps34
   go_wp2_with (refine (rest_no1 _ _ _ LA.out HW1.out LB.out).mono ?_; rintro e w' ⟨rfl, rfl⟩)
   go_ret2
   exact ⟨rfl, 0, rfl⟩
 ·by_cases h1 : ∃ n, Wh b n
  ·obtain ⟨n, hn⟩ := h1
   have HN := Lib.hid hn
   by_cases h2 : n.natAbs ≤ 1023
   ·have HE := Lib.hid (show oneA 8 a b = pwr a n by simp only [oneA]; exact powA_yes hn h2)
    have H2 := Lib.hid h2; rw [HE.out]; clear ha hb hn h2
    go_enter Tryz.func34, Tryz.ntmps34
    go_wp2_with ((with_reducible refine (power_calls _ _ _ _ LA.out HN.out H2.out).mono ?_); rintro e w' ⟨rfl, m, rfl⟩)
    go_ret2
    exact ⟨rfl, m, rfl⟩
   ·have HE := Lib.hid (show oneA 8 a b = (0, 24) by simp only [oneA]; exact powA_much hn (by omega))
    have H2 := Lib.hid (show 1023 < n.natAbs by omega)
    rw [HE.out]; clear ha hb hn h2
    go_enter Tryz.func34, Tryz.ntmps34
    go_wp2_with ((with_reducible refine (power_much _ _ _ _ HN.out H2.out).mono ?_); rintro e w' ⟨rfl, m, rfl⟩)
    go_ret2
    exact ⟨rfl, m, rfl⟩
  ·have H1 : Hid (∀ n, ¬ Wh b n) := Lib.hid (fun n hn => h1 ⟨n, hn⟩)
   have HE := Lib.hid (show oneA 8 a b = (0, 24) by simp only [oneA]; exact powA_no H1.out)
   rw [HE.out]; clear ha hb h1
   go_enter Tryz.func34, Tryz.ntmps34
   go_wp2_with ((with_reducible refine (power_no _ _ _ LB.out H1.out).mono ?_); rintro e w' ⟨rfl, m, rfl⟩)
   go_ret2
   exact ⟨rfl, m, rfl⟩
 ·have HE := Lib.hid (oneA_arg (f := f) a b hf)
  rw [HE.out]
  have n1 : (f == 1) = false := by rw [beq_eq_false_iff_ne]; omega
  have n2 : (f == 2) = false := by rw [beq_eq_false_iff_ne]; omega
  have n3 : (f == 3) = false := by rw [beq_eq_false_iff_ne]; omega
  have n4 : (f == 4) = false := by rw [beq_eq_false_iff_ne]; omega
  have n5 : (f == 5) = false := by rw [beq_eq_false_iff_ne]; omega
  have n6 : (f == 6) = false := by rw [beq_eq_false_iff_ne]; omega
  have n7 : (f == 7) = false := by rw [beq_eq_false_iff_ne]; omega
  have n8 : (f == 8) = false := by rw [beq_eq_false_iff_ne]; omega
  clear ha hb hf
  go_enter Tryz.func34, Tryz.ntmps34
  go_wp2
  go_ret2
  exact ⟨rfl, 0, rfl⟩
end Go.Proofs.YtghojndkcndjbaaGreatDoor

/- Layer 10: the reference's One, Length, Pair, Apply, walked. -/
namespace Go.Proofs.YtghojndkcndjbaaGreatDoor
set_option maxRecDepth 100000
open Go.RowKit Fl
set_option linter.unusedVariables false

set_option maxHeartbeats 2000000 in
theorem raone_calls (f : Int) (a b : Nat) (w : World) (ha : Num a) (hb : Num b) : Calls Tryz.prog 38 #[.int .i64 f, .float .f64 a, .float .f64 b] w (Pwd (oneA f a b) w) := by
 have HA := Lib.hid ha; have HB := Lib.hid hb; have LA := Lib.hid ha.1.1; have LB := Lib.hid hb.1.1
 rcases one_cases f with rfl | rfl | rfl | rfl | rfl | rfl | rfl | rfl | hf
 ·have HE := Lib.hid (show oneA 1 a b = rs (addw a b) by simp [oneA])
  have HS := Lib.hid (addw_spec ha.1 hb.1)
  rw [HE.out]; clear ha hb
  go_enter Tryz.func38, Tryz.ntmps38
  go_wp2_with (refine (reckon_add _ _ _ _ HS.out).mono ?_; rintro e w' ⟨rfl, rfl⟩)
  go_ret2
  exact ⟨rfl, 0, rfl⟩
 ·have HE := Lib.hid (show oneA 2 a b = rs (subw a b) by simp [oneA])
  have HS := Lib.hid (subw_spec ha.1 hb.1)
  rw [HE.out]; clear ha hb
  go_enter Tryz.func38, Tryz.ntmps38
  go_wp2_with (refine (reckon_sub _ _ _ _ HS.out).mono ?_; rintro e w' ⟨rfl, rfl⟩)
  go_ret2
  exact ⟨rfl, 0, rfl⟩
 ·have HE := Lib.hid (show oneA 3 a b = rs (mulw a b) by simp [oneA])
  have HS := Lib.hid (mulw_spec ha.1 hb.1)
  rw [HE.out]; clear ha hb
  go_enter Tryz.func38, Tryz.ntmps38
  go_wp2_with (refine (reckon_mul _ _ _ _ HS.out).mono ?_; rintro e w' ⟨rfl, rfl⟩)
  go_ret2
  exact ⟨rfl, 0, rfl⟩
 ·by_cases h0 : V b = 0
  ·have e0 := zero_of hb h0
   by_cases ha0 : V a = 0
   ·have e1 := zero_of ha ha0
    have HE := Lib.hid (show oneA 4 a b = (4607182418800017408, 0) by simp [oneA, quoA, h0, ha0])
    rw [HE.out, e0, e1]
    clear ha hb h0 ha0 e0 e1
    go_enter Tryz.func38, Tryz.ntmps38
    go_wp2_with (refine (reckon_none _).mono ?_; rintro e w' ⟨rfl, rfl⟩)
    go_ret2
    exact ⟨rfl, 0, rfl⟩
   ·have HE := Lib.hid (show oneA 4 a b = (0, 24) by simp [oneA, quoA, h0, ha0])
    have H0 := Lib.hid ha0
    rw [HE.out, e0]
    clear ha hb h0 ha0 e0
    go_enter Tryz.func38, Tryz.ntmps38
    go_wp2_with (refine (reckon_zero _ _ HA.out.1 H0.out).mono ?_; rintro e w' ⟨rfl, rfl⟩)
    go_ret2
    exact ⟨rfl, 0, rfl⟩
  ·have HE := Lib.hid (show oneA 4 a b = rs (quow a b) by simp [oneA, quoA, h0])
   have HS := Lib.hid (quow_spec ha.1 hb.1 h0)
   have H0 := Lib.hid h0; rw [HE.out]; clear ha hb h0
   go_enter Tryz.func38, Tryz.ntmps38
   go_wp2_with (refine (reckon_quo _ _ _ _ HA.out.1 HB.out.1 H0.out HS.out).mono ?_; rintro e w' ⟨rfl, rfl⟩)
   go_ret2
   exact ⟨rfl, 0, rfl⟩
 ·rcases ord_cases ha.1 hb.1 with ⟨hv, ho⟩ | ⟨hv, ho⟩ | ⟨hv, ho⟩
  all_goals
   have ho : FloatKind.f64.format.order a b = _ := ho
  ·have HE := Lib.hid (show oneA 5 a b = (b, 0) by simp [oneA, mxw, hv])
   rw [HE.out]; clear ha hb hv
   go_enter Tryz.func38, Tryz.ntmps38
   go_wp2
   go_ret2
   exact ⟨rfl, 0, rfl⟩
  ·have HE := Lib.hid (show oneA 5 a b = (a, 0) by simp [oneA, mxw, show ¬ V a < V b by omega])
   rw [HE.out]; clear ha hb hv
   go_enter Tryz.func38, Tryz.ntmps38
   go_wp2
   go_ret2
   exact ⟨rfl, 0, rfl⟩
  ·have HE := Lib.hid (show oneA 5 a b = (a, 0) by simp [oneA, mxw, show ¬ V a < V b by omega])
   rw [HE.out]; clear ha hb hv
   go_enter Tryz.func38, Tryz.ntmps38
   go_wp2
   go_ret2
   exact ⟨rfl, 0, rfl⟩
 ·rcases ord_cases ha.1 hb.1 with ⟨hv, ho⟩ | ⟨hv, ho⟩ | ⟨hv, ho⟩
  all_goals
   have ho : FloatKind.f64.format.order a b = _ := ho
  ·have HE := Lib.hid (show oneA 6 a b = (a, 0) by simp [oneA, mnw, show ¬ V b < V a by omega])
   rw [HE.out]; clear ha hb hv
   go_enter Tryz.func38, Tryz.ntmps38
   go_wp2
   go_ret2
   exact ⟨rfl, 0, rfl⟩
  ·have HE := Lib.hid (show oneA 6 a b = (a, 0) by simp [oneA, mnw, show ¬ V b < V a by omega])
   rw [HE.out]; clear ha hb hv
   go_enter Tryz.func38, Tryz.ntmps38
   go_wp2
   go_ret2
   exact ⟨rfl, 0, rfl⟩
  ·have HE := Lib.hid (show oneA 6 a b = (b, 0) by simp [oneA, mnw, hv])
   rw [HE.out]; clear ha hb hv
   go_enter Tryz.func38, Tryz.ntmps38
   go_wp2
   go_ret2
   exact ⟨rfl, 0, rfl⟩
 ·by_cases h1 : ∃ m, Wh a m
  ·obtain ⟨m, hm⟩ := h1
   have HM := Lib.hid hm
   by_cases h2 : ∃ n, Wh b n
   ·obtain ⟨n, hn⟩ := h2
    have HN := Lib.hid hn
    have HE := Lib.hid (show oneA 7 a b = (floatOfInt .f64 (rst m n), 0) by simp only [oneA]; exact restA_yes hm hn)
    have hc1 : ∀ w, (convert 22 2 (.float .f64 a)).run Tryz.prog w = .ok (.int .i64 m) w := fun w => run_convert_float_int w 22 2 .f64 .i64 a m (by kernel_rfl) (by kernel_rfl) (wh_int a m hm)
    have hc2 : ∀ w, (convert 22 2 (.float .f64 b)).run Tryz.prog w = .ok (.int .i64 n) w := fun w => run_convert_float_int w 22 2 .f64 .i64 b n (by kernel_rfl) (by kernel_rfl) (wh_int b n hn)
    have hc3 : ∀ w, (convert 2 22 (.int .i64 (rst m n))).run Tryz.prog w = .ok (.float .f64 (floatOfInt .f64 (rst m n))) w := fun w => run_convert_int_float w 2 22 .i64 .f64 _ (by kernel_rfl) (by kernel_rfl)
    have HF1 := Lib.hid (wh_wf hm)
    have HF2 := Lib.hid (wh_wf hn)
    rw [HE.out]; clear ha hb hm hn
    go_enter Tryz.func38, Tryz.ntmps38
    go_wp2_with (first | ((with_reducible refine (rwhole_yes a _ _ HM.out).mono ?_); rintro e w' ⟨rfl, rfl⟩) | ((with_reducible refine (rwhole_yes b _ _ HN.out).mono ?_); rintro e w' ⟨rfl, rfl⟩) | ((with_reducible refine (rrest_calls _ _ _ HF1.out HF2.out).mono ?_); rintro e w' ⟨rfl, rfl⟩))
    go_ret2
    exact ⟨rfl, 0, rfl⟩
   ·have HW2 : Hid (∀ n, ¬ Wh b n) := Lib.hid (fun n hn => h2 ⟨n, hn⟩)
    have HE := Lib.hid (show oneA 7 a b = (0, 24) by simp only [oneA]; exact restA_no (fun h => h2 h.2))
    rw [HE.out]; clear ha hb hm h2
    go_enter Tryz.func38, Tryz.ntmps38
    go_wp2_with (first | ((with_reducible refine (rwhole_yes a _ _ HM.out).mono ?_); rintro e w' ⟨rfl, rfl⟩) | ((with_reducible refine (rwhole_no b _ LB.out HW2.out).mono ?_); rintro e w' ⟨rfl, rfl⟩))
    go_ret2
    exact ⟨rfl, 0, rfl⟩
  ·have HW1 : Hid (∀ m, ¬ Wh a m) := Lib.hid (fun n hn => h1 ⟨n, hn⟩)
   have HE := Lib.hid (show oneA 7 a b = (0, 24) by simp only [oneA]; exact restA_no (fun h => h1 h.1))
   rw [HE.out]; clear ha hb h1
   go_enter Tryz.func38, Tryz.ntmps38
   go_wp2_with ((with_reducible refine (rwhole_no a _ LA.out HW1.out).mono ?_); rintro e w' ⟨rfl, rfl⟩)
   go_ret2
   exact ⟨rfl, 0, rfl⟩
 ·by_cases h1 : ∃ n, Wh b n
  ·obtain ⟨n, hn⟩ := h1
   have HN := Lib.hid hn
   by_cases h2 : n.natAbs ≤ 1023
   ·have HE := Lib.hid (show oneA 8 a b = pwr a n by simp only [oneA]; exact powA_yes hn h2)
    have H2 := Lib.hid h2; rw [HE.out]; clear ha hb hn h2
    go_enter Tryz.func38, Tryz.ntmps38
    go_wp2_with ((with_reducible refine (rpower_calls _ _ _ _ LA.out HN.out H2.out).mono ?_); rintro e w' ⟨rfl, m, rfl⟩)
    go_ret2
    exact ⟨rfl, m, rfl⟩
   ·have HE := Lib.hid (show oneA 8 a b = (0, 24) by simp only [oneA]; exact powA_much hn (by omega))
    have H2 := Lib.hid (show 1023 < n.natAbs by omega)
    rw [HE.out]; clear ha hb hn h2
    go_enter Tryz.func38, Tryz.ntmps38
    go_wp2_with ((with_reducible refine (rpower_much _ _ _ _ HN.out H2.out).mono ?_); rintro e w' ⟨rfl, m, rfl⟩)
    go_ret2
    exact ⟨rfl, m, rfl⟩
  ·have H1 : Hid (∀ n, ¬ Wh b n) := Lib.hid (fun n hn => h1 ⟨n, hn⟩)
   have HE := Lib.hid (show oneA 8 a b = (0, 24) by simp only [oneA]; exact powA_no H1.out)
   rw [HE.out]; clear ha hb h1
   go_enter Tryz.func38, Tryz.ntmps38
   go_wp2_with ((with_reducible refine (rpower_no _ _ _ LB.out H1.out).mono ?_); rintro e w' ⟨rfl, m, rfl⟩)
   go_ret2
   exact ⟨rfl, m, rfl⟩
 ·have HE := Lib.hid (oneA_arg (f := f) a b hf)
  rw [HE.out]
  have n1 : (f == 1) = false := by rw [beq_eq_false_iff_ne]; omega
  have n2 : (f == 2) = false := by rw [beq_eq_false_iff_ne]; omega
  have n3 : (f == 3) = false := by rw [beq_eq_false_iff_ne]; omega
  have n4 : (f == 4) = false := by rw [beq_eq_false_iff_ne]; omega
  have n5 : (f == 5) = false := by rw [beq_eq_false_iff_ne]; omega
  have n6 : (f == 6) = false := by rw [beq_eq_false_iff_ne]; omega
  have n7 : (f == 7) = false := by rw [beq_eq_false_iff_ne]; omega
  have n8 : (f == 8) = false := by rw [beq_eq_false_iff_ne]; omega
  clear ha hb hf
  go_enter Tryz.func38, Tryz.ntmps38
  go_wp2
  go_ret2
  exact ⟨rfl, 0, rfl⟩
end Go.Proofs.YtghojndkcndjbaaGreatDoor

/- Package arith, walked: ofWholes, ofNumbers. -/
namespace Go.Proofs.YtghojndkcndjbaaGreatDoor
set_option maxRecDepth 100000
open Go.RowKit Fl
set_option linter.unusedVariables false

end Go.Proofs.YtghojndkcndjbaaGreatDoor

/- Package arith, walked: Apply. -/
namespace Go.Proofs.YtghojndkcndjbaaGreatDoor
set_option maxRecDepth 100000
open Go.RowKit Fl
set_option linter.unusedVariables false

end Go.Proofs.YtghojndkcndjbaaGreatDoor

/- Layer 10: the reference's Pair, Apply, walked. -/
namespace Go.Proofs.YtghojndkcndjbaaGreatDoor
set_option maxRecDepth 100000
open Go.RowKit Fl
set_option linter.unusedVariables false

end Go.Proofs.YtghojndkcndjbaaGreatDoor

/- Layer 10's laws: kept, awake. -/
namespace Go.Proofs.YtghojndkcndjbaaGreatDoor
set_option maxRecDepth 100000
open Go.RowKit Fl
set_option linter.unusedVariables false

/-- Numbers in a store: a vector that holds them, or none. -/
def Kep (l : List Nat) (V : VV) : Prop := V.ok ∧ V.nm ∧ V.cls = 0 ∧ V.nums = l ∧ V.len = l.length
theorem kep_floats {t : List Nat} (hl : t.length ≤ 1048576) (hN : ∀ x ∈ t, Num x) : Kep t (.floats t) := ⟨hl, hN, rfl, rfl, rfl⟩
theorem kep_into {t : List Nat} {k : Int} (hl : t.length ≤ 1048576) (hN : ∀ x ∈ t, Num x) (h : (VV.floats t).fit k = true) : Kep t ((VV.floats t).into k) := by
 obtain ⟨_, h2, h3, h4, h5, h6⟩ := VV.into_spec (V := VV.floats t) hl hN h
 exact ⟨h4, h5, h3, h2, h6⟩
end Go.Proofs.YtghojndkcndjbaaGreatDoor

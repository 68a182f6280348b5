/- Merged: ArM, ArB, ArC, ArA, ArD, ArE, ArF, ArG. -/
import Derived.Test.YtbacchbcanlciaaGreatDoorMgNu1
import Derived.Test.YtbacchbcanlciaaGreatDoorMgMo1
import Derived.Test.YtbacchbcanlciaaGreatDoorMgVe1
import Derived.Test.YtbacchbcanlciaaGreatDoorMgSq1
namespace Go.Proofs.YtbacchbcanlciaaGreatDoor
set_option maxRecDepth 100000
open Go.RowKit Fl
set_option linter.unusedVariables false

noncomputable def sqL (l : List Nat) : VV := (VV.floats l).sq
theorem sqL_spec {l : List Nat} (hl : l.length ≤ 1048576) (hN : ∀ x ∈ l, Num x) : (sqL l).nums = l ∧ (sqL l).ok ∧ (sqL l).nm ∧ (sqL l).cls = 0 ∧ 0 < (sqL l).kind ∧ (sqL l).kind = (sqL l).least ∧ (sqL l).len = l.length := by
 obtain ⟨s1, s2, s3, s4, s5, s6⟩ := VV.sq_spec (V := VV.floats l) hl hN
 have h0 : (VV.floats l).sq.cls = 0 := s3
 refine ⟨s2, s4, s5, h0, ?_, ?_, s6⟩
 ·show 0 < (VV.floats l).sq.kind
  rw [s1]
  have := (least_bd (VV.floats l) rfl).1
  omega
 ·show (VV.floats l).sq.kind = ((VV.floats l).sq.least : Int)
  rw [VV.least_eq s4 s5 h0, s2, VV.sq_kind (V := VV.floats l) hl hN rfl]
theorem bit_flag (b : Bool) : bitW (flagW b) = b := by
 unfold bitW
 rw [V_flagW]
 have hp := pw_pos 1074
 cases b
 ·rw [decide_eq_false]; simp; omega
 ·simp
theorem wn_ofInt {n : Int} (h : n.natAbs ≤ 9007199254740992) : wnOf (floatOfInt .f64 n) = n := wnOf_wh (wh_of n h)
theorem VV.canon {V : VV} (hok : V.ok) (hn : V.nm) (hc : V.cls = 0) (hk : V.kind = V.least) (h0 : 0 < V.kind) : V = sqL V.nums := by
 have hlen := VV.ok_len hok
 have hnl := VV.nums_lenle (V := V)
 have hN := VV.nums_num hok hn
 have hle := VV.least_eq hok hn hc
 have hF : (VV.floats V.nums).ok := by show V.nums.length ≤ 1048576; omega
 have hl2 : (VV.floats V.nums).least = V.least := by rw [VV.least_eq hF hN rfl, hle]; rfl
 have hfit := VV.fit_least' (VV.floats V.nums)
 have e : sqL V.nums = (VV.floats V.nums).into V.kind := by unfold sqL VV.sq; rw [hl2, ← hk]
 rw [hl2, ← hk] at hfit
 rw [e]
 have hfn : ¬ (VV.floats V.nums).fit V.kind = false := by rw [hfit]; decide
 unfold VV.into
 cases V with
 | none => simp [VV.kind] at h0
 | chars l => simp [VV.cls] at hc
 | boxes l => simp [VV.cls] at hc
 | bits l =>
  rw [if_neg (by show ¬ (4 : Int) = 1; decide), if_neg hfn, if_pos (show (VV.bits l).kind = 1 from rfl)]
  show VV.bits l = VV.bits ((l.map flagW).map bitW)
  rw [map_back (fun b _ => bit_flag b)]
 | smalls l =>
  rw [if_neg (by show ¬ (4 : Int) = 2; decide), if_neg hfn, if_neg (by show ¬ (2 : Int) = 1; decide), if_pos (show (VV.smalls l).kind = 2 from rfl)]
  show VV.smalls l = VV.smalls ((l.map (floatOfInt .f64)).map wnOf)
  rw [map_back (fun n hx => wn_ofInt (by have := hok.2 n hx; omega))]
 | ints l =>
  rw [if_neg (by show ¬ (4 : Int) = 3; decide), if_neg hfn, if_neg (by show ¬ (3 : Int) = 1; decide), if_neg (by show ¬ (3 : Int) = 2; decide), if_pos (show (VV.ints l).kind = 3 from rfl)]
  show VV.ints l = VV.ints ((l.map (floatOfInt .f64)).map wnOf)
  rw [map_back (fun n hx => wn_ofInt (by have := sm_of (hn n hx); omega))]
 | floats l =>
  rw [if_pos (show (VV.floats (VV.floats l).nums).kind = (VV.floats l).kind from rfl)]
  rfl

def errG {α : Type} (g : α → Nat × Int) : List α → Int
 | [] => 0
 | x :: l => if (g x).2 = 0 then errG g l else (g x).2
def outG {α : Type} (g : α → Nat × Int) (l : List α) : List Nat := l.map fun x => (g x).1
theorem errG_step {α : Type} {g : α → Nat × Int} {l : List α} {k : Nat} {x : α} (h : l[k]? = some x) : errG g (l.drop k) = if (g x).2 = 0 then errG g (l.drop (k + 1)) else (g x).2 := by
 obtain ⟨hk, e⟩ := List.getElem?_eq_some_iff.1 h
 rw [List.drop_eq_getElem_cons hk, e, errG]
theorem errG_all {α : Type} {g : α → Nat × Int} {l : List α} (h : ∀ x ∈ l, (g x).2 = 0) : errG g l = 0 := by
 induction l with
 | nil => rfl
 | cons x l ih => rw [errG, if_pos (h x List.mem_cons_self)]; exact ih fun y hy => h y (List.mem_cons_of_mem _ hy)
theorem errG_zero {α : Type} {g : α → Nat × Int} {l : List α} (h : errG g l = 0) : ∀ x ∈ l, (g x).2 = 0 := by
 induction l with
 | nil => intro x hx; cases hx
 | cons y l ih =>
  rw [errG] at h
  split at h
  ·intro x hx
   rcases List.mem_cons.1 hx with rfl | hx
   ·assumption
   ·exact ih h x hx
  ·contradiction
theorem errG_err {α : Type} {g : α → Nat × Int} {c : Int} (hg : ∀ x, (g x).2 = 0 ∨ (g x).2 = c) : ∀ l, errG g l = 0 ∨ errG g l = c := by
 intro l
 induction l with
 | nil => exact Or.inl rfl
 | cons x l ih =>
  rw [errG]
  split
  ·exact ih
  ·rcases hg x with h | h
   ·contradiction
   ·exact Or.inr h
theorem outG_num {α : Type} {g : α → Nat × Int} {l : List α} (h : ∀ x ∈ l, Num (g x).1) : ∀ x ∈ outG g l, Num x := by
 intro x hx
 obtain ⟨y, hy, rfl⟩ := List.mem_map.1 hx
 exact h y hy
theorem outG_len {α : Type} (g : α → Nat × Int) (l : List α) : (outG g l).length = l.length := by simp [outG]
theorem outG_take {α : Type} {g : α → Nat × Int} {l : List α} {k : Nat} {x : α} (h : l[k]? = some x) : outG g (l.take (k + 1)) = outG g (l.take k) ++ [(g x).1] := by
 obtain ⟨hk, e⟩ := List.getElem?_eq_some_iff.1 h
 unfold outG
 rw [List.take_succ_eq_append_getElem hk, e]; simp

def addw (a b : Nat) : Nat := (Ieee.double.add a b).getD 0
def subw (a b : Nat) : Nat := (Ieee.double.sub a b).getD 0
def mulw (a b : Nat) : Nat := (Ieee.double.mul a b).getD 0
def quow (a b : Nat) : Nat := (Ieee.double.div a b).getD 0
theorem addw_spec {a b : Nat} (ha : Fnt a) (hb : Fnt b) : floatBits .add .f64 a b = some (addw a b) := by
 obtain ⟨z, hz⟩ : ∃ z, Ieee.double.add a b = some z := ⟨_, add_fin ha hb⟩
 have e : addw a b = z := by unfold addw; rw [hz]; rfl
 rw [e]; exact hz
theorem subw_spec {a b : Nat} (ha : Fnt a) (hb : Fnt b) : floatBits .sub .f64 a b = some (subw a b) := by
 obtain ⟨z, hz⟩ : ∃ z, Ieee.double.sub a b = some z := ⟨_, sub_fin ha hb⟩
 have e : subw a b = z := by unfold subw; rw [hz]; rfl
 rw [e]; exact hz
theorem mulw_spec {a b : Nat} (ha : Fnt a) (hb : Fnt b) : floatBits .mul .f64 a b = some (mulw a b) := by
 obtain ⟨z, hz⟩ : ∃ z, Ieee.double.mul a b = some z := ⟨_, mul_fin ha hb⟩
 have e : mulw a b = z := by unfold mulw; rw [hz]; rfl
 rw [e]; exact hz
theorem quow_spec {a b : Nat} (ha : Fnt a) (hb : Fnt b) (h0 : V b ≠ 0) : floatBits .quo .f64 a b = some (quow a b) := by
 obtain ⟨z, hz⟩ := div_some ha hb h0
 have e : quow a b = z := by unfold quow; rw [hz]; rfl
 rw [e]; exact hz
theorem floatBits_lt {op : BinOp} {a b z : Nat} (h : floatBits op .f64 a b = some z) : z < 18446744073709551616 := wf_f64 (floatBits_wf h)
def quoA (a b : Nat) : Nat × Int := if V b ≠ 0 then rs (quow a b) else if V a ≠ 0 then (0, 24) else (4607182418800017408, 0)
open Classical in
noncomputable def restA (a b : Nat) : Nat × Int := if (∃ m, Wh a m) ∧ ∃ n, Wh b n then (floatOfInt .f64 (rst (wnOf a) (wnOf b)), 0) else (0, 24)
open Classical in
noncomputable def powA (a b : Nat) : Nat × Int := if ∃ n : Int, Wh b n ∧ n.natAbs ≤ 1023 then pwr a (wnOf b) else (0, 24)
noncomputable def oneA (f : Int) (a b : Nat) : Nat × Int :=
 if f = 1 then rs (addw a b) else if f = 2 then rs (subw a b) else if f = 3 then rs (mulw a b) else if f = 4 then quoA a b
 else if f = 5 then (mxw a b, 0) else if f = 6 then (mnw a b, 0) else if f = 7 then restA a b else if f = 8 then powA a b
 else (0, 1)
theorem restA_yes {a b : Nat} {m n : Int} (ha : Wh a m) (hb : Wh b n) : restA a b = (floatOfInt .f64 (rst m n), 0) := by
 unfold restA; rw [if_pos ⟨⟨m, ha⟩, ⟨n, hb⟩⟩, wnOf_wh ha, wnOf_wh hb]
theorem restA_no {a b : Nat} (h : ¬ ((∃ m, Wh a m) ∧ ∃ n, Wh b n)) : restA a b = (0, 24) := by unfold restA; rw [if_neg h]
theorem powA_yes {a b : Nat} {n : Int} (hb : Wh b n) (h : n.natAbs ≤ 1023) : powA a b = pwr a n := by unfold powA; rw [if_pos ⟨n, hb, h⟩, wnOf_wh hb]
theorem powA_no {a b : Nat} (h : ∀ n : Int, ¬ Wh b n) : powA a b = (0, 24) := by unfold powA; rw [if_neg (fun ⟨n, h1, _⟩ => h n h1)]
theorem powA_much {a b : Nat} {n : Int} (hb : Wh b n) (h : 1023 < n.natAbs) : powA a b = (0, 24) := by
 unfold powA
 rw [if_neg]
 rintro ⟨m, h1, h2⟩
 rw [wh_unique h1 hb] at h2
 omega
theorem pwr_err (a : Nat) (n : Int) : (pwr a n).2 = 0 ∨ (pwr a n).2 = 24 := by
 unfold pwr
 repeat' (first | split | exact rs_err _ | exact Or.inl rfl | exact Or.inr rfl)
theorem oneA_err {f : Int} (a b : Nat) (h1 : 1 ≤ f) (h8 : f ≤ 8) : (oneA f a b).2 = 0 ∨ (oneA f a b).2 = 24 := by
 unfold oneA quoA restA powA
 repeat' (first | split | exact rs_err _ | exact pwr_err _ _ | exact Or.inl rfl | exact Or.inr rfl | omega)
theorem oneA_arg {f : Int} (a b : Nat) (h : ¬ (1 ≤ f ∧ f ≤ 8)) : oneA f a b = (0, 1) := by
 unfold oneA
 rw [if_neg (by omega), if_neg (by omega), if_neg (by omega), if_neg (by omega), if_neg (by omega), if_neg (by omega), if_neg (by omega), if_neg (by omega)]
theorem oneA_num {f : Int} {a b : Nat} (ha : Num a) (hb : Num b) : Num (oneA f a b).1 := by
 unfold oneA
 split; exact rs_num _ (floatBits_lt (addw_spec ha.1 hb.1))
 split; exact rs_num _ (floatBits_lt (subw_spec ha.1 hb.1))
 split; exact rs_num _ (floatBits_lt (mulw_spec ha.1 hb.1))
 split
 ·unfold quoA
  split
  ·exact rs_num _ (floatBits_lt (quow_spec ha.1 hb.1 (by assumption)))
  ·split
   ·exact num_zero
   ·exact num_one
 split; (unfold mxw; split; exact hb; exact ha)
 split; (unfold mnw; split; exact hb; exact ha)
 split
 ·unfold restA
  split
  ·rename_i h
   obtain ⟨⟨m, hm⟩, ⟨n, hn⟩⟩ := h
   rw [wnOf_wh hm, wnOf_wh hn]
   have := rst_small hm.2.1 hn.2.1
   exact num_ofInt _ (sm_yes (by omega) (by omega))
  ·exact num_zero
 split
 ·unfold powA
  split
  ·exact pwr_num' _ _
  ·exact num_zero
 exact num_zero
end Go.Proofs.YtbacchbcanlciaaGreatDoor

namespace Go.Proofs.YtbacchbcanlciaaGreatDoor
set_option maxRecDepth 100000
open Go.RowKit Fl
set_option linter.unusedVariables false

def pk {α : Type} (d : α) (l : List α) (i : Nat) : α := l.getD (if l.length = 1 then 0 else i) d
def prs {α : Type} (d : α) (a b : List α) (n : Nat) : List (α × α) := (List.range n).map fun i => (pk d a i, pk d b i)
theorem prs_len {α : Type} (d : α) (a b : List α) (n : Nat) : (prs d a b n).length = n := by simp [prs]
theorem prs_get {α : Type} {d : α} {a b : List α} {n k : Nat} (h : k < n) : (prs d a b n)[k]? = some (pk d a k, pk d b k) := by
 unfold prs
 rw [List.getElem?_map, List.getElem?_range h]; rfl
theorem pk_map {α β : Type} (g : α → β) (d : α) (l : List α) (i : Nat) : pk (g d) (l.map g) i = g (pk d l i) := by
 unfold pk
 rw [List.length_map, List.getD_eq_getElem?_getD, List.getD_eq_getElem?_getD, List.getElem?_map]
 cases l[if l.length = 1 then 0 else i]? <;> rfl
theorem prs_map {α β : Type} (g : α → β) (d : α) (a b : List α) (n : Nat) : prs (g d) (a.map g) (b.map g) n = (prs d a b n).map fun p => (g p.1, g p.2) := by
 unfold prs
 rw [List.map_map]
 exact List.map_congr_left fun i _ => by show (pk (g d) (a.map g) i, pk (g d) (b.map g) i) = _; rw [pk_map, pk_map]; rfl
theorem pk_mem {α : Type} {d : α} {l : List α} {i : Nat} (h : l.length = 1 ∨ i < l.length) : pk d l i ∈ l := by
 unfold pk
 have hi : (if l.length = 1 then 0 else i) < l.length := by split <;> omega
 rw [List.getD_eq_getElem?_getD, List.getElem?_eq_getElem hi]
 exact List.getElem_mem hi
abbrev goesA (m n : Nat) : Prop := m = n ∨ n = 1 ∨ m = 1
def lenN (m n : Nat) : Nat := if m = n ∨ n = 1 then m else n
theorem lenN_in {m n i : Nat} (h : goesA m n) (hi : i < lenN m n) : (m = 1 ∨ i < m) ∧ (n = 1 ∨ i < n) := by
 unfold lenN at hi
 split at hi <;> omega
theorem lenN_le {m n k : Nat} (h1 : m ≤ k) (h2 : n ≤ k) : lenN m n ≤ k := by unfold lenN; split <;> omega
theorem prs_mem {α : Type} {d : α} {a b : List α} (h : goesA a.length b.length) {p : α × α} (hp : p ∈ prs d a b (lenN a.length b.length)) : p.1 ∈ a ∧ p.2 ∈ b := by
 unfold prs at hp
 obtain ⟨i, hi, rfl⟩ := List.mem_map.1 hp
 obtain ⟨h1, h2⟩ := lenN_in h (List.mem_range.1 hi)
 exact ⟨pk_mem h1, pk_mem h2⟩
noncomputable def gAr (f : Int) (p : Nat × Nat) : Nat × Int := oneA f p.1 p.2
theorem gAr_num {f : Int} {a b : List Nat} (h : goesA a.length b.length) (ha : ∀ x ∈ a, Num x) (hb : ∀ x ∈ b, Num x) : ∀ x ∈ outG (gAr f) (prs 0 a b (lenN a.length b.length)), Num x :=
 outG_num fun p hp => oneA_num (ha _ (prs_mem h hp).1) (hb _ (prs_mem h hp).2)

def whA (f a b : Int) : Int × Bool :=
 if f = 1 then (if sm (a + b) then a + b else 0, sm (a + b)) else if f = 2 then (if sm (a - b) then a - b else 0, sm (a - b))
 else if f = 3 then (if pm a b then a * b else 0, pm a b) else if f = 5 then (max a b, true) else if f = 6 then (min a b, true)
 else if f = 7 then (rst a b, true) else (0, false)
theorem rs_whole {z : Nat} {n : Int} (hf : Fnt z) (hn : sm n = true) (hv : V z = n * pw 1074) : rs z = (floatOfInt .f64 n, 0) := by
 have h := sm_of hn
 rw [rs_fin hf, V_inj (ze_num hf) (num_ofInt n hn) (by rw [ze_val, hv, ofInt_val n (by omega)])]
theorem whA_one {f a b : Int} (ha : sm a = true) (hb : sm b = true) (h : (whA f a b).2 = true) : oneA f (floatOfInt .f64 a) (floatOfInt .f64 b) = (floatOfInt .f64 (whA f a b).1, 0) ∧ sm (whA f a b).1 = true := by
 have h1 := sm_of ha
 have h2 := sm_of hb
 have va := ofInt_val a (by omega)
 have vb := ofInt_val b (by omega)
 have hp := pw_pos 1074
 unfold whA at h ⊢
 by_cases e1 : f = 1
 ·subst e1
  rw [if_pos rfl] at h ⊢
  have hs : sm (a + b) = true := h
  have h3 := sm_of hs
  obtain ⟨z, hz, hf, hv⟩ := whole_sum (a := a) (b := b) (by omega) (by omega)
  have ez : addw (floatOfInt .f64 a) (floatOfInt .f64 b) = z := by unfold addw; rw [hz]; rfl
  have eo : oneA 1 (floatOfInt .f64 a) (floatOfInt .f64 b) = rs z := by unfold oneA; rw [if_pos rfl, ez]
  rw [eo, hs]
  exact ⟨rs_whole hf hs (hv (by omega)), hs⟩
 rw [if_neg e1] at h ⊢
 by_cases e2 : f = 2
 ·subst e2
  rw [if_pos rfl] at h ⊢
  have hs : sm (a - b) = true := h
  have h3 := sm_of hs
  obtain ⟨z, hz, hf, hv⟩ := whole_diff (a := a) (b := b) (by omega) (by omega)
  have ez : subw (floatOfInt .f64 a) (floatOfInt .f64 b) = z := by unfold subw; rw [hz]; rfl
  have eo : oneA 2 (floatOfInt .f64 a) (floatOfInt .f64 b) = rs z := by unfold oneA; rw [if_neg (by decide), if_pos rfl, ez]
  rw [eo, hs]
  exact ⟨rs_whole hf hs (hv (by omega)), hs⟩
 rw [if_neg e2] at h ⊢
 by_cases e3 : f = 3
 ·subst e3
  rw [if_pos rfl] at h ⊢
  have hs : pm a b = true := h
  have h3 := pm_bound hs
  obtain ⟨z, hz, hf, hv⟩ := whole_prod (a := a) (b := b) (by omega) (by omega)
  have ez : mulw (floatOfInt .f64 a) (floatOfInt .f64 b) = z := by unfold mulw; rw [hz]; rfl
  have eo : oneA 3 (floatOfInt .f64 a) (floatOfInt .f64 b) = rs z := by unfold oneA; rw [if_neg (by decide), if_neg (by decide), if_pos rfl, ez]
  have hm : sm (a * b) = true := sm_yes h3.1 h3.2
  rw [eo, hs]
  exact ⟨rs_whole hf hm (hv (by omega)), hm⟩
 rw [if_neg e3] at h ⊢
 have hlt : V (floatOfInt .f64 a) < V (floatOfInt .f64 b) ↔ a < b := by
  rw [va, vb]; exact Int.mul_lt_mul_right (by omega)
 have hlt2 : V (floatOfInt .f64 b) < V (floatOfInt .f64 a) ↔ b < a := by
  rw [va, vb]; exact Int.mul_lt_mul_right (by omega)
 by_cases e5 : f = 5
 ·subst e5
  rw [if_pos rfl]
  have eo : oneA 5 (floatOfInt .f64 a) (floatOfInt .f64 b) = (mxw (floatOfInt .f64 a) (floatOfInt .f64 b), 0) := by simp [oneA]
  rw [eo]
  unfold mxw
  by_cases hl : a < b
  ·rw [if_pos (hlt.2 hl)]; have e : max a b = b := by omega
   show _ = (floatOfInt .f64 (max a b), 0) ∧ sm (max a b) = true
   rw [e]; exact ⟨rfl, hb⟩
  ·rw [if_neg (fun h => hl (hlt.1 h))]; have e : max a b = a := by omega
   show _ = (floatOfInt .f64 (max a b), 0) ∧ sm (max a b) = true
   rw [e]; exact ⟨rfl, ha⟩
 rw [if_neg e5] at h ⊢
 by_cases e6 : f = 6
 ·subst e6
  rw [if_pos rfl]
  have eo : oneA 6 (floatOfInt .f64 a) (floatOfInt .f64 b) = (mnw (floatOfInt .f64 a) (floatOfInt .f64 b), 0) := by simp [oneA]
  rw [eo]
  unfold mnw
  by_cases hl : b < a
  ·rw [if_pos (hlt2.2 hl)]; have e : min a b = b := by omega
   show _ = (floatOfInt .f64 (min a b), 0) ∧ sm (min a b) = true
   rw [e]; exact ⟨rfl, hb⟩
  ·rw [if_neg (fun h => hl (hlt2.1 h))]; have e : min a b = a := by omega
   show _ = (floatOfInt .f64 (min a b), 0) ∧ sm (min a b) = true
   rw [e]; exact ⟨rfl, ha⟩
 rw [if_neg e6] at h ⊢
 by_cases e7 : f = 7
 ·subst e7
  rw [if_pos rfl]
  have eo : oneA 7 (floatOfInt .f64 a) (floatOfInt .f64 b) = restA (floatOfInt .f64 a) (floatOfInt .f64 b) := by simp [oneA]
  rw [eo, restA_yes (wh_of a (by omega)) (wh_of b (by omega))]
  have := rst_small (m := a) (n := b) (by omega) (by omega)
  exact ⟨rfl, sm_yes (by show _ ≤ rst a b; omega) (by show rst a b ≤ _; omega)⟩
 rw [if_neg e7] at h
 cases h

theorem VV.nums_len0 {V : VV} (h : V.cls = 0) : V.nums.length = V.len := by
 cases V <;> first | (simp [VV.nums, VV.len]; done) | (simp [VV.cls] at h)
theorem VV.whole_nums {V : VV} (hok : V.ok) (hn : V.nm) (h : V.isWh = true) : V.nums = V.whs.map (floatOfInt .f64) ∧ (∀ z ∈ V.whs, sm z = true) ∧ V.whs.length = V.len := by
 cases V with
 | bits l =>
  refine ⟨flag_map l, ?_, by simp [VV.whs, VV.len]⟩
  intro z hz
  obtain ⟨b, _, rfl⟩ := List.mem_map.1 hz
  cases b <;> decide
 | smalls l => exact ⟨rfl, fun z hz => sm_i8 (hok.2 z hz).1 (hok.2 z hz).2, rfl⟩
 | ints l => exact ⟨rfl, hn, rfl⟩
 | none => simp [VV.isWh] at h
 | floats l => simp [VV.isWh] at h
 | chars l => simp [VV.isWh] at h
 | boxes l => simp [VV.isWh] at h
def outW (f : Int) (l : List (Int × Int)) : List Int := l.map fun p => (whA f p.1 p.2).1
theorem outW_len (f : Int) (l : List (Int × Int)) : (outW f l).length = l.length := by simp [outW]
theorem outW_get {f : Int} {l : List (Int × Int)} {k : Nat} {p : Int × Int} (h : l[k]? = some p) : (outW f l)[k]? = some (whA f p.1 p.2).1 := by unfold outW; rw [List.getElem?_map, h]; rfl
theorem ofInt_zero : floatOfInt .f64 0 = 0 := by decide +kernel
theorem sqW_eq {l : List Int} (hl : l.length ≤ 1048576) (hs : ∀ z ∈ l, sm z = true) : (VV.ints l).sq = sqL (l.map (floatOfInt .f64)) := by
 obtain ⟨s1, s2, s3, s4, s5, s6⟩ := VV.sq_spec (V := VV.ints l) hl hs
 have h0 : (VV.ints l).sq.cls = 0 := s3
 have hc := VV.canon s4 s5 h0 (by rw [VV.least_eq s4 s5 h0, s2, VV.sq_kind (V := VV.ints l) hl hs rfl]) (by
  rw [s1]
  have := (least_bd (VV.ints l) rfl).1
  omega)
 rw [hc, s2]; rfl
theorem whole_all {f : Int} {A B : VV} (hA : A.ok) (hB : B.ok) (nA : A.nm) (nB : B.nm) (wA : A.isWh = true) (wB : B.isWh = true) (hg : goesA A.len B.len)
  (hall : ∀ p ∈ prs 0 A.whs B.whs (lenN A.len B.len), (whA f p.1 p.2).2 = true) :
  (∀ z ∈ outW f (prs 0 A.whs B.whs (lenN A.len B.len)), sm z = true) ∧ errG (gAr f) (prs 0 A.nums B.nums (lenN A.len B.len)) = 0 ∧
   (VV.ints (outW f (prs 0 A.whs B.whs (lenN A.len B.len)))).sq = sqL (outG (gAr f) (prs 0 A.nums B.nums (lenN A.len B.len))) := by
 obtain ⟨eA, sA, lA⟩ := VV.whole_nums hA nA wA
 obtain ⟨eB, sB, lB⟩ := VV.whole_nums hB nB wB
 have hP : prs 0 A.nums B.nums (lenN A.len B.len) = (prs 0 A.whs B.whs (lenN A.len B.len)).map fun p => (floatOfInt .f64 p.1, floatOfInt .f64 p.2) := by
  rw [eA, eB, ← prs_map (floatOfInt .f64) 0, ofInt_zero]
 have hin : ∀ p ∈ prs 0 A.whs B.whs (lenN A.len B.len), sm p.1 = true ∧ sm p.2 = true := by
  intro p hp
  rw [← lA, ← lB] at hp hg
  obtain ⟨h1, h2⟩ := prs_mem hg hp
  exact ⟨sA _ h1, sB _ h2⟩
 have h1 : ∀ z ∈ outW f (prs 0 A.whs B.whs (lenN A.len B.len)), sm z = true := by
  intro z hz
  obtain ⟨p, hp, rfl⟩ := List.mem_map.1 hz
  exact (whA_one (hin p hp).1 (hin p hp).2 (hall p hp)).2
 refine ⟨h1, ?_, ?_⟩
 ·rw [hP]
  refine errG_all fun q hq => ?_
  obtain ⟨p, hp, rfl⟩ := List.mem_map.1 hq
  show (oneA f _ _).2 = 0
  rw [(whA_one (hin p hp).1 (hin p hp).2 (hall p hp)).1]
 ·have hL : (outW f (prs 0 A.whs B.whs (lenN A.len B.len))).length ≤ 1048576 := by
   rw [outW_len, prs_len]; exact lenN_le (VV.ok_len hA) (VV.ok_len hB)
  rw [sqW_eq hL h1, hP]
  unfold outG outW
  rw [List.map_map, List.map_map]
  congr 1
  refine List.map_congr_left fun p hp => ?_
  show floatOfInt .f64 (whA f p.1 p.2).1 = (oneA f _ _).1
  rw [(whA_one (hin p hp).1 (hin p hp).2 (hall p hp)).1]

noncomputable def apE (f : Int) (A B : VV) : Int :=
 if 1 ≤ f ∧ f ≤ 8 then (if goesA A.len B.len then (if A.cls = 0 ∧ B.cls = 0 then errG (gAr f) (prs 0 A.nums B.nums (lenN A.len B.len)) else 24) else 23) else 1
noncomputable def apV (f : Int) (A B : VV) : VV := if apE f A B = 0 then sqL (outG (gAr f) (prs 0 A.nums B.nums (lenN A.len B.len))) else .none
theorem apV_none {f : Int} {A B : VV} (h : apE f A B ≠ 0) : apV f A B = .none := if_neg h
theorem apE_zero {f : Int} {A B : VV} (h : apE f A B = 0) : (1 ≤ f ∧ f ≤ 8) ∧ goesA A.len B.len ∧ A.cls = 0 ∧ B.cls = 0 ∧ errG (gAr f) (prs 0 A.nums B.nums (lenN A.len B.len)) = 0 := by
 unfold apE at h
 split at h
 ·split at h
  ·split at h
   ·rename_i h1 h2 h3; exact ⟨h1, h2, h3.1, h3.2, h⟩
   ·cases h
  ·cases h
 ·cases h
theorem apV_spec {f : Int} {A B : VV} (hA : A.ok) (hB : B.ok) (nA : A.nm) (nB : B.nm) (h : apE f A B = 0) :
  (apV f A B).nums = outG (gAr f) (prs 0 A.nums B.nums (lenN A.len B.len)) ∧ (apV f A B).ok ∧ (apV f A B).nm ∧ (apV f A B).cls = 0 ∧ 0 < (apV f A B).kind ∧ (apV f A B).kind = (apV f A B).least := by
 obtain ⟨_, hg, cA, cB, _⟩ := apE_zero h
 unfold apV
 rw [if_pos h]
 have hN : ∀ x ∈ outG (gAr f) (prs 0 A.nums B.nums (lenN A.len B.len)), Num x := by
  have l1 := VV.nums_len0 cA
  have l2 := VV.nums_len0 cB
  rw [← l1, ← l2] at hg ⊢
  exact gAr_num hg (VV.nums_num hA nA) (VV.nums_num hB nB)
 obtain ⟨a1, a2, a3, a4, a5, a6, _⟩ := sqL_spec (l := outG (gAr f) (prs 0 A.nums B.nums (lenN A.len B.len))) (by rw [outG_len, prs_len]; exact lenN_le (VV.ok_len hA) (VV.ok_len hB)) hN
 exact ⟨a1, a2, a3, a4, a5, a6⟩
end Go.Proofs.YtbacchbcanlciaaGreatDoor

namespace Go.Proofs.YtbacchbcanlciaaGreatDoor
set_option maxRecDepth 100000
open Go.RowKit Fl
set_option linter.unusedVariables false

def goB (m n : Int) : Bool := decide (n = m ∨ n = 1 ∨ m = 1)
def goL (m n : Int) : Int := if n = m ∨ n = 1 then m else if m = 1 then n else 0
theorem ret_ib {a b : Int} {c d : Bool} (h : a = b) (h2 : c = d) : Ending.returned (.tuple #[.int .i64 a, .bool c]) = .returned (.tuple #[.int .i64 b, .bool d]) := by rw [h, h2]
theorem alen_calls (m n : Int) (w : World) : Calls Tryz.prog 154 #[.int .i64 m, .int .i64 n] w fun e w' => e = .returned (.tuple #[.int .i64 (goL m n), .bool (goB m n)]) ∧ w = w' := by
 by_cases h1 : n = m
 ·have HE := Lib.hid (show goL m n = m by unfold goL; rw [if_pos (Or.inl h1)])
  have HG := Lib.hid (show goB m n = true from decide_eq_true (Or.inl h1))
  have hb : (n == m) = true := by simp [h1]
  clear h1
  go_enter Tryz.func154, Tryz.ntmps154
  go_wp2
  go_ret2
  exact ⟨ret_ib HE.out.symm HG.out.symm, rfl⟩
 ·have hb : (n == m) = false := by simp [h1]
  by_cases h2 : n = 1
  ·have HE := Lib.hid (show goL m n = m by unfold goL; rw [if_pos (Or.inr h2)])
   have HG := Lib.hid (show goB m n = true from decide_eq_true (Or.inr (Or.inl h2)))
   have hb2 : (n == 1) = true := by simp [h2]
   clear h1 h2
   go_enter Tryz.func154, Tryz.ntmps154
   go_wp2
   go_ret2
   exact ⟨ret_ib HE.out.symm HG.out.symm, rfl⟩
  ·have hb2 : (n == 1) = false := by simp [h2]
   by_cases h3 : m = 1
   ·have HE := Lib.hid (show goL m n = n by unfold goL; rw [if_neg (by simp [h1, h2]), if_pos h3])
    have HG := Lib.hid (show goB m n = true from decide_eq_true (Or.inr (Or.inr h3)))
    have hb3 : (m == 1) = true := by simp [h3]
    clear h1 h2 h3
    go_enter Tryz.func154, Tryz.ntmps154
    go_wp2
    go_ret2
    exact ⟨ret_ib HE.out.symm HG.out.symm, rfl⟩
   ·have HE := Lib.hid (show goL m n = 0 by unfold goL; rw [if_neg (by simp [h1, h2]), if_neg h3])
    have HG := Lib.hid (show goB m n = false from decide_eq_false (by simp [h1, h2, h3]))
    have hb3 : (m == 1) = false := by simp [h3]
    clear h1 h2 h3
    go_enter Tryz.func154, Tryz.ntmps154
    go_wp2
    go_ret2
    exact ⟨ret_ib HE.out.symm HG.out.symm, rfl⟩
theorem alen_yes (m n : Nat) (w : World) (h : goesA m n) : Calls Tryz.prog 154 #[.int .i64 (m : Int), .int .i64 (n : Int)] w fun e w' => e = .returned (.tuple #[.int .i64 (lenN m n : Int), .bool true]) ∧ w = w' := by
 have e1 : goL m n = (lenN m n : Int) := by unfold goL lenN; split <;> split <;> (try split) <;> omega
 have e2 : goB m n = true := decide_eq_true (by omega)
 rw [← e1, ← e2]
 exact alen_calls m n w
theorem alen_no (m n : Nat) (w : World) (h : ¬ goesA m n) : Calls Tryz.prog 154 #[.int .i64 (m : Int), .int .i64 (n : Int)] w fun e w' => e = .returned (.tuple #[.int .i64 0, .bool false]) ∧ w = w' := by
 have e1 : goL m n = 0 := by unfold goL; rw [if_neg (by omega), if_neg (by omega)]
 have e2 : goB m n = false := decide_eq_false (by omega)
 rw [← e1, ← e2]
 exact alen_calls m n w
theorem aknown_calls (f : Int) (w : World) : Calls Tryz.prog 153 #[.int .i64 f] w fun e w' => e = .returned (.bool (decide (1 ≤ f ∧ f ≤ 8))) ∧ w = w' := by
 by_cases h1 : (1 : Int) ≤ f
 ·by_cases h2 : f ≤ (8 : Int)
  ·have HD := Lib.hid (decide_eq_true (show 1 ≤ f ∧ f ≤ 8 from ⟨h1, h2⟩))
   go_enter Tryz.func153, Tryz.ntmps153
   go_wp2
   go_ret
   exact ⟨ret_b (by first | rfl | (rw [HD.out]; done) | (rw [HD.out]; rfl) | (simp; omega)), rfl⟩
  ·have HD := Lib.hid (decide_eq_false (show ¬ (1 ≤ f ∧ f ≤ 8) from fun h => h2 h.2))
   go_enter Tryz.func153, Tryz.ntmps153
   go_wp2
   go_ret
   exact ⟨ret_b (by first | (simp; omega) | (simp; done) | (rw [HD.out]; rfl)), rfl⟩
 ·have HD := Lib.hid (decide_eq_false (show ¬ (1 ≤ f ∧ f ≤ 8) from fun h => h1 h.1))
  go_enter Tryz.func153, Tryz.ntmps153
  go_wp2
  go_ret
  exact ⟨ret_b (by first | (simp; omega) | (simp; done) | (rw [HD.out]; rfl)), rfl⟩
theorem ati_calls {ok : Nat → Prop} (v : Value) (l : List Int) (k : Nat) (w : World) (hv : Slc w ok v l.length (ints l)) (hm : l.length ≤ 2000000) (h : l.length = 1 ∨ k < l.length) : Calls Tryz.prog 196 #[v, .int .i64 (k : Int)] w fun e w' => e = .returned (.int .i64 (pk 0 l k)) ∧ w = w' := by
 obtain ⟨ao, cap, rfl, _⟩ := hv.opened
 by_cases h1 : l.length = 1
 ·obtain ⟨b, off, cap', x, e1, hx, hcx⟩ := Slc.at_map (Value.int .i64) hv 0 (by omega)
  cases e1
  have HX := Lib.hid (show pk 0 l k = x by unfold pk; rw [if_pos h1, List.getD_eq_getElem?_getD, hx]; rfl)
  rw [h1]
  rw [Nat.add_zero] at hcx
  clear h h1 hx hv hm
  go_enter Tryz.func196, Tryz.ntmps196
  go_wp2
  go_ret
  rw [HX.out]
  exact ⟨rfl, rfl⟩
 ·obtain ⟨b, off, cap', x, e1, hx, hcx⟩ := Slc.at_map (Value.int .i64) hv k (by omega)
  cases e1
  have HX := Lib.hid (show pk 0 l k = x by unfold pk; rw [if_neg h1, List.getD_eq_getElem?_getD, hx]; rfl)
  have hb : ((l.length : Int) == 1) = false := by rw [beq_eq_false_iff_ne]; omega
  have hk : k < l.length := by omega
  clear h h1 hx hv
  go_enter Tryz.func196, Tryz.ntmps196
  go_wp2
  go_ret
  rw [HX.out]
  exact ⟨rfl, rfl⟩
theorem atf_calls {ok : Nat → Prop} (v : Value) (l : List Nat) (k : Nat) (w : World) (hv : Slc w ok v l.length (f64s l)) (hm : l.length ≤ 2000000) (h : l.length = 1 ∨ k < l.length) : Calls Tryz.prog 197 #[v, .int .i64 (k : Int)] w fun e w' => e = .returned (.float .f64 (pk 0 l k)) ∧ w = w' := by
 obtain ⟨ao, cap, rfl, _⟩ := hv.opened
 by_cases h1 : l.length = 1
 ·obtain ⟨b, off, cap', x, e1, hx, hcx⟩ := Slc.at_map (Value.float .f64) hv 0 (by omega)
  cases e1
  have HX := Lib.hid (show pk 0 l k = x by unfold pk; rw [if_pos h1, List.getD_eq_getElem?_getD, hx]; rfl)
  rw [h1]
  rw [Nat.add_zero] at hcx
  clear h h1 hx hv hm
  go_enter Tryz.func197, Tryz.ntmps197
  go_wp2
  go_ret
  rw [HX.out]
  exact ⟨rfl, rfl⟩
 ·obtain ⟨b, off, cap', x, e1, hx, hcx⟩ := Slc.at_map (Value.float .f64) hv k (by omega)
  cases e1
  have HX := Lib.hid (show pk 0 l k = x by unfold pk; rw [if_neg h1, List.getD_eq_getElem?_getD, hx]; rfl)
  have hb : ((l.length : Int) == 1) = false := by rw [beq_eq_false_iff_ne]; omega
  have hk : k < l.length := by omega
  clear h h1 hx hv
  go_enter Tryz.func197, Tryz.ntmps197
  go_wp2
  go_ret
  rw [HX.out]
  exact ⟨rfl, rfl⟩
theorem sm_i64 {a : Int} (h : sm a = true) : (Lit.int .i64 a).wf = true := wh_wf (wh_of a (by have := sm_of h; omega))
theorem awhole_calls (f a b : Int) (w : World) (ha : sm a = true) (hb : sm b = true) : Calls Tryz.prog 195 #[.int .i64 f, .int .i64 a, .int .i64 b] w fun e w' => e = .returned (.tuple #[.int .i64 (whA f a b).1, .bool (whA f a b).2]) ∧ w = w' := by
 have HA := Lib.hid ha; have HB := Lib.hid hb
 have WA := Lib.hid (sm_i64 ha)
 have WB := Lib.hid (sm_i64 hb)
 clear ha hb
 rcases one_cases f with rfl | rfl | rfl | rfl | rfl | rfl | rfl | rfl | hf
 ·have HE := Lib.hid (show whA 1 a b = (if sm (a + b) then a + b else 0, sm (a + b)) by simp [whA])
  rw [HE.out]
  obtain ⟨r, hr⟩ : ∃ r, sm (a + b) = r := ⟨_, rfl⟩
  have HR := Lib.hid hr; rw [hr]; clear hr
  go_enter Tryz.func195, Tryz.ntmps195
  go_wp2_with (refine (addint_any _ _ _ HA.out HB.out r HR.out).mono ?_; rintro e w' ⟨rfl, rfl⟩)
  all_goals (go_ret2; exact ⟨rfl, rfl⟩)
 ·have HE := Lib.hid (show whA 2 a b = (if sm (a - b) then a - b else 0, sm (a - b)) by simp [whA])
  rw [HE.out]
  obtain ⟨r, hr⟩ : ∃ r, sm (a - b) = r := ⟨_, rfl⟩
  have HR := Lib.hid hr; rw [hr]; clear hr
  go_enter Tryz.func195, Tryz.ntmps195
  go_wp2_with (refine (subint_any _ _ _ HA.out HB.out r HR.out).mono ?_; rintro e w' ⟨rfl, rfl⟩)
  all_goals (go_ret2; exact ⟨rfl, rfl⟩)
 ·have HE := Lib.hid (show whA 3 a b = (if pm a b then a * b else 0, pm a b) by simp [whA])
  rw [HE.out]
  obtain ⟨r, hr⟩ : ∃ r, pm a b = r := ⟨_, rfl⟩
  have HR := Lib.hid hr; rw [hr]; clear hr
  go_enter Tryz.func195, Tryz.ntmps195
  go_wp2_with (refine (mulint_all _ _ _ HA.out HB.out r HR.out).mono ?_; rintro e w' ⟨rfl, rfl⟩)
  all_goals (go_ret2; exact ⟨rfl, rfl⟩)
 ·have HE := Lib.hid (show whA 4 a b = (0, false) by simp [whA])
  rw [HE.out]
  go_enter Tryz.func195, Tryz.ntmps195
  go_wp2
  go_ret2
  exact ⟨rfl, rfl⟩
 ·by_cases hl : a < b
  ·have HE := Lib.hid (show whA 5 a b = (b, true) by simp [whA]; omega)
   rw [HE.out]
   go_enter Tryz.func195, Tryz.ntmps195
   go_wp2
   all_goals (go_ret2; first | exact ⟨rfl, rfl⟩ | exact ⟨ret_ib (by (try simp); omega) rfl, rfl⟩)
  ·have HE := Lib.hid (show whA 5 a b = (a, true) by simp [whA]; omega)
   rw [HE.out]
   go_enter Tryz.func195, Tryz.ntmps195
   go_wp2
   all_goals (go_ret2; first | exact ⟨rfl, rfl⟩ | exact ⟨ret_ib (by (try simp); omega) rfl, rfl⟩)
 ·by_cases hl : a < b
  ·have HE := Lib.hid (show whA 6 a b = (a, true) by simp [whA]; omega)
   rw [HE.out]
   go_enter Tryz.func195, Tryz.ntmps195
   go_wp2
   all_goals (go_ret2; first | exact ⟨rfl, rfl⟩ | exact ⟨ret_ib (by (try simp); omega) rfl, rfl⟩)
  ·have HE := Lib.hid (show whA 6 a b = (b, true) by simp [whA]; omega)
   rw [HE.out]
   go_enter Tryz.func195, Tryz.ntmps195
   go_wp2
   all_goals (go_ret2; first | exact ⟨rfl, rfl⟩ | exact ⟨ret_ib (by (try simp); omega) rfl, rfl⟩)
 ·have HE := Lib.hid (show whA 7 a b = (rst a b, true) by simp [whA])
  rw [HE.out]
  go_enter Tryz.func195, Tryz.ntmps195
  go_wp2_with (refine (restint_calls _ _ _ WA.out WB.out).mono ?_; rintro e w' ⟨rfl, rfl⟩)
  go_ret2
  exact ⟨rfl, rfl⟩
 ·have HE := Lib.hid (show whA 8 a b = (0, false) by simp [whA])
  rw [HE.out]
  go_enter Tryz.func195, Tryz.ntmps195
  go_wp2
  go_ret2
  exact ⟨rfl, rfl⟩
 ·have HE := Lib.hid (show whA f a b = (0, false) by unfold whA; rw [if_neg (by omega), if_neg (by omega), if_neg (by omega), if_neg (by omega), if_neg (by omega), if_neg (by omega)])
  rw [HE.out]
  have n1 : (f == 1) = false := by rw [beq_eq_false_iff_ne]; omega
  have n2 : (f == 2) = false := by rw [beq_eq_false_iff_ne]; omega
  have n3 : (f == 3) = false := by rw [beq_eq_false_iff_ne]; omega
  have n4 : (f == 4) = false := by rw [beq_eq_false_iff_ne]; omega
  have n5 : (f == 5) = false := by rw [beq_eq_false_iff_ne]; omega
  have n6 : (f == 6) = false := by rw [beq_eq_false_iff_ne]; omega
  have n7 : (f == 7) = false := by rw [beq_eq_false_iff_ne]; omega
  have n8 : (f == 8) = false := by rw [beq_eq_false_iff_ne]; omega
  clear hf
  go_enter Tryz.func195, Tryz.ntmps195
  go_wp2
  go_ret2
  exact ⟨rfl, rfl⟩
set_option maxHeartbeats 2000000 in
theorem aone_calls (f : Int) (a b : Nat) (w : World) (ha : Num a) (hb : Num b) : Calls Tryz.prog 143 #[.int .i64 f, .float .f64 a, .float .f64 b] w (Pwd (oneA f a b) w) := by
 have HA := Lib.hid ha; have HB := Lib.hid hb; have LA := Lib.hid ha.1.1; have LB := Lib.hid hb.1.1
 rcases one_cases f with rfl | rfl | rfl | rfl | rfl | rfl | rfl | rfl | hf
 ·have HE := Lib.hid (show oneA 1 a b = rs (addw a b) by simp [oneA])
  have HS := Lib.hid (addw_spec ha.1 hb.1)
  rw [HE.out]; clear ha hb
  go_enter Tryz.func143, Tryz.ntmps143
  go_wp2_with (refine (add_calls _ _ _ _ HS.out).mono ?_; rintro e w' ⟨rfl, rfl⟩)
  go_ret2
  exact ⟨rfl, 0, rfl⟩
 ·have HE := Lib.hid (show oneA 2 a b = rs (subw a b) by simp [oneA])
  have HS := Lib.hid (subw_spec ha.1 hb.1)
  rw [HE.out]; clear ha hb
  go_enter Tryz.func143, Tryz.ntmps143
  go_wp2_with (refine (sub_calls _ _ _ _ HS.out).mono ?_; rintro e w' ⟨rfl, rfl⟩)
  go_ret2
  exact ⟨rfl, 0, rfl⟩
 ·have HE := Lib.hid (show oneA 3 a b = rs (mulw a b) by simp [oneA])
  have HS := Lib.hid (mulw_spec ha.1 hb.1)
  rw [HE.out]; clear ha hb
  go_enter Tryz.func143, Tryz.ntmps143
  go_wp2_with (refine (mul_calls _ _ _ _ HS.out).mono ?_; rintro e w' ⟨rfl, rfl⟩)
  go_ret2
  exact ⟨rfl, 0, rfl⟩
 ·by_cases h0 : V b = 0
  ·have e0 := zero_of hb h0
   by_cases ha0 : V a = 0
   ·have e1 := zero_of ha ha0
    have HE := Lib.hid (show oneA 4 a b = (4607182418800017408, 0) by simp [oneA, quoA, h0, ha0])
    rw [HE.out, e0, e1]
    clear ha hb h0 ha0 e0 e1
    go_enter Tryz.func143, Tryz.ntmps143
    go_wp2_with (refine (div_none _).mono ?_; rintro e w' ⟨rfl, rfl⟩)
    go_ret2
    exact ⟨rfl, 0, rfl⟩
   ·have HE := Lib.hid (show oneA 4 a b = (0, 24) by simp [oneA, quoA, h0, ha0])
    have H0 := Lib.hid ha0
    rw [HE.out, e0]
    clear ha hb h0 ha0 e0
    go_enter Tryz.func143, Tryz.ntmps143
    go_wp2_with (refine (div_zero _ _ HA.out.1 H0.out).mono ?_; rintro e w' ⟨rfl, rfl⟩)
    go_ret2
    exact ⟨rfl, 0, rfl⟩
  ·have HE := Lib.hid (show oneA 4 a b = rs (quow a b) by simp [oneA, quoA, h0])
   have HS := Lib.hid (quow_spec ha.1 hb.1 h0)
   have H0 := Lib.hid h0; rw [HE.out]; clear ha hb h0
   go_enter Tryz.func143, Tryz.ntmps143
   go_wp2_with (refine (div_calls _ _ _ _ HB.out.1 H0.out HS.out).mono ?_; rintro e w' ⟨rfl, rfl⟩)
   go_ret2
   exact ⟨rfl, 0, rfl⟩
 ·have HE := Lib.hid (show oneA 5 a b = (mxw a b, 0) by simp [oneA])
  rw [HE.out]; clear ha hb
  go_enter Tryz.func143, Tryz.ntmps143
  go_wp2_with (refine (max_calls _ _ _ HA.out HB.out).mono ?_; rintro e w' ⟨rfl, rfl⟩)
  go_ret2
  exact ⟨rfl, 0, rfl⟩
 ·have HE := Lib.hid (show oneA 6 a b = (mnw a b, 0) by simp [oneA])
  rw [HE.out]; clear ha hb
  go_enter Tryz.func143, Tryz.ntmps143
  go_wp2_with (refine (min_calls _ _ _ HA.out HB.out).mono ?_; rintro e w' ⟨rfl, rfl⟩)
  go_ret2
  exact ⟨rfl, 0, rfl⟩
 ·by_cases h1 : ∃ m, Wh a m
  ·obtain ⟨m, hm⟩ := h1
   have HM := Lib.hid hm
   by_cases h2 : ∃ n, Wh b n
   ·obtain ⟨n, hn⟩ := h2
    have HN := Lib.hid hn
    have HE := Lib.hid (show oneA 7 a b = (floatOfInt .f64 (rst m n), 0) by simp only [oneA]; exact restA_yes hm hn)
    rw [HE.out]; clear ha hb hm hn
    go_enter Tryz.func143, Tryz.ntmps143
    go_wp2_with (refine (rest_yes _ _ _ _ _ HM.out HN.out).mono ?_; rintro e w' ⟨rfl, rfl⟩)
    go_ret2
    exact ⟨rfl, 0, rfl⟩
   ·have HW2 : Hid (∀ n, ¬ Wh b n) := Lib.hid (fun n hn => h2 ⟨n, hn⟩)
    have HE := Lib.hid (show oneA 7 a b = (0, 24) by simp only [oneA]; exact restA_no (fun h => h2 h.2))
    rw [HE.out]; clear ha hb hm h2
    go_enter Tryz.func143, Tryz.ntmps143
    go_wp2_with (refine (rest_no2 _ _ _ _ HM.out LB.out HW2.out).mono ?_; rintro e w' ⟨rfl, rfl⟩)
    go_ret2
    exact ⟨rfl, 0, rfl⟩
  ·have HW1 : Hid (∀ m, ¬ Wh a m) := Lib.hid (fun n hn => h1 ⟨n, hn⟩)
   have HE := Lib.hid (show oneA 7 a b = (0, 24) by simp only [oneA]; exact restA_no (fun h => h1 h.1))
   rw [HE.out]; clear ha hb h1
   go_enter Tryz.func143, Tryz.ntmps143
   go_wp2_with (refine (rest_no1 _ _ _ LA.out HW1.out LB.out).mono ?_; rintro e w' ⟨rfl, rfl⟩)
   go_ret2
   exact ⟨rfl, 0, rfl⟩
 ·by_cases h1 : ∃ n, Wh b n
  ·obtain ⟨n, hn⟩ := h1
   have HN := Lib.hid hn
   by_cases h2 : n.natAbs ≤ 1023
   ·have HE := Lib.hid (show oneA 8 a b = pwr a n by simp only [oneA]; exact powA_yes hn h2)
    have H2 := Lib.hid h2; rw [HE.out]; clear ha hb hn h2
    go_enter Tryz.func143, Tryz.ntmps143
    go_wp2_with ((with_reducible refine (power_calls _ _ _ _ LA.out HN.out H2.out).mono ?_); rintro e w' ⟨rfl, m, rfl⟩)
    go_ret2
    exact ⟨rfl, m, rfl⟩
   ·have HE := Lib.hid (show oneA 8 a b = (0, 24) by simp only [oneA]; exact powA_much hn (by omega))
    have H2 := Lib.hid (show 1023 < n.natAbs by omega)
    rw [HE.out]; clear ha hb hn h2
    go_enter Tryz.func143, Tryz.ntmps143
    go_wp2_with ((with_reducible refine (power_much _ _ _ _ HN.out H2.out).mono ?_); rintro e w' ⟨rfl, m, rfl⟩)
    go_ret2
    exact ⟨rfl, m, rfl⟩
  ·have H1 : Hid (∀ n, ¬ Wh b n) := Lib.hid (fun n hn => h1 ⟨n, hn⟩)
   have HE := Lib.hid (show oneA 8 a b = (0, 24) by simp only [oneA]; exact powA_no H1.out)
   rw [HE.out]; clear ha hb h1
   go_enter Tryz.func143, Tryz.ntmps143
   go_wp2_with ((with_reducible refine (power_no _ _ _ LB.out H1.out).mono ?_); rintro e w' ⟨rfl, m, rfl⟩)
   go_ret2
   exact ⟨rfl, m, rfl⟩
 ·have HE := Lib.hid (oneA_arg (f := f) a b hf)
  rw [HE.out]
  have n1 : (f == 1) = false := by rw [beq_eq_false_iff_ne]; omega
  have n2 : (f == 2) = false := by rw [beq_eq_false_iff_ne]; omega
  have n3 : (f == 3) = false := by rw [beq_eq_false_iff_ne]; omega
  have n4 : (f == 4) = false := by rw [beq_eq_false_iff_ne]; omega
  have n5 : (f == 5) = false := by rw [beq_eq_false_iff_ne]; omega
  have n6 : (f == 6) = false := by rw [beq_eq_false_iff_ne]; omega
  have n7 : (f == 7) = false := by rw [beq_eq_false_iff_ne]; omega
  have n8 : (f == 8) = false := by rw [beq_eq_false_iff_ne]; omega
  clear ha hb hf
  go_enter Tryz.func143, Tryz.ntmps143
  go_wp2
  go_ret2
  exact ⟨rfl, 0, rfl⟩
end Go.Proofs.YtbacchbcanlciaaGreatDoor

namespace Go.Proofs.YtbacchbcanlciaaGreatDoor
set_option maxRecDepth 100000
open Go.RowKit Fl
set_option linter.unusedVariables false

set_option maxHeartbeats 2000000 in
theorem raone_calls (f : Int) (a b : Nat) (w : World) (ha : Num a) (hb : Num b) : Calls Tryz.prog 105 #[.int .i64 f, .float .f64 a, .float .f64 b] w (Pwd (oneA f a b) w) := by
 have HA := Lib.hid ha; have HB := Lib.hid hb; have LA := Lib.hid ha.1.1; have LB := Lib.hid hb.1.1
 rcases one_cases f with rfl | rfl | rfl | rfl | rfl | rfl | rfl | rfl | hf
 ·have HE := Lib.hid (show oneA 1 a b = rs (addw a b) by simp [oneA])
  have HS := Lib.hid (addw_spec ha.1 hb.1)
  rw [HE.out]; clear ha hb
  go_enter Tryz.func105, Tryz.ntmps105
  go_wp2_with (refine (reckon_add _ _ _ _ HS.out).mono ?_; rintro e w' ⟨rfl, rfl⟩)
  go_ret2
  exact ⟨rfl, 0, rfl⟩
 ·have HE := Lib.hid (show oneA 2 a b = rs (subw a b) by simp [oneA])
  have HS := Lib.hid (subw_spec ha.1 hb.1)
  rw [HE.out]; clear ha hb
  go_enter Tryz.func105, Tryz.ntmps105
  go_wp2_with (refine (reckon_sub _ _ _ _ HS.out).mono ?_; rintro e w' ⟨rfl, rfl⟩)
  go_ret2
  exact ⟨rfl, 0, rfl⟩
 ·have HE := Lib.hid (show oneA 3 a b = rs (mulw a b) by simp [oneA])
  have HS := Lib.hid (mulw_spec ha.1 hb.1)
  rw [HE.out]; clear ha hb
  go_enter Tryz.func105, Tryz.ntmps105
  go_wp2_with (refine (reckon_mul _ _ _ _ HS.out).mono ?_; rintro e w' ⟨rfl, rfl⟩)
  go_ret2
  exact ⟨rfl, 0, rfl⟩
 ·by_cases h0 : V b = 0
  ·have e0 := zero_of hb h0
   by_cases ha0 : V a = 0
   ·have e1 := zero_of ha ha0
    have HE := Lib.hid (show oneA 4 a b = (4607182418800017408, 0) by simp [oneA, quoA, h0, ha0])
    rw [HE.out, e0, e1]
    clear ha hb h0 ha0 e0 e1
    go_enter Tryz.func105, Tryz.ntmps105
    go_wp2_with (refine (reckon_none _).mono ?_; rintro e w' ⟨rfl, rfl⟩)
    go_ret2
    exact ⟨rfl, 0, rfl⟩
   ·have HE := Lib.hid (show oneA 4 a b = (0, 24) by simp [oneA, quoA, h0, ha0])
    have H0 := Lib.hid ha0
    rw [HE.out, e0]
    clear ha hb h0 ha0 e0
    go_enter Tryz.func105, Tryz.ntmps105
    go_wp2_with (refine (reckon_zero _ _ HA.out.1 H0.out).mono ?_; rintro e w' ⟨rfl, rfl⟩)
    go_ret2
    exact ⟨rfl, 0, rfl⟩
  ·have HE := Lib.hid (show oneA 4 a b = rs (quow a b) by simp [oneA, quoA, h0])
   have HS := Lib.hid (quow_spec ha.1 hb.1 h0)
   have H0 := Lib.hid h0; rw [HE.out]; clear ha hb h0
   go_enter Tryz.func105, Tryz.ntmps105
   go_wp2_with (refine (reckon_quo _ _ _ _ HA.out.1 HB.out.1 H0.out HS.out).mono ?_; rintro e w' ⟨rfl, rfl⟩)
   go_ret2
   exact ⟨rfl, 0, rfl⟩
 ·rcases ord_cases ha.1 hb.1 with ⟨hv, ho⟩ | ⟨hv, ho⟩ | ⟨hv, ho⟩
  all_goals
   have ho : FloatKind.f64.format.order a b = _ := ho
  ·have HE := Lib.hid (show oneA 5 a b = (b, 0) by simp [oneA, mxw, hv])
   rw [HE.out]; clear ha hb hv
   go_enter Tryz.func105, Tryz.ntmps105
   go_wp2
   go_ret2
   exact ⟨rfl, 0, rfl⟩
  ·have HE := Lib.hid (show oneA 5 a b = (a, 0) by simp [oneA, mxw, show ¬ V a < V b by omega])
   rw [HE.out]; clear ha hb hv
   go_enter Tryz.func105, Tryz.ntmps105
   go_wp2
   go_ret2
   exact ⟨rfl, 0, rfl⟩
  ·have HE := Lib.hid (show oneA 5 a b = (a, 0) by simp [oneA, mxw, show ¬ V a < V b by omega])
   rw [HE.out]; clear ha hb hv
   go_enter Tryz.func105, Tryz.ntmps105
   go_wp2
   go_ret2
   exact ⟨rfl, 0, rfl⟩
 ·rcases ord_cases ha.1 hb.1 with ⟨hv, ho⟩ | ⟨hv, ho⟩ | ⟨hv, ho⟩
  all_goals
   have ho : FloatKind.f64.format.order a b = _ := ho
  ·have HE := Lib.hid (show oneA 6 a b = (a, 0) by simp [oneA, mnw, show ¬ V b < V a by omega])
   rw [HE.out]; clear ha hb hv
   go_enter Tryz.func105, Tryz.ntmps105
   go_wp2
   go_ret2
   exact ⟨rfl, 0, rfl⟩
  ·have HE := Lib.hid (show oneA 6 a b = (a, 0) by simp [oneA, mnw, show ¬ V b < V a by omega])
   rw [HE.out]; clear ha hb hv
   go_enter Tryz.func105, Tryz.ntmps105
   go_wp2
   go_ret2
   exact ⟨rfl, 0, rfl⟩
  ·have HE := Lib.hid (show oneA 6 a b = (b, 0) by simp [oneA, mnw, hv])
   rw [HE.out]; clear ha hb hv
   go_enter Tryz.func105, Tryz.ntmps105
   go_wp2
   go_ret2
   exact ⟨rfl, 0, rfl⟩
 ·by_cases h1 : ∃ m, Wh a m
  ·obtain ⟨m, hm⟩ := h1
   have HM := Lib.hid hm
   by_cases h2 : ∃ n, Wh b n
   ·obtain ⟨n, hn⟩ := h2
    have HN := Lib.hid hn
    have HE := Lib.hid (show oneA 7 a b = (floatOfInt .f64 (rst m n), 0) by simp only [oneA]; exact restA_yes hm hn)
    have hc1 : ∀ w, (convert 42 2 (.float .f64 a)).run Tryz.prog w = .ok (.int .i64 m) w := fun w => run_convert_float_int w 42 2 .f64 .i64 a m (by kernel_rfl) (by kernel_rfl) (wh_int a m hm)
    have hc2 : ∀ w, (convert 42 2 (.float .f64 b)).run Tryz.prog w = .ok (.int .i64 n) w := fun w => run_convert_float_int w 42 2 .f64 .i64 b n (by kernel_rfl) (by kernel_rfl) (wh_int b n hn)
    have hc3 : ∀ w, (convert 2 42 (.int .i64 (rst m n))).run Tryz.prog w = .ok (.float .f64 (floatOfInt .f64 (rst m n))) w := fun w => run_convert_int_float w 2 42 .i64 .f64 _ (by kernel_rfl) (by kernel_rfl)
    have HF1 := Lib.hid (wh_wf hm)
    have HF2 := Lib.hid (wh_wf hn)
    rw [HE.out]; clear ha hb hm hn
    go_enter Tryz.func105, Tryz.ntmps105
    go_wp2_with (first | ((with_reducible refine (rwhole_yes a _ _ HM.out).mono ?_); rintro e w' ⟨rfl, rfl⟩) | ((with_reducible refine (rwhole_yes b _ _ HN.out).mono ?_); rintro e w' ⟨rfl, rfl⟩) | ((with_reducible refine (rrest_calls _ _ _ HF1.out HF2.out).mono ?_); rintro e w' ⟨rfl, rfl⟩))
    go_ret2
    exact ⟨rfl, 0, rfl⟩
   ·have HW2 : Hid (∀ n, ¬ Wh b n) := Lib.hid (fun n hn => h2 ⟨n, hn⟩)
    have HE := Lib.hid (show oneA 7 a b = (0, 24) by simp only [oneA]; exact restA_no (fun h => h2 h.2))
    rw [HE.out]; clear ha hb hm h2
    go_enter Tryz.func105, Tryz.ntmps105
    go_wp2_with (first | ((with_reducible refine (rwhole_yes a _ _ HM.out).mono ?_); rintro e w' ⟨rfl, rfl⟩) | ((with_reducible refine (rwhole_no b _ LB.out HW2.out).mono ?_); rintro e w' ⟨rfl, rfl⟩))
    go_ret2
    exact ⟨rfl, 0, rfl⟩
  ·have HW1 : Hid (∀ m, ¬ Wh a m) := Lib.hid (fun n hn => h1 ⟨n, hn⟩)
   have HE := Lib.hid (show oneA 7 a b = (0, 24) by simp only [oneA]; exact restA_no (fun h => h1 h.1))
   rw [HE.out]; clear ha hb h1
   go_enter Tryz.func105, Tryz.ntmps105
   go_wp2_with ((with_reducible refine (rwhole_no a _ LA.out HW1.out).mono ?_); rintro e w' ⟨rfl, rfl⟩)
   go_ret2
   exact ⟨rfl, 0, rfl⟩
 ·by_cases h1 : ∃ n, Wh b n
  ·obtain ⟨n, hn⟩ := h1
   have HN := Lib.hid hn
   by_cases h2 : n.natAbs ≤ 1023
   ·have HE := Lib.hid (show oneA 8 a b = pwr a n by simp only [oneA]; exact powA_yes hn h2)
    have H2 := Lib.hid h2; rw [HE.out]; clear ha hb hn h2
    go_enter Tryz.func105, Tryz.ntmps105
    go_wp2_with ((with_reducible refine (rpower_calls _ _ _ _ LA.out HN.out H2.out).mono ?_); rintro e w' ⟨rfl, m, rfl⟩)
    go_ret2
    exact ⟨rfl, m, rfl⟩
   ·have HE := Lib.hid (show oneA 8 a b = (0, 24) by simp only [oneA]; exact powA_much hn (by omega))
    have H2 := Lib.hid (show 1023 < n.natAbs by omega)
    rw [HE.out]; clear ha hb hn h2
    go_enter Tryz.func105, Tryz.ntmps105
    go_wp2_with ((with_reducible refine (rpower_much _ _ _ _ HN.out H2.out).mono ?_); rintro e w' ⟨rfl, m, rfl⟩)
    go_ret2
    exact ⟨rfl, m, rfl⟩
  ·have H1 : Hid (∀ n, ¬ Wh b n) := Lib.hid (fun n hn => h1 ⟨n, hn⟩)
   have HE := Lib.hid (show oneA 8 a b = (0, 24) by simp only [oneA]; exact powA_no H1.out)
   rw [HE.out]; clear ha hb h1
   go_enter Tryz.func105, Tryz.ntmps105
   go_wp2_with ((with_reducible refine (rpower_no _ _ _ LB.out H1.out).mono ?_); rintro e w' ⟨rfl, m, rfl⟩)
   go_ret2
   exact ⟨rfl, m, rfl⟩
 ·have HE := Lib.hid (oneA_arg (f := f) a b hf)
  rw [HE.out]
  have n1 : (f == 1) = false := by rw [beq_eq_false_iff_ne]; omega
  have n2 : (f == 2) = false := by rw [beq_eq_false_iff_ne]; omega
  have n3 : (f == 3) = false := by rw [beq_eq_false_iff_ne]; omega
  have n4 : (f == 4) = false := by rw [beq_eq_false_iff_ne]; omega
  have n5 : (f == 5) = false := by rw [beq_eq_false_iff_ne]; omega
  have n6 : (f == 6) = false := by rw [beq_eq_false_iff_ne]; omega
  have n7 : (f == 7) = false := by rw [beq_eq_false_iff_ne]; omega
  have n8 : (f == 8) = false := by rw [beq_eq_false_iff_ne]; omega
  clear ha hb hf
  go_enter Tryz.func105, Tryz.ntmps105
  go_wp2
  go_ret2
  exact ⟨rfl, 0, rfl⟩
end Go.Proofs.YtbacchbcanlciaaGreatDoor

namespace Go.Proofs.YtbacchbcanlciaaGreatDoor
set_option maxRecDepth 100000
open Go.RowKit Fl
set_option linter.unusedVariables false

theorem gAr_pair (f : Int) (a b : Nat) : gAr f (a, b) = oneA f a b := rfl
def Tried (f : Int) (P : List (Nat × Nat)) (w : World) (e : Ending) (w' : World) : Prop :=
 ∃ u r, e = .returned (.tuple #[.agg #[u], .bool r]) ∧ ((r = true ∧ errG (gAr f) P = 0 ∧ IsV w' (fun b => w.heap.size ≤ b) u (sqL (outG (gAr f) P))) ∨ (r = false ∧ u = .nilIface)) ∧ Below w.heap.size w w'
set_option maxHeartbeats 8000000 in
theorem ofwholes_calls {okA okB : Nat → Prop} (f : Int) (uA uB : Value) (A B : VV) (n : Nat) (w : World) (hA : IsV w okA uA A) (hB' : IsV w okB uB B) (oA : A.ok) (oB : B.ok) (nA : A.nm) (nB : B.nm) (hg : goesA A.len B.len) (hn : n = lenN A.len B.len) (hT : TabAt w) :
  Calls Tryz.prog 155 #[.int .i64 f, .agg #[uA], .agg #[uB], .int .i64 (n : Int)] w (Tried f (prs 0 A.nums B.nums n) w) := by
 have hsa := hA.store
 have hsb := hB'.store
 obtain ⟨W1, hW1⟩ : ∃ W1, W1 = ((w.alloc (.cells #[uA] 25)).alloc (.cells #[uB] 25)).alloc (.cells #[.nilIface] 25) := ⟨_, rfl⟩
 have HB := Lib.hid (show Below w.heap.size w W1 by rw [hW1]; exact ((below_new _ _).alloc (by simp) _).alloc (by simp; omega) _)
 have HSZ := Lib.hid (show W1.heap.size = w.heap.size + 3 by rw [hW1]; simp)
 have HA := Lib.hid (show At1 W1 w.heap.size uA by rw [hW1]; exact ((At1.new w _ _).below (below_new _ _)).below ((below_new _ _).mono (by simp)))
 have HB2 := Lib.hid (show At1 W1 (w.heap.size + 1) uB by rw [hW1]; have := (At1.new (w.alloc (.cells #[uA] 25)) uB 25).below (below_new _ (.cells #[.nilIface] 25)); simpa using this)
 have HR := Lib.hid (show At1 W1 (w.heap.size + 1 + 1) .nilIface by rw [hW1]; have := At1.new ((w.alloc (.cells #[uA] 25)).alloc (.cells #[uB] 25)) .nilIface 25; simpa using this)
 have HU := Lib.hid (show IsV W1 okA uA A from hA.grow HB.out)
 have HU2 := Lib.hid (show IsV W1 okB uB B from hB'.grow HB.out)
 have HT := Lib.hid (show TabAt W1 from fun j hj => keep_below HB.out _ _ (hT j hj))
 have HOA := Lib.hid oA; have HOB := Lib.hid oB; have HNA := Lib.hid nA; have HNB := Lib.hid nB; have HG := Lib.hid hg; have HN := Lib.hid hn
 have HNL := Lib.hid (show n ≤ 1048576 by rw [hn]; exact lenN_le (VV.ok_len oA) (VV.ok_len oB))
 have HW1 := Lib.hid (Below.refl W1.heap.size W1)
 have hfold := hW1.symm
 clear hA hB' hT oA oB nA nB hg hn hW1
 have cHA0 := HA.out.2.1; have cHB20 := HB2.out.2.1; have cHR0 := HR.out.2.1; have zHR0 := HR.out.2.2 0
 go_enter Tryz.func155, Tryz.ntmps155
 go_wp2_with fail
 clear hfold
 refine (vwholes_calls _ A _ HU.out HOA.out HT.out).mono ?_
 rintro e W11 ⟨va, rfl, hva, hB⟩
 clear cHA0 cHB20 cHR0 zHR0; replace HA := HA.go hB; replace HB2 := HB2.go hB; replace HR := HR.go hB; replace HB := cb hB HB; replace HW1 := cb hB HW1; replace HU := HU.go hB; replace HU2 := HU2.go hB; replace HT := HT.go hB; have HVA := Lib.hid hva; clear hva; clear hB; have cHA0 := HA.out.2.1; have cHB20 := HB2.out.2.1; have cHR0 := HR.out.2.1; have zHR0 := HR.out.2.2 0
 go_wp2_with fail
 refine (vwholes_calls _ B _ HU2.out HOB.out HT.out).mono ?_
 rintro e W12 ⟨vb, rfl, hvb, hB⟩
 clear cHA0 cHB20 cHR0 zHR0; replace HA := HA.go hB; replace HB2 := HB2.go hB; replace HR := HR.go hB; replace HB := cb hB HB; replace HW1 := cb hB HW1; replace HU := HU.go hB; replace HU2 := HU2.go hB; replace HT := HT.go hB; replace HVA := HVA.go hB; have HVB := Lib.hid hvb; clear hvb; clear hB; have cHA0 := HA.out.2.1; have cHB20 := HB2.out.2.1; have cHR0 := HR.out.2.1; have zHR0 := HR.out.2.2 0
 by_cases hwa : A.isWh = true
 rotate_left
 ·have e1 : A.isWh = false := by simpa using hwa
  rw [e1]; clear e1 hwa
  go_wp2_with fail
  refine bodyPost_ret (v := .tuple #[.agg #[.nilIface], .bool false]) (by simp [results, Tryz.results155, go_sem, cHR0]) rfl ⟨.nilIface, false, rfl, Or.inr ⟨rfl, rfl⟩, HB.out.setCell (by show w.heap.size ≤ w.heap.size + 1 + 1; omega) _⟩
 rw [hwa]; have HWA := Lib.hid hwa; clear hwa
 by_cases hwb : B.isWh = true
 rotate_left
 ·have e1 : B.isWh = false := by simpa using hwb
  rw [e1]; clear e1 hwb
  go_wp2_with fail
  refine bodyPost_ret (v := .tuple #[.agg #[.nilIface], .bool false]) (by simp [results, Tryz.results155, go_sem, cHR0]) rfl ⟨.nilIface, false, rfl, Or.inr ⟨rfl, rfl⟩, HB.out.setCell (by show w.heap.size ≤ w.heap.size + 1 + 1; omega) _⟩
 rw [hwb]; have HWB := Lib.hid hwb; clear hwb
 obtain ⟨sA, lA⟩ := (VV.whole_nums HOA.out HNA.out HWA.out).2
 obtain ⟨sB, lB⟩ := (VV.whole_nums HOB.out HNB.out HWB.out).2
 have HSA := Lib.hid sA; have HSB := Lib.hid sB
 have HLA := Lib.hid (show A.whs.length ≤ 2000000 by rw [lA]; have := VV.ok_len HOA.out; omega)
 have HLB := Lib.hid (show B.whs.length ≤ 2000000 by rw [lB]; have := VV.ok_len HOB.out; omega)
 have HIN := Lib.hid (show ∀ i, i < n → (A.whs.length = 1 ∨ i < A.whs.length) ∧ (B.whs.length = 1 ∨ i < B.whs.length) by
  intro i hi
  rw [lA, lB]
  rw [HN.out] at hi
  exact lenN_in HG.out hi)
 clear sA lA sB lB
 obtain ⟨xs, hxs⟩ : ∃ xs : List Value, xs = ints (outW f (prs 0 A.whs B.whs n)) := ⟨_, rfl⟩
 have hxl : xs.length = n := by rw [hxs]; simp [ints, outW_len, prs_len]
 have hget : ∀ k (h : k < xs.length) (h2 : k < n), xs[k]'h = .int .i64 (whA f (pk 0 A.whs k) (pk 0 B.whs k)).1 := by
  intro k h h2
  have h3 := outW_get (f := f) (prs_get (d := 0) (a := A.whs) (b := B.whs) h2)
  obtain ⟨h4, h5⟩ := List.getElem?_eq_some_iff.1 h3
  simp only [hxs, ints, List.getElem_map, h5]
 have HX := Lib.hid hget; have HXL := Lib.hid hxl; have HXE := Lib.hid hxs
 have hmk := run_mkI1 n (by have := HNL.out; omega) W12
 obtain ⟨W0, hW0⟩ : ∃ W0, W0 = W12.alloc (.cells (zerosV (.int .i64 0) n) 2) := ⟨_, rfl⟩
 have HO0 := Lib.hid (show W0.ownsRow W12.heap.size 2 1 (.slice (some ⟨W12.heap.size, 0, none⟩) n n) n (List.replicate n (.int .i64 0)) by
  rw [hW0]; exact own_make1 _ _ _ (by have := HNL.out; omega) _ _ (Nat.le_refl _))
 have HW := Lib.hid (show Below W12.heap.size W12 W0 by rw [hW0]; exact below_new _ _)
 have HRB := Lib.hid (show w.heap.size + 2 < W12.heap.size by have := HW1.out.size; have := HSZ.out; omega)
 clear hxs hget hxl
 go_wp2_with fail
 rw [← hW0]
 clear hW0 hmk; clear cHA0 cHB20 cHR0 zHR0
 go_loopw [41] (fun i wr => ∃ k : Nat, k ≤ n ∧ i = .int .i64 k ∧ (∀ j, j < k → (whA f (pk 0 A.whs j) (pk 0 B.whs j)).2 = true) ∧ wr.ownsRow W12.heap.size 2 1 (.slice (some ⟨W12.heap.size, 0, none⟩) n n) n (fillTo xs (.int .i64 0) k) ∧ W0.grownBy wr (some W12.heap.size)) (fun i _ => n - (intOf i).toNat)
 case atStart => exact ⟨0, by omega, rfl, fun j hj => absurd hj (by omega), by rw [fillTo_zero, HXL.out]; exact HO0.out, grown_refl _ _⟩
 case round =>
  obtain ⟨k, hk, rfl, hall, hown, hgr⟩ := hrel
  have HO := Lib.hid hown; have HGR := Lib.hid hgr; have HALL := Lib.hid hall
  have hB := HW.out.grown hgr HW.out.size (fun j hj => by cases hj; exact Nat.le_refl _)
  have HBC := Lib.hid hB; replace HR := HR.go hB; replace HB := cb hB HB; replace HW1 := cb hB HW1; replace HT := HT.go hB; replace HVA := HVA.go hB; replace HVB := HVB.go hB; clear hB; have cR0 := HR.out.2.1; have zR0 := HR.out.2.2 0; clear hown hgr hall; have hnm := HNL.out
  by_cases hlt : k < n
  ·have HI := Lib.hid (HIN.out k hlt)
   obtain ⟨x, hx⟩ : ∃ x, pk 0 A.whs k = x := ⟨_, rfl⟩
   obtain ⟨y, hy⟩ : ∃ y, pk 0 B.whs k = y := ⟨_, rfl⟩
   have HXX := Lib.hid hx; have HYY := Lib.hid hy
   have SX := Lib.hid (show sm x = true by rw [← hx]; exact HSA.out _ (pk_mem HI.out.1))
   have SY := Lib.hid (show sm y = true by rw [← hy]; exact HSB.out _ (pk_mem HI.out.2))
   have HXK := Lib.hid (show xs[k]'(by rw [HXL.out]; exact hlt) = .int .i64 (whA f x y).1 by rw [← hx, ← hy]; exact HX.out k _ hlt)
   have hcw := owns_cell HO.out k (by rw [fillTo_len _ _ _ (by rw [HXL.out]; exact hk), HXL.out]; exact hlt)
   have hfr := World.ownsRow.frozenAt HO.out k
   clear hx hy
   by_cases h2 : (whA f x y).2 = true
   ·have H2 := Lib.hid h2; clear h2
    go_wp2_with (first | ((with_reducible refine (ati_calls va A.whs k _ HVA.out HLA.out HI.out.1).mono ?_); rintro e w' ⟨rfl, rfl⟩; rw [HXX.out]) | ((with_reducible refine (ati_calls vb B.whs k _ HVB.out HLB.out HI.out.2).mono ?_); rintro e w' ⟨rfl, rfl⟩; rw [HYY.out]) | ((with_reducible refine (awhole_calls _ _ _ _ SX.out SY.out).mono ?_); rintro e w' ⟨rfl, rfl⟩; rw [H2.out]))
    go_roundw
    case rel =>
     refine ⟨k + 1, by omega, by go_num, fun j hj => ?_, ?_, grown_trans HGR.out (grown_setCell _ ⟨W12.heap.size, k, none⟩ _)⟩
     ·by_cases hjk : j < k
      ·exact HALL.out j hjk
      ·have e : j = k := by omega
       rw [e, HXX.out, HYY.out]; exact H2.out
     ·have := (World.ownsRow.stored HO.out k (.int .i64 (whA f x y).1)).1
      rw [← HXK.out, fillTo_set] at this
      rw [← HXK.out]
      exact this
    case measure => simp [intOf]; omega
   ·have H2 := Lib.hid (show (whA f x y).2 = false by simpa using h2)
    clear h2
    go_wp2_with (first | ((with_reducible refine (ati_calls va A.whs k _ HVA.out HLA.out HI.out.1).mono ?_); rintro e w' ⟨rfl, rfl⟩; rw [HXX.out]) | ((with_reducible refine (ati_calls vb B.whs k _ HVB.out HLB.out HI.out.2).mono ?_); rintro e w' ⟨rfl, rfl⟩; rw [HYY.out]) | ((with_reducible refine (awhole_calls _ _ _ _ SX.out SY.out).mono ?_); rintro e w' ⟨rfl, rfl⟩; rw [H2.out]))
    refine bodyPost_ret (v := .tuple #[.agg #[.nilIface], .bool false]) (by simp [results, Tryz.results155, go_sem, cR0]) rfl ⟨.nilIface, false, rfl, Or.inr ⟨rfl, rfl⟩, HB.out.setCell (by show w.heap.size ≤ w.heap.size + 1 + 1; omega) _⟩
  ·have hkn : k = n := by omega
   have hall2 : ∀ p ∈ prs 0 A.whs B.whs n, (whA f p.1 p.2).2 = true := by
    intro p hp
    obtain ⟨i, hi, rfl⟩ := List.mem_map.1 hp
    exact HALL.out i (by rw [hkn]; exact List.mem_range.1 hi)
   have HWH := Lib.hid (show (∀ z ∈ outW f (prs 0 A.whs B.whs n), sm z = true) ∧ errG (gAr f) (prs 0 A.nums B.nums n) = 0 ∧ (VV.ints (outW f (prs 0 A.whs B.whs n))).sq = sqL (outG (gAr f) (prs 0 A.nums B.nums n)) by
    rw [HN.out] at hall2 ⊢
    exact whole_all HOA.out HOB.out HNA.out HNB.out HWA.out HWB.out HG.out hall2)
   obtain ⟨L, hL⟩ : ∃ L, outW f (prs 0 A.whs B.whs n) = L := ⟨_, rfl⟩
   have hLL : L.length = n := by rw [← hL, outW_len, prs_len]
   rw [hL] at HWH HXE
   have HL := Lib.hid (show Slc wr (fun b => W12.heap.size ≤ b) (.slice (some ⟨W12.heap.size, 0, none⟩) n n) L.length (ints L) by
    have := Slc.owned HO.out
    rw [hkn, ← HXL.out, fillTo_all, HXL.out, HXE.out] at this
    rw [hLL]; exact this)
   have HL2 := Lib.hid (show L.length ≤ 2000000 by rw [hLL]; have := HNL.out; omega)
   have HL3 := Lib.hid (show L.length ≤ 1048576 by rw [hLL]; exact HNL.out)
   have HSM := Lib.hid (show L.all sm = true from List.all_eq_true.2 HWH.out.1)
   clear hkn hall2 hL hLL
   go_wp2_with fail
   have HBW := Lib.hid (Below.refl wr.heap.size wr)
   refine (vints_yes _ L _ HL.out HL2.out HSM.out).mono ?_
   rintro e W13 ⟨uz, rfl, huz, hB⟩
   replace HR := HR.go hB; replace HB := cb hB HB; replace HW1 := cb hB HW1; replace HT := HT.go hB; replace HBW := cb hB HBW
   have HZ := Lib.hid (show IsV W13 (fun b => wr.heap.size ≤ b) uz (.ints L) from huz)
   have hsz := huz.store; clear huz; clear hB; clear cR0 zR0
   obtain ⟨W14, hWn, hB, hNB⟩ := ahd1 W13 (uz) 25
   replace HR := HR.go hB; replace HB := cb hB HB; replace HW1 := cb hB HW1; replace HT := HT.go hB; replace HBW := cb hB HBW; replace HZ := HZ.go hB; have HZA := Lib.hid hNB; clear hNB hB; have cHR0 := HR.out.2.1; have zHR0 := HR.out.2.2 0; have cHZA0 := HZA.out.2.1
   go_wp2_with fail
   clear hWn; have hO := HBW.out.size
   refine (squeeze_calls _ (.ints L) _ HZ.out HL3.out HWH.out.1 HT.out).mono ?_
   rintro e W15 ⟨uq, rfl, huq, hB⟩
   clear cHR0 zHR0 cHZA0; replace HR := HR.go hB; replace HB := cb hB HB; replace HW1 := cb hB HW1; replace HT := HT.go hB; replace HBW := cb hB HBW; replace HZ := HZ.go hB; replace HZA := HZA.go hB
   have HQ := Lib.hid (show IsV W15 (fun b => wr.heap.size ≤ b) uq (VV.ints L).sq from huq.wide (fun b _ (h : wr.heap.size ≤ b ∨ W14.heap.size ≤ b) => h.elim id (fun h => Nat.le_trans hO h)))
   have hsq := huq.store; clear huq hO; clear hB; have cHR0 := HR.out.2.1; have zHR0 := HR.out.2.2 0; have cHZA0 := HZA.out.2.1
   go_wp2_with fail
   refine bodyPost_ret (v := .tuple #[.agg #[uq], .bool true]) (by simp [results, Tryz.results155, go_sem, cHR0]) rfl ⟨uq, true, rfl, Or.inl ⟨rfl, HWH.out.2.1, ?_⟩, HB.out.setCell (by show w.heap.size ≤ w.heap.size + 1 + 1; omega) _⟩
   rw [← HWH.out.2.2]
   exact HQ.out.keep (Kept.setCell _ _ _ (by have := HRB.out; have := HBC.out.size; simp; omega)) (fun b _ (h : wr.heap.size ≤ b) => by have := HRB.out; have := HBC.out.size; omega)

set_option maxHeartbeats 8000000 in
theorem ofnums_calls {okA okB : Nat → Prop} (f : Int) (va vb : Value) (la lb : List Nat) (n : Nat) (w : World) (hva : Slc w okA va la.length (f64s la)) (hvb : Slc w okB vb lb.length (f64s lb)) (hla : la.length ≤ 1048576) (hlb : lb.length ≤ 1048576) (na : ∀ x ∈ la, Num x) (nb : ∀ x ∈ lb, Num x) (hg : goesA la.length lb.length) (hn : n = lenN la.length lb.length) (hT : TabAt w) :
  Calls Tryz.prog 156 #[.int .i64 f, va, vb, .int .i64 (n : Int)] w fun e w' => ∃ u, e = .returned (.tuple #[.agg #[u], .int .i64 (errG (gAr f) (prs 0 la lb n))]) ∧ IsV w' (fun b => w.heap.size ≤ b) u (if errG (gAr f) (prs 0 la lb n) = 0 then sqL (outG (gAr f) (prs 0 la lb n)) else .none) ∧ Below w.heap.size w w' := by
 obtain ⟨P, hP⟩ : ∃ P, P = prs 0 la lb n := ⟨_, rfl⟩
 obtain ⟨R, hRR⟩ : ∃ R : VV, R = (if errG (gAr f) P = 0 then sqL (outG (gAr f) P) else .none) := ⟨_, rfl⟩
 obtain ⟨E, hEE⟩ : ∃ E : Int, E = errG (gAr f) P := ⟨_, rfl⟩
 rw [← hP, ← hRR, ← hEE]
 have HPP := Lib.hid hP; have HRR := Lib.hid hRR; have HEE := Lib.hid hEE
 have HPL := Lib.hid (show P.length = n by rw [hP, prs_len])
 have HPG := Lib.hid (show ∀ k, k < n → P[k]? = some (pk 0 la k, pk 0 lb k) by intro k hk; rw [hP]; exact prs_get hk)
 have HON := Lib.hid (show ∀ x ∈ outG (gAr f) P, Num x by rw [hP, hn]; exact gAr_num hg na nb)
 have HIN := Lib.hid (show ∀ i, i < n → (la.length = 1 ∨ i < la.length) ∧ (lb.length = 1 ∨ i < lb.length) by
  intro i hi
  rw [hn] at hi
  exact lenN_in hg hi)
 have HNL := Lib.hid (show n ≤ 1048576 by rw [hn]; exact lenN_le hla hlb)
 have HNA := Lib.hid na; have HNB := Lib.hid nb
 have HLA := Lib.hid (show la.length ≤ 2000000 by omega)
 have HLB := Lib.hid (show lb.length ≤ 2000000 by omega)
 clear hP hRR hEE hg hn hla hlb na nb
 have hst := run_store_float
 obtain ⟨xs, hxs⟩ : ∃ xs : List Value, xs = f64s (outG (gAr f) P) := ⟨_, rfl⟩
 have hxl : xs.length = n := by rw [hxs]; simp [f64s, outG, HPL.out]
 have hget : ∀ k (h : k < xs.length) (h2 : k < n), xs[k]'h = .float .f64 (oneA f (pk 0 la k) (pk 0 lb k)).1 := by
  intro k h h2
  obtain ⟨h4, h5⟩ := List.getElem?_eq_some_iff.1 (HPG.out k h2)
  simp only [hxs, f64s, outG, List.getElem_map, h5, gAr]
 have HXE := Lib.hid hxs; have HX := Lib.hid hget; have HXL := Lib.hid hxl
 have hmk := run_mkF1 n (by have := HNL.out; omega) (w.alloc (.cells #[.nilIface] 25))
 obtain ⟨W0, hW0⟩ : ∃ W0, W0 = (w.alloc (.cells #[.nilIface] 25)).alloc (.cells (zerosV (.float .f64 0) n) 42) := ⟨_, rfl⟩
 have HO0 := Lib.hid (show W0.ownsRow (w.heap.size + 1) 42 1 (.slice (some ⟨w.heap.size + 1, 0, none⟩) n n) n (List.replicate n (.float .f64 0)) by
  rw [hW0]
  have := own_make1 (.float .f64 0) 42 n (by have := HNL.out; omega) (w.alloc (.cells #[.nilIface] 25)) (w.heap.size + 1) (by simp)
  simpa using this)
 have HW := Lib.hid (show Below w.heap.size w W0 by rw [hW0]; exact (below_new _ _).alloc (by simp) _)
 have HR := Lib.hid (show At1 W0 w.heap.size .nilIface by rw [hW0]; exact (At1.new w _ _).below (below_new _ _))
 have HT := Lib.hid hT; have HVA := Lib.hid hva; have HVB := Lib.hid hvb; clear hva hvb hT hxs hget hxl
 simp only [World.size_alloc] at hmk
 go_enter Tryz.func156, Tryz.ntmps156
 go_wp2
 rw [← hW0]
 clear hW0 hmk
 go_loopw [20] (fun i wr => ∃ k : Nat, k ≤ n ∧ i = .int .i64 k ∧ errG (gAr f) P = errG (gAr f) (P.drop k) ∧ wr.ownsRow (w.heap.size + 1) 42 1 (.slice (some ⟨w.heap.size + 1, 0, none⟩) n n) n (fillTo xs (.float .f64 0) k) ∧ W0.grownBy wr (some (w.heap.size + 1))) (fun i _ => n - (intOf i).toNat)
 case atStart => exact ⟨0, by omega, rfl, rfl, by rw [fillTo_zero, HXL.out]; exact HO0.out, grown_refl _ _⟩
 case round =>
  obtain ⟨k, hk, rfl, herr, hown, hgr⟩ := hrel
  have HO := Lib.hid hown; have HG := Lib.hid hgr; have HE := Lib.hid herr
  have HB := Lib.hid (HW.out.grown hgr HW.out.size (fun j hj => by cases hj; omega))
  have HRL := Lib.hid (HR.out.grown hgr (by simp))
  have HVA := Lib.hid (HVA.out.below HB.out)
  have HVB := Lib.hid (HVB.out.below HB.out)
  clear hown hgr herr; have hnm := HNL.out
  by_cases hlt : k < n
  ·have HI := Lib.hid (HIN.out k hlt)
   obtain ⟨x, hx⟩ : ∃ x, pk 0 la k = x := ⟨_, rfl⟩
   obtain ⟨y, hy⟩ : ∃ y, pk 0 lb k = y := ⟨_, rfl⟩
   have HXX := Lib.hid hx; have HYY := Lib.hid hy
   have NX := Lib.hid (show Num x by rw [← hx]; exact HNA.out _ (pk_mem HI.out.1))
   have NY := Lib.hid (show Num y by rw [← hy]; exact HNB.out _ (pk_mem HI.out.2))
   have HXK := Lib.hid (show xs[k]'(by rw [HXL.out]; exact hlt) = .float .f64 (oneA f x y).1 by rw [← hx, ← hy]; exact HX.out k _ hlt)
   have HES := Lib.hid (show errG (gAr f) (P.drop k) = if (oneA f x y).2 = 0 then errG (gAr f) (P.drop (k + 1)) else (oneA f x y).2 by have h9 := errG_step (g := gAr f) (HPG.out k hlt); rw [gAr_pair, hx, hy] at h9; exact h9)
   clear hx hy
   go_wp2_with (first | ((with_reducible refine (atf_calls va la k _ HVA.out HLA.out HI.out.1).mono ?_); rintro e w' ⟨rfl, rfl⟩; rw [HXX.out]) | ((with_reducible refine (atf_calls vb lb k _ HVB.out HLB.out HI.out.2).mono ?_); rintro e w' ⟨rfl, rfl⟩; rw [HYY.out]))
   refine (aone_calls f x y _ NX.out NY.out).mono ?_
   rintro e W9 ⟨rfl, m, hm⟩
   have HO9 := Lib.hid (show W9.ownsRow (w.heap.size + 1) 42 1 (.slice (some ⟨w.heap.size + 1, 0, none⟩) n n) n (fillTo xs (.float .f64 0) k) by rw [hm]; exact HO.out.drewN' m)
   have HG9 := Lib.hid (show W0.grownBy W9 (some (w.heap.size + 1)) by rw [hm]; exact grown_trans HG.out (grown_drewN _ _ _))
   have HB9 := Lib.hid (show Below w.heap.size w W9 by rw [hm]; exact Below.drewN' HB.out m)
   have HR9 := Lib.hid (show At1 W9 w.heap.size .nilIface by rw [hm]; exact HRL.out.below (Below.drewN' (Below.refl _ _) m))
   clear hm; have r0 := HR9.out.2.1; have rf0 := HR9.out.2.2 0
   have hcw := owns_cell HO9.out k (by rw [fillTo_len _ _ _ (by rw [HXL.out]; exact hk), HXL.out]; exact hlt)
   have hfr := World.ownsRow.frozenAt HO9.out k
   by_cases h0 : (oneA f x y).2 = 0
   ·have HE2 := Lib.hid (show errG (gAr f) P = errG (gAr f) (P.drop (k + 1)) by rw [HE.out, HES.out, if_pos h0])
    rw [h0]; clear h0
    go_wp2
    go_roundw
    case rel =>
     refine ⟨k + 1, by omega, by go_num, HE2.out, ?_, grown_trans HG9.out (grown_setCell _ ⟨w.heap.size + 1, k, none⟩ _)⟩
     have := (World.ownsRow.stored HO9.out k (.float .f64 (oneA f x y).1)).1
     rw [← HXK.out, fillTo_set] at this
     rw [← HXK.out]
     exact this
    case measure => simp [intOf]; omega
   ·obtain ⟨er, her⟩ : ∃ er, (oneA f x y).2 = er := ⟨_, rfl⟩
    have HE2 := Lib.hid (show errG (gAr f) P = er by rw [HE.out, HES.out, if_neg h0, her])
    have hne : (er != 0) = true := by rw [← her]; simp [h0]
    have HNE := Lib.hid (show er ≠ 0 by rw [← her]; exact h0)
    rw [her]; clear h0 her
    go_wp2
    refine bodyPost_ret (v := .tuple #[.agg #[.nilIface], .int .i64 er]) (by simp [results, Tryz.results156, go_sem, r0]) rfl ⟨.nilIface, ?_, ?_, HB9.out.setCell (Nat.le_refl _) _⟩
    ·rw [HEE.out, HE2.out]
    ·rw [HRR.out, HE2.out, if_neg HNE.out]; exact .none
  ·have hkl : k = n := by omega
   have HE2 := Lib.hid (show errG (gAr f) P = 0 by rw [HE.out, hkl, ← HPL.out, List.drop_length]; rfl)
   obtain ⟨L, hL⟩ : ∃ L, outG (gAr f) P = L := ⟨_, rfl⟩
   have hLL : L.length = n := by rw [← hL, outG_len]; exact HPL.out
   rw [hL] at HON HXE
   have HRL2 := Lib.hid (show R = (VV.floats L).sq by rw [HRR.out, if_pos HE2.out, hL]; rfl)
   have HL := Lib.hid (show Slc wr (fun b => w.heap.size + 1 ≤ b) (.slice (some ⟨w.heap.size + 1, 0, none⟩) n n) L.length (f64s L) by
    have := Slc.owned HO.out
    rw [hkl, ← HXL.out, fillTo_all, HXL.out, HXE.out] at this
    rw [hLL]; exact this)
   have HLM := Lib.hid (show L.length ≤ 1048576 by rw [hLL]; exact HNL.out)
   have HT2 := Lib.hid (show TabAt wr from fun j hj => keep_below HB.out _ _ (HT.out j hj))
   have r0 := HRL.out.2.1; have rf0 := HRL.out.2.2 0; clear hkl hL hLL r0 rf0
   go_wp2_with fail
   refine (numbers_yes _ L _ HL.out HLM.out (fun x hx => (HON.out x hx).1) HT2.out).mono ?_
   rintro e W2 ⟨u', rfl, hu, hB2⟩
   rw [map_ze HON.out] at hu
   have hsu := hu.store
   have HU := Lib.hid (show IsV W2 (fun b => wr.heap.size ≤ b) u' (VV.floats L).sq from hu)
   obtain ⟨W3, hW3⟩ : ∃ W3, W3 = W2.alloc (.cells #[u'] 25) := ⟨_, rfl⟩
   have HN := Lib.hid (show Below W2.heap.size W2 W3 by rw [hW3]; exact below_new _ _)
   have HU3 := Lib.hid (HU.out.grow HN.out)
   have HV := Lib.hid (show At1 W3 W2.heap.size u' by rw [hW3]; exact At1.new _ _ _)
   have HB3 := Lib.hid ((HB.out.trans (hB2.mono HB.out.size)).trans (HN.out.mono (Nat.le_trans HB.out.size hB2.size)))
   obtain ⟨_, r0, rf⟩ := (HRL.out.below hB2).below HN.out
   have rf0 := rf 0
   have HSZ := Lib.hid HRL.out.1
   obtain ⟨_, v0, _⟩ := HV.out
   have HFW := Lib.hid hW3.symm; clear hu hB2 hW3 rf; have hfold := HFW.out
   go_wp2_with fail
   refine bodyPost_ret (v := .tuple #[.agg #[u'], .int .i64 0]) (by simp [results, Tryz.results156, go_sem, r0]) rfl ⟨u', ?_, ?_, HB3.out.setCell (Nat.le_refl _) _⟩
   ·rw [HEE.out, HE2.out]
   ·rw [HRL2.out]
    exact HU3.out.keep (Kept.setCell _ _ _ (by have := HSZ.out; simp <;> omega)) (fun b _ (h : wr.heap.size ≤ b) => Nat.le_trans HB.out.size h)
end Go.Proofs.YtbacchbcanlciaaGreatDoor

namespace Go.Proofs.YtbacchbcanlciaaGreatDoor
set_option maxRecDepth 100000
open Go.RowKit Fl
set_option linter.unusedVariables false

set_option maxHeartbeats 8000000 in
theorem arapply_calls {okA okB : Nat → Prop} (f : Int) (uA uB : Value) (A B : VV) (w : World) (hA : IsV w okA uA A) (hB' : IsV w okB uB B) (oA : A.ok) (oB : B.ok) (nA : A.nm) (nB : B.nm) (hT : TabAt w) :
  Calls Tryz.prog 125 #[.int .i64 f, .agg #[uA], .agg #[uB]] w fun e w' => ∃ u, e = .returned (.tuple #[.agg #[u], .int .i64 (apE f A B)]) ∧ IsV w' (fun b => w.heap.size ≤ b) u (apV f A B) ∧ Below w.heap.size w w' := by
 have hsa := hA.store
 have hsb := hB'.store
 obtain ⟨W1, hW1⟩ : ∃ W1, W1 = ((w.alloc (.cells #[uA] 25)).alloc (.cells #[uB] 25)).alloc (.cells #[.nilIface] 25) := ⟨_, rfl⟩
 have HB := Lib.hid (show Below w.heap.size w W1 by rw [hW1]; exact ((below_new _ _).alloc (by simp) _).alloc (by simp; omega) _)
 have HSZ := Lib.hid (show W1.heap.size = w.heap.size + 3 by rw [hW1]; simp)
 have HA := Lib.hid (show At1 W1 w.heap.size uA by rw [hW1]; exact ((At1.new w _ _).below (below_new _ _)).below ((below_new _ _).mono (by simp)))
 have HB2 := Lib.hid (show At1 W1 (w.heap.size + 1) uB by rw [hW1]; have := (At1.new (w.alloc (.cells #[uA] 25)) uB 25).below (below_new _ (.cells #[.nilIface] 25)); simpa using this)
 have HR := Lib.hid (show At1 W1 (w.heap.size + 1 + 1) .nilIface by rw [hW1]; have := At1.new ((w.alloc (.cells #[uA] 25)).alloc (.cells #[uB] 25)) .nilIface 25; simpa using this)
 have HU := Lib.hid (show IsV W1 okA uA A from hA.grow HB.out)
 have HU2 := Lib.hid (show IsV W1 okB uB B from hB'.grow HB.out)
 have HT := Lib.hid (show TabAt W1 from fun j hj => keep_below HB.out _ _ (hT j hj))
 have HOA := Lib.hid oA; have HOB := Lib.hid oB; have HNA := Lib.hid nA; have HNB := Lib.hid nB
 have HW1 := Lib.hid (Below.refl W1.heap.size W1)
 obtain ⟨R, hRR⟩ : ∃ R, R = apV f A B := ⟨_, rfl⟩
 obtain ⟨E, hEE⟩ : ∃ E, E = apE f A B := ⟨_, rfl⟩
 rw [← hRR, ← hEE]
 have HRR := Lib.hid hRR; have HEE := Lib.hid hEE
 have hfold := hW1.symm
 clear hA hB' hT oA oB nA nB hW1 hRR hEE
 have cHA0 := HA.out.2.1; have cHB20 := HB2.out.2.1; have cHR0 := HR.out.2.1; have zHR0 := HR.out.2.2 0
 by_cases hf : 1 ≤ f ∧ f ≤ 8
 rotate_left
 ·have HD := Lib.hid (decide_eq_false hf)
  have HE0 := Lib.hid (show apE f A B = 1 by unfold apE; rw [if_neg hf])
  have HR0 := Lib.hid (show R = .none by rw [HRR.out]; exact apV_none (by rw [HE0.out]; decide))
  clear hf
  go_enter Tryz.func125, Tryz.ntmps125
  go_wp2_with (refine (aknown_calls _ _).mono ?_; rintro e w' ⟨rfl, rfl⟩; rw [HD.out])
  refine bodyPost_ret (v := .tuple #[.agg #[.nilIface], .int .i64 1]) (by simp [results, Tryz.results125, go_sem, cHR0]) rfl ⟨.nilIface, by rw [HEE.out, HE0.out], ?_, HB.out.setCell (by show w.heap.size ≤ w.heap.size + 1 + 1; omega) _⟩
  rw [HR0.out]; exact .none
 have HD := Lib.hid (decide_eq_true hf)
 have HF := Lib.hid hf; clear hf
 go_enter Tryz.func125, Tryz.ntmps125
 go_wp2_with (refine (aknown_calls _ _).mono ?_; rintro e w' ⟨rfl, rfl⟩; rw [HD.out])
 clear hfold
 by_cases hg : goesA A.len B.len
 rotate_left
 ·have HG := Lib.hid hg; clear hg; clear cHA0 cHB20 cHR0 zHR0
  obtain ⟨W11, hWD, hB⟩ := drwn W1
  replace HA := HA.go hB; replace HB2 := HB2.go hB; replace HR := HR.go hB; replace HB := cb hB HB; replace HW1 := cb hB HW1; replace HU := HU.go hB; replace HU2 := HU2.go hB; replace HT := HT.go hB; clear hB
  refine rgn (S := fun w' => w'.cell? ⟨w.heap.size, 0, none⟩ = some (uA) ∧ w'.cell? ⟨(w.heap.size + 1), 0, none⟩ = some (uB) ∧ w'.cell? ⟨(w.heap.size + 1 + 1), 0, none⟩ = some (.nilIface)) hWD ⟨HA.out.2.1, HB2.out.2.1, HR.out.2.1⟩ (fun hHeld => ?_)
  clear hWD; apply tk 0; apply tk 2
  apply rdy 1; intro K hK; clear hHeld; go_simp
  refine (vlen_calls _ A _ HU.out).mono ?_
  rintro e W12 ⟨rfl, hB⟩
  replace HA := HA.go hB; replace HB2 := HB2.go hB; replace HR := HR.go hB; replace HB := cb hB HB; replace HW1 := cb hB HW1; replace HU := HU.go hB; replace HU2 := HU2.go hB; replace HT := HT.go hB; clear hB
  refine hK.out _ _ ⟨HA.out.2.1, HB2.out.2.1, HR.out.2.1⟩ (fun hHeld => ?_)
  clear hK K
  apply rdy 3; intro K hK; clear hHeld; go_simp
  refine (vlen_calls _ B _ HU2.out).mono ?_
  rintro e W13 ⟨rfl, hB⟩
  replace HA := HA.go hB; replace HB2 := HB2.go hB; replace HR := HR.go hB; replace HB := cb hB HB; replace HW1 := cb hB HW1; replace HU := HU.go hB; replace HU2 := HU2.go hB; replace HT := HT.go hB; clear hB
  refine hK.out _ _ ⟨HA.out.2.1, HB2.out.2.1, HR.out.2.1⟩ (fun hHeld => ?_)
  clear hK K
  apply rdy 4; intro K hK; clear hHeld; go_simp
  refine (alen_no A.len B.len _ HG.out).mono ?_
  rintro e w' ⟨rfl, rfl⟩
  refine hK.out _ _ ⟨HA.out.2.1, HB2.out.2.1, HR.out.2.1⟩ (fun hHeld => ?_)
  clear hK K; apply tk 5; apply tk 6; apply tk 7; apply tk 8; apply tk 9
  refine wpAnyH_done (by kernel_rfl) ?_ _
  clear hHeld; have cHA0 := HA.out.2.1; have cHB20 := HB2.out.2.1; have cHR0 := HR.out.2.1; have zHR0 := HR.out.2.2 0
  have HE0 := Lib.hid (show apE f A B = 23 by unfold apE; rw [if_pos HF.out, if_neg HG.out])
  have HR0 := Lib.hid (show R = .none by rw [HRR.out]; exact apV_none (by rw [HE0.out]; decide))
  go_wp2_with fail
  refine bodyPost_ret (v := .tuple #[.agg #[.nilIface], .int .i64 23]) (by simp [results, Tryz.results125, go_sem, cHR0]) rfl ⟨.nilIface, by rw [HEE.out, HE0.out], ?_, HB.out.setCell (by show w.heap.size ≤ w.heap.size + 1 + 1; omega) _⟩
  rw [HR0.out]; exact .none
 ·have HG := Lib.hid hg; clear hg; clear cHA0 cHB20 cHR0 zHR0
  obtain ⟨W11, hWD, hB⟩ := drwn W1
  replace HA := HA.go hB; replace HB2 := HB2.go hB; replace HR := HR.go hB; replace HB := cb hB HB; replace HW1 := cb hB HW1; replace HU := HU.go hB; replace HU2 := HU2.go hB; replace HT := HT.go hB; clear hB
  refine rgn (S := fun w' => w'.cell? ⟨w.heap.size, 0, none⟩ = some (uA) ∧ w'.cell? ⟨(w.heap.size + 1), 0, none⟩ = some (uB) ∧ w'.cell? ⟨(w.heap.size + 1 + 1), 0, none⟩ = some (.nilIface)) hWD ⟨HA.out.2.1, HB2.out.2.1, HR.out.2.1⟩ (fun hHeld => ?_)
  clear hWD; apply tk 0; apply tk 2
  apply rdy 1; intro K hK; clear hHeld; go_simp
  refine (vlen_calls _ A _ HU.out).mono ?_
  rintro e W12 ⟨rfl, hB⟩
  replace HA := HA.go hB; replace HB2 := HB2.go hB; replace HR := HR.go hB; replace HB := cb hB HB; replace HW1 := cb hB HW1; replace HU := HU.go hB; replace HU2 := HU2.go hB; replace HT := HT.go hB; clear hB
  refine hK.out _ _ ⟨HA.out.2.1, HB2.out.2.1, HR.out.2.1⟩ (fun hHeld => ?_)
  clear hK K
  apply rdy 3; intro K hK; clear hHeld; go_simp
  refine (vlen_calls _ B _ HU2.out).mono ?_
  rintro e W13 ⟨rfl, hB⟩
  replace HA := HA.go hB; replace HB2 := HB2.go hB; replace HR := HR.go hB; replace HB := cb hB HB; replace HW1 := cb hB HW1; replace HU := HU.go hB; replace HU2 := HU2.go hB; replace HT := HT.go hB; clear hB
  refine hK.out _ _ ⟨HA.out.2.1, HB2.out.2.1, HR.out.2.1⟩ (fun hHeld => ?_)
  clear hK K
  apply rdy 4; intro K hK; clear hHeld; go_simp
  refine (alen_yes A.len B.len _ HG.out).mono ?_
  rintro e w' ⟨rfl, rfl⟩
  refine hK.out _ _ ⟨HA.out.2.1, HB2.out.2.1, HR.out.2.1⟩ (fun hHeld => ?_)
  clear hK K; apply tk 5; apply tk 6; apply tk 7; apply tk 8; apply tk 9
  refine wpAnyH_done (by kernel_rfl) ?_ _
  clear hHeld; have cHA0 := HA.out.2.1; have cHB20 := HB2.out.2.1; have cHR0 := HR.out.2.1; have zHR0 := HR.out.2.2 0
  go_wp2_with fail
  by_cases hca : A.cls = 0
  rotate_left
  ·have HE0 := Lib.hid (show apE f A B = 24 by unfold apE; rw [if_pos HF.out, if_pos HG.out, if_neg (fun h => hca h.1)])
   have HR0 := Lib.hid (show R = .none by rw [HRR.out]; exact apV_none (by rw [HE0.out]; decide))
   have hcb : (A.cls != 0) = true := by simp [hca]
   clear hca
   refine (class_calls _ A _ HU.out).mono ?_
   rintro e W14 ⟨rfl, hB⟩
   clear cHA0 cHB20 cHR0 zHR0; replace HA := HA.go hB; replace HB2 := HB2.go hB; replace HR := HR.go hB; replace HB := cb hB HB; replace HW1 := cb hB HW1; replace HU := HU.go hB; replace HU2 := HU2.go hB; replace HT := HT.go hB; clear hB; have cHA0 := HA.out.2.1; have cHB20 := HB2.out.2.1; have cHR0 := HR.out.2.1; have zHR0 := HR.out.2.2 0
   go_wp2_with fail
   refine bodyPost_ret (v := .tuple #[.agg #[.nilIface], .int .i64 24]) (by simp [results, Tryz.results125, go_sem, cHR0]) rfl ⟨.nilIface, by rw [HEE.out, HE0.out], ?_, HB.out.setCell (by show w.heap.size ≤ w.heap.size + 1 + 1; omega) _⟩
   rw [HR0.out]; exact .none
  have HCA := Lib.hid hca; clear hca
  refine (class_calls _ A _ HU.out).mono ?_
  rintro e W14 ⟨rfl, hB⟩
  clear cHA0 cHB20 cHR0 zHR0; replace HA := HA.go hB; replace HB2 := HB2.go hB; replace HR := HR.go hB; replace HB := cb hB HB; replace HW1 := cb hB HW1; replace HU := HU.go hB; replace HU2 := HU2.go hB; replace HT := HT.go hB; rw [HCA.out]; clear hB; have cHA0 := HA.out.2.1; have cHB20 := HB2.out.2.1; have cHR0 := HR.out.2.1; have zHR0 := HR.out.2.2 0
  go_wp2_with fail
  by_cases hcb : B.cls = 0
  rotate_left
  ·have HE0 := Lib.hid (show apE f A B = 24 by unfold apE; rw [if_pos HF.out, if_pos HG.out, if_neg (fun h => hcb h.2)])
   have HR0 := Lib.hid (show R = .none by rw [HRR.out]; exact apV_none (by rw [HE0.out]; decide))
   have hcbb : (B.cls != 0) = true := by simp [hcb]
   clear hcb
   refine (class_calls _ B _ HU2.out).mono ?_
   rintro e W15 ⟨rfl, hB⟩
   clear cHA0 cHB20 cHR0 zHR0; replace HA := HA.go hB; replace HB2 := HB2.go hB; replace HR := HR.go hB; replace HB := cb hB HB; replace HW1 := cb hB HW1; replace HU := HU.go hB; replace HU2 := HU2.go hB; replace HT := HT.go hB; clear hB; have cHA0 := HA.out.2.1; have cHB20 := HB2.out.2.1; have cHR0 := HR.out.2.1; have zHR0 := HR.out.2.2 0
   go_wp2_with fail
   refine bodyPost_ret (v := .tuple #[.agg #[.nilIface], .int .i64 24]) (by simp [results, Tryz.results125, go_sem, cHR0]) rfl ⟨.nilIface, by rw [HEE.out, HE0.out], ?_, HB.out.setCell (by show w.heap.size ≤ w.heap.size + 1 + 1; omega) _⟩
   rw [HR0.out]; exact .none
  have HCB := Lib.hid hcb; clear hcb
  refine (class_calls _ B _ HU2.out).mono ?_
  rintro e W15 ⟨rfl, hB⟩
  clear cHA0 cHB20 cHR0 zHR0; replace HA := HA.go hB; replace HB2 := HB2.go hB; replace HR := HR.go hB; replace HB := cb hB HB; replace HW1 := cb hB HW1; replace HU := HU.go hB; replace HU2 := HU2.go hB; replace HT := HT.go hB; rw [HCB.out]; clear hB; have cHA0 := HA.out.2.1; have cHB20 := HB2.out.2.1; have cHR0 := HR.out.2.1; have zHR0 := HR.out.2.2 0
  go_wp2_with fail
  obtain ⟨n, hn⟩ : ∃ n, lenN A.len B.len = n := ⟨_, rfl⟩
  have HN := Lib.hid hn.symm; rw [hn]
  obtain ⟨P, hP⟩ : ∃ P, prs 0 A.nums B.nums n = P := ⟨_, rfl⟩
  have HP := Lib.hid hP
  have HE1 := Lib.hid (show E = errG (gAr f) P by rw [HEE.out]; unfold apE; rw [if_pos HF.out, if_pos HG.out, if_pos ⟨HCA.out, HCB.out⟩, hn, hP])
  have HR1 := Lib.hid (show R = if errG (gAr f) P = 0 then sqL (outG (gAr f) P) else .none by rw [HRR.out]; unfold apV; rw [← HEE.out, HE1.out, hn, hP])
  clear hn hP; have hO := HW1.out.size
  refine (ofwholes_calls f _ _ A B n _ HU.out HU2.out HOA.out HOB.out HNA.out HNB.out HG.out HN.out HT.out).mono ?_
  rintro e W16 ⟨uz, r, rfl, hr, hB⟩
  clear cHA0 cHB20 cHR0 zHR0; replace HA := HA.go hB; replace HB2 := HB2.go hB; replace HR := HR.go hB; replace HB := cb hB HB; replace HW1 := cb hB HW1; replace HU := HU.go hB; replace HU2 := HU2.go hB; replace HT := HT.go hB
  rw [HP.out] at hr
  have HSO := Lib.hid (show w.heap.size + 3 ≤ W15.heap.size by have := HSZ.out; omega)
  clear hO; clear hB
  rcases hr with ⟨rfl, he, hi⟩ | ⟨rfl, hz⟩
  ·have HI := Lib.hid (show IsV W16 (fun b => w.heap.size + 3 ≤ b) uz (sqL (outG (gAr f) P)) from hi.wide (fun b _ (h : W15.heap.size ≤ b) => Nat.le_trans HSO.out h))
   have hsz := hi.store; have HE2 := Lib.hid he; clear hi he
   obtain ⟨W17, hWn, hB, hNB⟩ := ahd1 W16 (uz) 25
   replace HA := HA.go hB; replace HB2 := HB2.go hB; replace HR := HR.go hB; replace HB := cb hB HB; replace HW1 := cb hB HW1; replace HU := HU.go hB; replace HU2 := HU2.go hB; replace HT := HT.go hB; replace HI := HI.go hB; have HZA := Lib.hid hNB; clear hNB hB; have cHA0 := HA.out.2.1; have cHB20 := HB2.out.2.1; have cHR0 := HR.out.2.1; have zHR0 := HR.out.2.2 0; have cHZA0 := HZA.out.2.1
   go_wp2_with fail
   clear hWn
   refine bodyPost_ret (v := .tuple #[.agg #[uz], .int .i64 0]) (by simp [results, Tryz.results125, go_sem, cHR0]) rfl ⟨uz, by rw [HE1.out, HE2.out], ?_, HB.out.setCell (by show w.heap.size ≤ w.heap.size + 1 + 1; omega) _⟩
   rw [HR1.out, if_pos HE2.out]
   exact HI.out.keep (Kept.setCell _ _ _ (by simp <;> omega)) (fun b _ (h : w.heap.size + 3 ≤ b) => by omega)
  ·have hsz : ∀ (w : World) (a : Addr) (m : Mode), (store a uz m).run Tryz.prog w = stored Tryz.prog w a uz m := by subst hz; exact fun w a m => run_store Tryz.prog w a _ m rfl
   clear hz
   obtain ⟨W17, hWn, hB, hNB⟩ := ahd1 W16 (uz) 25
   replace HA := HA.go hB; replace HB2 := HB2.go hB; replace HR := HR.go hB; replace HB := cb hB HB; replace HW1 := cb hB HW1; replace HU := HU.go hB; replace HU2 := HU2.go hB; replace HT := HT.go hB; have HZA := Lib.hid hNB; clear hNB hB; have cHA0 := HA.out.2.1; have cHB20 := HB2.out.2.1; have cHR0 := HR.out.2.1; have zHR0 := HR.out.2.2 0; have cHZA0 := HZA.out.2.1
   go_wp2_with fail
   clear hWn; clear cHA0 cHB20 cHR0 zHR0 cHZA0
   obtain ⟨W18, hWD, hB⟩ := drwn W17
   replace HA := HA.go hB; replace HB2 := HB2.go hB; replace HR := HR.go hB; replace HB := cb hB HB; replace HW1 := cb hB HW1; replace HU := HU.go hB; replace HU2 := HU2.go hB; replace HT := HT.go hB; replace HZA := HZA.go hB; clear hB
   refine rgn (S := fun w' => w'.cell? ⟨w.heap.size, 0, none⟩ = some uA ∧ w'.cell? ⟨w.heap.size + 1, 0, none⟩ = some uB) hWD ⟨HA.out.2.1, HB2.out.2.1⟩ (fun hHeld => ?_)
   clear hWD; apply tk 0; apply tk 1; apply tk 3; apply tk 5
   apply rdy 2; intro K hK; clear hHeld; go_simp
   refine (vnums_calls _ A _ HU.out HOA.out HT.out).mono ?_
   rintro e W19 ⟨va, rfl, hva, hB⟩
   replace HA := HA.go hB; replace HB2 := HB2.go hB; replace HR := HR.go hB; replace HB := cb hB HB; replace HW1 := cb hB HW1; replace HU := HU.go hB; replace HU2 := HU2.go hB; replace HT := HT.go hB; replace HZA := HZA.go hB; have HVA := Lib.hid hva; clear hva; clear hB
   refine hK.out _ _ ⟨HA.out.2.1, HB2.out.2.1⟩ (fun hHeld => ?_)
   clear hK K
   apply rdy 4; intro K hK; clear hHeld; go_simp
   refine (vnums_calls _ B _ HU2.out HOB.out HT.out).mono ?_
   rintro e W20 ⟨vb, rfl, hvb, hB⟩
   replace HA := HA.go hB; replace HB2 := HB2.go hB; replace HR := HR.go hB; replace HB := cb hB HB; replace HW1 := cb hB HW1; replace HU := HU.go hB; replace HU2 := HU2.go hB; replace HT := HT.go hB; replace HZA := HZA.go hB; replace HVA := HVA.go hB; have HVB := Lib.hid hvb; clear hvb; clear hB
   refine hK.out _ _ ⟨HA.out.2.1, HB2.out.2.1⟩ (fun hHeld => ?_)
   clear hK K
   apply rdy 6; intro K hK; clear hHeld; go_simp; have hO := HW1.out.size
   refine (ofnums_calls f _ _ A.nums B.nums n _ HVA.out HVB.out (by rw [VV.nums_len0 HCA.out]; exact VV.ok_len HOA.out) (by rw [VV.nums_len0 HCB.out]; exact VV.ok_len HOB.out) (VV.nums_num HOA.out HNA.out) (VV.nums_num HOB.out HNB.out) (by rw [VV.nums_len0 HCA.out, VV.nums_len0 HCB.out]; exact HG.out) (by rw [VV.nums_len0 HCA.out, VV.nums_len0 HCB.out]; exact HN.out) HT.out).mono ?_
   rintro e W21 ⟨uq, rfl, huq, hB⟩
   replace HA := HA.go hB; replace HB2 := HB2.go hB; replace HR := HR.go hB; replace HB := cb hB HB; replace HW1 := cb hB HW1; replace HU := HU.go hB; replace HU2 := HU2.go hB; replace HT := HT.go hB; replace HZA := HZA.go hB; replace HVA := HVA.go hB; replace HVB := HVB.go hB
   rw [HP.out] at huq ⊢
   have HQ := Lib.hid (show IsV W21 (fun b => w.heap.size + 3 ≤ b) uq R by rw [HR1.out]; exact huq.wide (fun b _ (h : W20.heap.size ≤ b) => by have := HSZ.out; omega))
   have hsq := huq.store; clear huq hO; clear hB
   refine hK.out _ _ ⟨HA.out.2.1, HB2.out.2.1⟩ (fun hHeld => ?_)
   clear hK K; apply tk 7; apply tk 8
   apply rdy 9; intro K hK; clear hHeld
   obtain ⟨Wf, hWf⟩ : ∃ x, W21.setCell ⟨w.heap.size + 1 + 1, 0, none⟩ uq = x := ⟨_, rfl⟩
   have HRF := Lib.hid (show At1 Wf (w.heap.size + 1 + 1) uq by rw [← hWf]; exact HR.out.set _)
   replace HA := Lib.hid (show At1 Wf w.heap.size uA by rw [← hWf]; exact HA.out.grown (grown_setCell _ ⟨w.heap.size + 1 + 1, 0, none⟩ _) (by simp <;> omega))
   replace HB2 := Lib.hid (show At1 Wf (w.heap.size + 1) uB by rw [← hWf]; exact HB2.out.grown (grown_setCell _ ⟨w.heap.size + 1 + 1, 0, none⟩ _) (by simp <;> omega))
   have HBF := Lib.hid (show Below w.heap.size w Wf by rw [← hWf]; exact HB.out.setCell (by show w.heap.size ≤ w.heap.size + 1 + 1; omega) _)
   have HQF := Lib.hid (show IsV Wf (fun b => w.heap.size ≤ b) uq R by rw [← hWf]; exact HQ.out.keep (Kept.setCell _ _ _ (by simp <;> omega)) (fun b _ (h : w.heap.size + 3 ≤ b) => by omega))
   have cR0 := HR.out.2.1; have zR0 := HR.out.2.2 0; go_simp
   try rw [hWf]
   clear hWf cR0 zR0
   refine hK.out _ _ ⟨HA.out.2.1, HB2.out.2.1⟩ (fun hHeld => ?_)
   clear hK K; apply tk 10
   refine wpAnyH_done (by kernel_rfl) ?_ _
   clear hHeld; have cF0 := HRF.out.2.1
   go_wp2
   refine bodyPost_ret (v := .tuple #[.agg #[uq], .int .i64 (errG (gAr f) P)]) (by simp [results, Tryz.results125, go_sem, cF0]) rfl ⟨uq, by rw [HE1.out], HQF.out, HBF.out⟩
end Go.Proofs.YtbacchbcanlciaaGreatDoor

namespace Go.Proofs.YtbacchbcanlciaaGreatDoor
set_option maxRecDepth 100000
open Go.RowKit Fl
set_option linter.unusedVariables false

end Go.Proofs.YtbacchbcanlciaaGreatDoor

namespace Go.Proofs.YtbacchbcanlciaaGreatDoor
set_option maxRecDepth 100000
open Go.RowKit Fl
set_option linter.unusedVariables false

def Kep (l : List Nat) (V : VV) : Prop := V.ok ∧ V.nm ∧ V.cls = 0 ∧ V.nums = l ∧ V.len = l.length
theorem kep_floats {t : List Nat} (hl : t.length ≤ 1048576) (hN : ∀ x ∈ t, Num x) : Kep t (.floats t) := ⟨hl, hN, rfl, rfl, rfl⟩
theorem kep_into {t : List Nat} {k : Int} (hl : t.length ≤ 1048576) (hN : ∀ x ∈ t, Num x) (h : (VV.floats t).fit k = true) : Kep t ((VV.floats t).into k) := by
 obtain ⟨_, h2, h3, h4, h5, h6⟩ := VV.into_spec (V := VV.floats t) hl hN h
 exact ⟨h4, h5, h3, h2, h6⟩
end Go.Proofs.YtbacchbcanlciaaGreatDoor

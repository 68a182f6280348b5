/- Layers 10 and above, plain: the vector of given numbers; a function done to all elements; what every function of two numbers does. -/
import Derived.Test.YtbdhibcbpgjbmaaGreatDoorNuG
import Derived.Test.YtbdhibcbpgjbmaaGreatDoorMoM
namespace Go.Proofs.YtbdhibcbpgjbmaaGreatDoor
set_option maxRecDepth 100000
open Go.RowKit Fl
set_option linter.unusedVariables false

/-- The vector of these numbers, in the least kind. -/
noncomputable def sqL (l : List Nat) : VV := (VV.floats l).sq
theorem sqL_spec {l : List Nat} (hl : l.length ≤ 1048576) (hN : ∀ x ∈ l, Num x) : (sqL l).nums = l ∧ (sqL l).ok ∧ (sqL l).nm ∧ (sqL l).cls = 0 ∧ 0 < (sqL l).kind ∧ (sqL l).kind = (sqL l).least ∧ (sqL l).len = l.length := by
 obtain ⟨s1, s2, s3, s4, s5, s6⟩ := VV.sq_spec (V := VV.floats l) hl hN
 have h0 : (VV.floats l).sq.cls = 0 := s3
 refine ⟨s2, s4, s5, h0, ?_, ?_, s6⟩
 ·show 0 < (VV.floats l).sq.kind
  rw [s1]
  have := (least_bd (VV.floats l) rfl).1
  omega
 ·show (VV.floats l).sq.kind = ((VV.floats l).sq.least : Int)
  rw [VV.least_eq s4 s5 h0, s2, VV.sq_kind (V := VV.floats l) hl hN rfl]
theorem bit_flag (b : Bool) : bitW (flagW b) = b := by
 unfold bitW
 rw [V_flagW]
 have hp := pw_pos 1074
 cases b
 ·rw [decide_eq_false]; simp; omega
 ·simp
theorem wn_ofInt {n : Int} (h : n.natAbs ≤ 9007199254740992) : wnOf (floatOfInt .f64 n) = n := wnOf_wh (wh_of n h)
/-- What is in the least kind is told by its numbers. -/
theorem VV.canon {V : VV} (hok : V.ok) (hn : V.nm) (hc : V.cls = 0) (hk : V.kind = V.least) (h0 : 0 < V.kind) : V = sqL V.nums := by
 have hlen := VV.ok_len hok
 have hnl := VV.nums_lenle (V := V)
 have hN := VV.nums_num hok hn
 have hle := VV.least_eq hok hn hc
 have hF : (VV.floats V.nums).ok := by show V.nums.length ≤ 1048576; omega
 have hl2 : (VV.floats V.nums).least = V.least := by rw [VV.least_eq hF hN rfl, hle]; rfl
 have hfit := VV.fit_least' (VV.floats V.nums)
 have e : sqL V.nums = (VV.floats V.nums).into V.kind := by unfold sqL VV.sq; rw [hl2, ← hk]
 rw [hl2, ← hk] at hfit
 rw [e]
 have hfn : ¬ (VV.floats V.nums).fit V.kind = false := by rw [hfit]; decide
 unfold VV.into
 cases V with
 | none => simp [VV.kind] at h0
 | chars l => simp [VV.cls] at hc
 | boxes l => simp [VV.cls] at hc
 | bits l =>
  rw [if_neg (by show ¬ (4 : Int) = 1; decide), if_neg hfn, if_pos (show (VV.bits l).kind = 1 from rfl)]
  show VV.bits l = VV.bits ((l.map flagW).map bitW)
  rw [map_back (fun b _ => bit_flag b)]
 | smalls l =>
  rw [if_neg (by show ¬ (4 : Int) = 2; decide), if_neg hfn, if_neg (by show ¬ (2 : Int) = 1; decide), if_pos (show (VV.smalls l).kind = 2 from rfl)]
  show VV.smalls l = VV.smalls ((l.map (floatOfInt .f64)).map wnOf)
  rw [map_back (fun n hx => wn_ofInt (by have := hok.2 n hx; omega))]
 | ints l =>
  rw [if_neg (by show ¬ (4 : Int) = 3; decide), if_neg hfn, if_neg (by show ¬ (3 : Int) = 1; decide), if_neg (by show ¬ (3 : Int) = 2; decide), if_pos (show (VV.ints l).kind = 3 from rfl)]
  show VV.ints l = VV.ints ((l.map (floatOfInt .f64)).map wnOf)
  rw [map_back (fun n hx => wn_ofInt (by have := sm_of (hn n hx); omega))]
 | floats l =>
  rw [if_pos (show (VV.floats (VV.floats l).nums).kind = (VV.floats l).kind from rfl)]
  rfl

/-- A function done to all: the first error; what comes of them. -/
def errG {α : Type} (g : α → Nat × Int) : List α → Int
 | [] => 0
 | x :: l => if (g x).2 = 0 then errG g l else (g x).2
def outG {α : Type} (g : α → Nat × Int) (l : List α) : List Nat := l.map fun x => (g x).1
theorem errG_step {α : Type} {g : α → Nat × Int} {l : List α} {k : Nat} {x : α} (h : l[k]? = some x) : errG g (l.drop k) = if (g x).2 = 0 then errG g (l.drop (k + 1)) else (g x).2 := by
 obtain ⟨hk, e⟩ := List.getElem?_eq_some_iff.1 h
 rw [List.drop_eq_getElem_cons hk, e, errG]
theorem errG_all {α : Type} {g : α → Nat × Int} {l : List α} (h : ∀ x ∈ l, (g x).2 = 0) : errG g l = 0 := by
 induction l with
 | nil => rfl
 | cons x l ih => rw [errG, if_pos (h x List.mem_cons_self)]; exact ih fun y hy => h y (List.mem_cons_of_mem _ hy)
theorem errG_zero {α : Type} {g : α → Nat × Int} {l : List α} (h : errG g l = 0) : ∀ x ∈ l, (g x).2 = 0 := by
 induction l with
 | nil => intro x hx; cases hx
 | cons y l ih =>
  rw [errG] at h
  split at h
  ·intro x hx
   rcases List.mem_cons.1 hx with rfl | hx
   ·assumption
   ·exact ih h x hx
  ·contradiction
theorem errG_err {α : Type} {g : α → Nat × Int} {c : Int} (hg : ∀ x, (g x).2 = 0 ∨ (g x).2 = c) : ∀ l, errG g l = 0 ∨ errG g l = c := by
 intro l
 induction l with
 | nil => exact Or.inl rfl
 | cons x l ih =>
  rw [errG]
  split
  ·exact ih
  ·rcases hg x with h | h
   ·contradiction
   ·exact Or.inr h
theorem outG_num {α : Type} {g : α → Nat × Int} {l : List α} (h : ∀ x ∈ l, Num (g x).1) : ∀ x ∈ outG g l, Num x := by
 intro x hx
 obtain ⟨y, hy, rfl⟩ := List.mem_map.1 hx
 exact h y hy
theorem outG_len {α : Type} (g : α → Nat × Int) (l : List α) : (outG g l).length = l.length := by simp [outG]
theorem outG_take {α : Type} {g : α → Nat × Int} {l : List α} {k : Nat} {x : α} (h : l[k]? = some x) : outG g (l.take (k + 1)) = outG g (l.take k) ++ [(g x).1] := by
 obtain ⟨hk, e⟩ := List.getElem?_eq_some_iff.1 h
 unfold outG
 rw [List.take_succ_eq_append_getElem hk, e]; simp

/-- Sums, differences, products, quotients of words. -/
def addw (a b : Nat) : Nat := (Ieee.double.add a b).getD 0
def subw (a b : Nat) : Nat := (Ieee.double.sub a b).getD 0
def mulw (a b : Nat) : Nat := (Ieee.double.mul a b).getD 0
def quow (a b : Nat) : Nat := (Ieee.double.div a b).getD 0
theorem addw_spec {a b : Nat} (ha : Fnt a) (hb : Fnt b) : floatBits .add .f64 a b = some (addw a b) := by
 obtain ⟨z, hz⟩ : ∃ z, Ieee.double.add a b = some z := ⟨_, add_fin ha hb⟩
 have e : addw a b = z := by unfold addw; rw [hz]; rfl
 rw [e]; exact hz
theorem subw_spec {a b : Nat} (ha : Fnt a) (hb : Fnt b) : floatBits .sub .f64 a b = some (subw a b) := by
 obtain ⟨z, hz⟩ : ∃ z, Ieee.double.sub a b = some z := ⟨_, sub_fin ha hb⟩
 have e : subw a b = z := by unfold subw; rw [hz]; rfl
 rw [e]; exact hz
theorem mulw_spec {a b : Nat} (ha : Fnt a) (hb : Fnt b) : floatBits .mul .f64 a b = some (mulw a b) := by
 obtain ⟨z, hz⟩ : ∃ z, Ieee.double.mul a b = some z := ⟨_, mul_fin ha hb⟩
 have e : mulw a b = z := by unfold mulw; rw [hz]; rfl
 rw [e]; exact hz
theorem quow_spec {a b : Nat} (ha : Fnt a) (hb : Fnt b) (h0 : V b ≠ 0) : floatBits .quo .f64 a b = some (quow a b) := by
 obtain ⟨z, hz⟩ := div_some ha hb h0
 have e : quow a b = z := by unfold quow; rw [hz]; rfl
 rw [e]; exact hz
theorem floatBits_lt {op : BinOp} {a b z : Nat} (h : floatBits op .f64 a b = some z) : z < 18446744073709551616 := wf_f64 (floatBits_wf h)
/-- One of layer 10: the word and the error. -/
def quoA (a b : Nat) : Nat × Int := if V b ≠ 0 then rs (quow a b) else if V a ≠ 0 then (0, 24) else (4607182418800017408, 0)
open Classical in
noncomputable def restA (a b : Nat) : Nat × Int := if (∃ m, Wh a m) ∧ ∃ n, Wh b n then (floatOfInt .f64 (rst (wnOf a) (wnOf b)), 0) else (0, 24)
open Classical in
noncomputable def powA (a b : Nat) : Nat × Int := if ∃ n : Int, Wh b n ∧ n.natAbs ≤ 1023 then pwr a (wnOf b) else (0, 24)
noncomputable def oneA (f : Int) (a b : Nat) : Nat × Int :=
 if f = 1 then rs (addw a b) else if f = 2 then rs (subw a b) else if f = 3 then rs (mulw a b) else if f = 4 then quoA a b
 else if f = 5 then (mxw a b, 0) else if f = 6 then (mnw a b, 0) else if f = 7 then restA a b else if f = 8 then powA a b
 else (0, 1)
theorem restA_yes {a b : Nat} {m n : Int} (ha : Wh a m) (hb : Wh b n) : restA a b = (floatOfInt .f64 (rst m n), 0) := by
 unfold restA; rw [if_pos ⟨⟨m, ha⟩, ⟨n, hb⟩⟩, wnOf_wh ha, wnOf_wh hb]
theorem restA_no {a b : Nat} (h : ¬ ((∃ m, Wh a m) ∧ ∃ n, Wh b n)) : restA a b = (0, 24) := by unfold restA; rw [if_neg h]
theorem powA_yes {a b : Nat} {n : Int} (hb : Wh b n) (h : n.natAbs ≤ 1023) : powA a b = pwr a n := by unfold powA; rw [if_pos ⟨n, hb, h⟩, wnOf_wh hb]
theorem powA_no {a b : Nat} (h : ∀ n : Int, ¬ Wh b n) : powA a b = (0, 24) := by unfold powA; rw [if_neg (fun ⟨n, h1, _⟩ => h n h1)]
theorem powA_much {a b : Nat} {n : Int} (hb : Wh b n) (h : 1023 < n.natAbs) : powA a b = (0, 24) := by
 unfold powA
 rw [if_neg]
 rintro ⟨m, h1, h2⟩
 rw [wh_unique h1 hb] at h2
 omega
theorem pwr_err (a : Nat) (n : Int) : (pwr a n).2 = 0 ∨ (pwr a n).2 = 24 := by
 unfold pwr
 repeat' (first | split | exact rs_err _ | exact Or.inl rfl | exact Or.inr rfl)
theorem oneA_err {f : Int} (a b : Nat) (h1 : 1 ≤ f) (h8 : f ≤ 8) : (oneA f a b).2 = 0 ∨ (oneA f a b).2 = 24 := by
 unfold oneA quoA restA powA
 repeat' (first | split | exact rs_err _ | exact pwr_err _ _ | exact Or.inl rfl | exact Or.inr rfl | omega)
theorem oneA_arg {f : Int} (a b : Nat) (h : ¬ (1 ≤ f ∧ f ≤ 8)) : oneA f a b = (0, 1) := by
 unfold oneA
 rw [if_neg (by omega), if_neg (by omega), if_neg (by omega), if_neg (by omega), if_neg (by omega), if_neg (by omega), if_neg (by omega), if_neg (by omega)]
theorem oneA_num {f : Int} {a b : Nat} (ha : Num a) (hb : Num b) : Num (oneA f a b).1 := by
 unfold oneA
 split; exact rs_num _ (floatBits_lt (addw_spec ha.1 hb.1))
 split; exact rs_num _ (floatBits_lt (subw_spec ha.1 hb.1))
 split; exact rs_num _ (floatBits_lt (mulw_spec ha.1 hb.1))
 split
 ·unfold quoA
  split
  ·exact rs_num _ (floatBits_lt (quow_spec ha.1 hb.1 (by assumption)))
  ·split
   ·exact num_zero
   ·exact num_one
 split; (unfold mxw; split; exact hb; exact ha)
 split; (unfold mnw; split; exact hb; exact ha)
 split
 ·unfold restA
  split
  ·rename_i h
   obtain ⟨⟨m, hm⟩, ⟨n, hn⟩⟩ := h
   rw [wnOf_wh hm, wnOf_wh hn]
   have := rst_small hm.2.1 hn.2.1
   exact num_ofInt _ (sm_yes (by omega) (by omega))
  ·exact num_zero
 split
 ·unfold powA
  split
  ·exact pwr_num' _ _
  ·exact num_zero
 exact num_zero
end Go.Proofs.YtbdhibcbpgjbmaaGreatDoor

/- Layer 10, plain: the elements of two lists that go together; what whole numbers make; what Apply tells. -/
import Derived.Test.YtbdhibcbpgjbmaaGreatDoorArM
import Derived.Test.YtbdhibcbpgjbmaaGreatDoorNuH
namespace Go.Proofs.YtbdhibcbpgjbmaaGreatDoor
set_option maxRecDepth 100000
open Go.RowKit Fl
set_option linter.unusedVariables false

/-- The element at a place: of a list of one element always this one. -/
def pk {α : Type} (d : α) (l : List α) (i : Nat) : α := l.getD (if l.length = 1 then 0 else i) d
def prs {α : Type} (d : α) (a b : List α) (n : Nat) : List (α × α) := (List.range n).map fun i => (pk d a i, pk d b i)
theorem prs_len {α : Type} (d : α) (a b : List α) (n : Nat) : (prs d a b n).length = n := by simp [prs]
theorem prs_get {α : Type} {d : α} {a b : List α} {n k : Nat} (h : k < n) : (prs d a b n)[k]? = some (pk d a k, pk d b k) := by
 unfold prs
 rw [List.getElem?_map, List.getElem?_range h]; rfl
theorem pk_map {α β : Type} (g : α → β) (d : α) (l : List α) (i : Nat) : pk (g d) (l.map g) i = g (pk d l i) := by
 unfold pk
 rw [List.length_map, List.getD_eq_getElem?_getD, List.getD_eq_getElem?_getD, List.getElem?_map]
 cases l[if l.length = 1 then 0 else i]? <;> rfl
theorem prs_map {α β : Type} (g : α → β) (d : α) (a b : List α) (n : Nat) : prs (g d) (a.map g) (b.map g) n = (prs d a b n).map fun p => (g p.1, g p.2) := by
 unfold prs
 rw [List.map_map]
 exact List.map_congr_left fun i _ => by show (pk (g d) (a.map g) i, pk (g d) (b.map g) i) = _; rw [pk_map, pk_map]; rfl
theorem pk_mem {α : Type} {d : α} {l : List α} {i : Nat} (h : l.length = 1 ∨ i < l.length) : pk d l i ∈ l := by
 unfold pk
 have hi : (if l.length = 1 then 0 else i) < l.length := by split <;> omega
 rw [List.getD_eq_getElem?_getD, List.getElem?_eq_getElem hi]
 exact List.getElem_mem hi
/-- Two lengths that go together, and how many elements come of them. -/
abbrev goesA (m n : Nat) : Prop := m = n ∨ n = 1 ∨ m = 1
def lenN (m n : Nat) : Nat := if m = n ∨ n = 1 then m else n
theorem lenN_in {m n i : Nat} (h : goesA m n) (hi : i < lenN m n) : (m = 1 ∨ i < m) ∧ (n = 1 ∨ i < n) := by
 unfold lenN at hi
 split at hi <;> omega
theorem lenN_le {m n k : Nat} (h1 : m ≤ k) (h2 : n ≤ k) : lenN m n ≤ k := by unfold lenN; split <;> omega
theorem prs_mem {α : Type} {d : α} {a b : List α} (h : goesA a.length b.length) {p : α × α} (hp : p ∈ prs d a b (lenN a.length b.length)) : p.1 ∈ a ∧ p.2 ∈ b := by
 unfold prs at hp
 obtain ⟨i, hi, rfl⟩ := List.mem_map.1 hp
 obtain ⟨h1, h2⟩ := lenN_in h (List.mem_range.1 hi)
 exact ⟨pk_mem h1, pk_mem h2⟩
/-- One of layer 10, of a pair. -/
noncomputable def gAr (f : Int) (p : Nat × Nat) : Nat × Int := oneA f p.1 p.2
theorem gAr_num {f : Int} {a b : List Nat} (h : goesA a.length b.length) (ha : ∀ x ∈ a, Num x) (hb : ∀ x ∈ b, Num x) : ∀ x ∈ outG (gAr f) (prs 0 a b (lenN a.length b.length)), Num x :=
 outG_num fun p hp => oneA_num (ha _ (prs_mem h hp).1) (hb _ (prs_mem h hp).2)

/-- A function of two whole numbers, and whether it tells one. -/
def whA (f a b : Int) : Int × Bool :=
 if f = 1 then (if sm (a + b) then a + b else 0, sm (a + b)) else if f = 2 then (if sm (a - b) then a - b else 0, sm (a - b))
 else if f = 3 then (if pm a b then a * b else 0, pm a b) else if f = 5 then (max a b, true) else if f = 6 then (min a b, true)
 else if f = 7 then (rst a b, true) else (0, false)
theorem rs_whole {z : Nat} {n : Int} (hf : Fnt z) (hn : sm n = true) (hv : V z = n * pw 1074) : rs z = (floatOfInt .f64 n, 0) := by
 have h := sm_of hn
 rw [rs_fin hf, V_inj (ze_num hf) (num_ofInt n hn) (by rw [ze_val, hv, ofInt_val n (by omega)])]
theorem whA_one {f a b : Int} (ha : sm a = true) (hb : sm b = true) (h : (whA f a b).2 = true) : oneA f (floatOfInt .f64 a) (floatOfInt .f64 b) = (floatOfInt .f64 (whA f a b).1, 0) ∧ sm (whA f a b).1 = true := by
 have h1 := sm_of ha
 have h2 := sm_of hb
 have va := ofInt_val a (by omega)
 have vb := ofInt_val b (by omega)
 have hp := pw_pos 1074
 unfold whA at h ⊢
 by_cases e1 : f = 1
 ·subst e1
  rw [if_pos rfl] at h ⊢
  have hs : sm (a + b) = true := h
  have h3 := sm_of hs
  obtain ⟨z, hz, hf, hv⟩ := whole_sum (a := a) (b := b) (by omega) (by omega)
  have ez : addw (floatOfInt .f64 a) (floatOfInt .f64 b) = z := by unfold addw; rw [hz]; rfl
  have eo : oneA 1 (floatOfInt .f64 a) (floatOfInt .f64 b) = rs z := by unfold oneA; rw [if_pos rfl, ez]
  rw [eo, hs]
  exact ⟨rs_whole hf hs (hv (by omega)), hs⟩
 rw [if_neg e1] at h ⊢
 by_cases e2 : f = 2
 ·subst e2
  rw [if_pos rfl] at h ⊢
  have hs : sm (a - b) = true := h
  have h3 := sm_of hs
  obtain ⟨z, hz, hf, hv⟩ := whole_diff (a := a) (b := b) (by omega) (by omega)
  have ez : subw (floatOfInt .f64 a) (floatOfInt .f64 b) = z := by unfold subw; rw [hz]; rfl
  have eo : oneA 2 (floatOfInt .f64 a) (floatOfInt .f64 b) = rs z := by unfold oneA; rw [if_neg (by decide), if_pos rfl, ez]
  rw [eo, hs]
  exact ⟨rs_whole hf hs (hv (by omega)), hs⟩
 rw [if_neg e2] at h ⊢
 by_cases e3 : f = 3
 ·subst e3
  rw [if_pos rfl] at h ⊢
  have hs : pm a b = true := h
  have h3 := pm_bound hs
  obtain ⟨z, hz, hf, hv⟩ := whole_prod (a := a) (b := b) (by omega) (by omega)
  have ez : mulw (floatOfInt .f64 a) (floatOfInt .f64 b) = z := by unfold mulw; rw [hz]; rfl
  have eo : oneA 3 (floatOfInt .f64 a) (floatOfInt .f64 b) = rs z := by unfold oneA; rw [if_neg (by decide), if_neg (by decide), if_pos rfl, ez]
  have hm : sm (a * b) = true := sm_yes h3.1 h3.2
  rw [eo, hs]
  exact ⟨rs_whole hf hm (hv (by omega)), hm⟩
 rw [if_neg e3] at h ⊢
 have hlt : V (floatOfInt .f64 a) < V (floatOfInt .f64 b) ↔ a < b := by
  rw [va, vb]; exact Int.mul_lt_mul_right (by omega)
 have hlt2 : V (floatOfInt .f64 b) < V (floatOfInt .f64 a) ↔ b < a := by
  rw [va, vb]; exact Int.mul_lt_mul_right (by omega)
 by_cases e5 : f = 5
 ·subst e5
  rw [if_pos rfl]
  have eo : oneA 5 (floatOfInt .f64 a) (floatOfInt .f64 b) = (mxw (floatOfInt .f64 a) (floatOfInt .f64 b), 0) := by simp [oneA]
  rw [eo]
  unfold mxw
  by_cases hl : a < b
  ·rw [if_pos (hlt.2 hl)]; have e : max a b = b := by omega
   show _ = (floatOfInt .f64 (max a b), 0) ∧ sm (max a b) = true
   rw [e]; exact ⟨rfl, hb⟩
  ·rw [if_neg (fun h => hl (hlt.1 h))]; have e : max a b = a := by omega
   show _ = (floatOfInt .f64 (max a b), 0) ∧ sm (max a b) = true
   rw [e]; exact ⟨rfl, ha⟩
 rw [if_neg e5] at h ⊢
 by_cases e6 : f = 6
 ·subst e6
  rw [if_pos rfl]
  have eo : oneA 6 (floatOfInt .f64 a) (floatOfInt .f64 b) = (mnw (floatOfInt .f64 a) (floatOfInt .f64 b), 0) := by simp [oneA]
  rw [eo]
  unfold mnw
  by_cases hl : b < a
  ·rw [if_pos (hlt2.2 hl)]; have e : min a b = b := by omega
   show _ = (floatOfInt .f64 (min a b), 0) ∧ sm (min a b) = true
   rw [e]; exact ⟨rfl, hb⟩
  ·rw [if_neg (fun h => hl (hlt2.1 h))]; have e : min a b = a := by omega
   show _ = (floatOfInt .f64 (min a b), 0) ∧ sm (min a b) = true
   rw [e]; exact ⟨rfl, ha⟩
 rw [if_neg e6] at h ⊢
 by_cases e7 : f = 7
 ·subst e7
  rw [if_pos rfl]
  have eo : oneA 7 (floatOfInt .f64 a) (floatOfInt .f64 b) = restA (floatOfInt .f64 a) (floatOfInt .f64 b) := by simp [oneA]
  rw [eo, restA_yes (wh_of a (by omega)) (wh_of b (by omega))]
  have := rst_small (m := a) (n := b) (by omega) (by omega)
  exact ⟨rfl, sm_yes (by show _ ≤ rst a b; omega) (by show rst a b ≤ _; omega)⟩
 rw [if_neg e7] at h
 cases h

theorem VV.nums_len0 {V : VV} (h : V.cls = 0) : V.nums.length = V.len := by
 cases V <;> first | (simp [VV.nums, VV.len]; done) | (simp [VV.cls] at h)
theorem VV.whole_nums {V : VV} (hok : V.ok) (hn : V.nm) (h : V.isWh = true) : V.nums = V.whs.map (floatOfInt .f64) ∧ (∀ z ∈ V.whs, sm z = true) ∧ V.whs.length = V.len := by
 cases V with
 | bits l =>
  refine ⟨flag_map l, ?_, by simp [VV.whs, VV.len]⟩
  intro z hz
  obtain ⟨b, _, rfl⟩ := List.mem_map.1 hz
  cases b <;> decide
 | smalls l => exact ⟨rfl, fun z hz => sm_i8 (hok.2 z hz).1 (hok.2 z hz).2, rfl⟩
 | ints l => exact ⟨rfl, hn, rfl⟩
 | none => simp [VV.isWh] at h
 | floats l => simp [VV.isWh] at h
 | chars l => simp [VV.isWh] at h
 | boxes l => simp [VV.isWh] at h
theorem VV.wh_cls {V : VV} (h : V.isWh = true) : V.cls = 0 := by cases V <;> first | rfl | simp [VV.isWh] at h
/-- Whole numbers told by a function. -/
def outW (f : Int) (l : List (Int × Int)) : List Int := l.map fun p => (whA f p.1 p.2).1
theorem outW_len (f : Int) (l : List (Int × Int)) : (outW f l).length = l.length := by simp [outW]
theorem outW_get {f : Int} {l : List (Int × Int)} {k : Nat} {p : Int × Int} (h : l[k]? = some p) : (outW f l)[k]? = some (whA f p.1 p.2).1 := by unfold outW; rw [List.getElem?_map, h]; rfl
theorem ofInt_zero : floatOfInt .f64 0 = 0 := by decide +kernel
theorem sqW_eq {l : List Int} (hl : l.length ≤ 1048576) (hs : ∀ z ∈ l, sm z = true) : (VV.ints l).sq = sqL (l.map (floatOfInt .f64)) := by
 obtain ⟨s1, s2, s3, s4, s5, s6⟩ := VV.sq_spec (V := VV.ints l) hl hs
 have h0 : (VV.ints l).sq.cls = 0 := s3
 have hc := VV.canon s4 s5 h0 (by rw [VV.least_eq s4 s5 h0, s2, VV.sq_kind (V := VV.ints l) hl hs rfl]) (by
  rw [s1]
  have := (least_bd (VV.ints l) rfl).1
  omega)
 rw [hc, s2]; rfl
theorem whole_all {f : Int} {A B : VV} (hA : A.ok) (hB : B.ok) (nA : A.nm) (nB : B.nm) (wA : A.isWh = true) (wB : B.isWh = true) (hg : goesA A.len B.len)
  (hall : ∀ p ∈ prs 0 A.whs B.whs (lenN A.len B.len), (whA f p.1 p.2).2 = true) :
  (∀ z ∈ outW f (prs 0 A.whs B.whs (lenN A.len B.len)), sm z = true) ∧ errG (gAr f) (prs 0 A.nums B.nums (lenN A.len B.len)) = 0 ∧
   (VV.ints (outW f (prs 0 A.whs B.whs (lenN A.len B.len)))).sq = sqL (outG (gAr f) (prs 0 A.nums B.nums (lenN A.len B.len))) := by
 obtain ⟨eA, sA, lA⟩ := VV.whole_nums hA nA wA
 obtain ⟨eB, sB, lB⟩ := VV.whole_nums hB nB wB
 have hP : prs 0 A.nums B.nums (lenN A.len B.len) = (prs 0 A.whs B.whs (lenN A.len B.len)).map fun p => (floatOfInt .f64 p.1, floatOfInt .f64 p.2) := by
  rw [eA, eB, ← prs_map (floatOfInt .f64) 0, ofInt_zero]
 have hin : ∀ p ∈ prs 0 A.whs B.whs (lenN A.len B.len), sm p.1 = true ∧ sm p.2 = true := by
  intro p hp
  rw [← lA, ← lB] at hp hg
  obtain ⟨h1, h2⟩ := prs_mem hg hp
  exact ⟨sA _ h1, sB _ h2⟩
 have h1 : ∀ z ∈ outW f (prs 0 A.whs B.whs (lenN A.len B.len)), sm z = true := by
  intro z hz
  obtain ⟨p, hp, rfl⟩ := List.mem_map.1 hz
  exact (whA_one (hin p hp).1 (hin p hp).2 (hall p hp)).2
 refine ⟨h1, ?_, ?_⟩
 ·rw [hP]
  refine errG_all fun q hq => ?_
  obtain ⟨p, hp, rfl⟩ := List.mem_map.1 hq
  show (oneA f _ _).2 = 0
  rw [(whA_one (hin p hp).1 (hin p hp).2 (hall p hp)).1]
 ·have hL : (outW f (prs 0 A.whs B.whs (lenN A.len B.len))).length ≤ 1048576 := by
   rw [outW_len, prs_len]; exact lenN_le (VV.ok_len hA) (VV.ok_len hB)
  rw [sqW_eq hL h1, hP]
  unfold outG outW
  rw [List.map_map, List.map_map]
  congr 1
  refine List.map_congr_left fun p hp => ?_
  show floatOfInt .f64 (whA f p.1 p.2).1 = (oneA f _ _).1
  rw [(whA_one (hin p hp).1 (hin p hp).2 (hall p hp)).1]

/-- Apply of layer 10: the error, and what comes of two vectors. -/
noncomputable def apE (f : Int) (A B : VV) : Int :=
 if 1 ≤ f ∧ f ≤ 8 then (if goesA A.len B.len then (if A.cls = 0 ∧ B.cls = 0 then errG (gAr f) (prs 0 A.nums B.nums (lenN A.len B.len)) else 24) else 23) else 1
noncomputable def apV (f : Int) (A B : VV) : VV := if apE f A B = 0 then sqL (outG (gAr f) (prs 0 A.nums B.nums (lenN A.len B.len))) else .none
theorem apV_none {f : Int} {A B : VV} (h : apE f A B ≠ 0) : apV f A B = .none := if_neg h
theorem apE_zero {f : Int} {A B : VV} (h : apE f A B = 0) : (1 ≤ f ∧ f ≤ 8) ∧ goesA A.len B.len ∧ A.cls = 0 ∧ B.cls = 0 ∧ errG (gAr f) (prs 0 A.nums B.nums (lenN A.len B.len)) = 0 := by
 unfold apE at h
 split at h
 ·split at h
  ·split at h
   ·rename_i h1 h2 h3; exact ⟨h1, h2, h3.1, h3.2, h⟩
   ·cases h
  ·cases h
 ·cases h
theorem apV_spec {f : Int} {A B : VV} (hA : A.ok) (hB : B.ok) (nA : A.nm) (nB : B.nm) (h : apE f A B = 0) :
  (apV f A B).nums = outG (gAr f) (prs 0 A.nums B.nums (lenN A.len B.len)) ∧ (apV f A B).ok ∧ (apV f A B).nm ∧ (apV f A B).cls = 0 ∧ 0 < (apV f A B).kind ∧ (apV f A B).kind = (apV f A B).least := by
 obtain ⟨_, hg, cA, cB, _⟩ := apE_zero h
 unfold apV
 rw [if_pos h]
 have hN : ∀ x ∈ outG (gAr f) (prs 0 A.nums B.nums (lenN A.len B.len)), Num x := by
  have l1 := VV.nums_len0 cA
  have l2 := VV.nums_len0 cB
  rw [← l1, ← l2] at hg ⊢
  exact gAr_num hg (VV.nums_num hA nA) (VV.nums_num hB nB)
 obtain ⟨a1, a2, a3, a4, a5, a6, _⟩ := sqL_spec (l := outG (gAr f) (prs 0 A.nums B.nums (lenN A.len B.len))) (by rw [outG_len, prs_len]; exact lenN_le (VV.ok_len hA) (VV.ok_len hB)) hN
 exact ⟨a1, a2, a3, a4, a5, a6⟩
end Go.Proofs.YtbdhibcbpgjbmaaGreatDoor

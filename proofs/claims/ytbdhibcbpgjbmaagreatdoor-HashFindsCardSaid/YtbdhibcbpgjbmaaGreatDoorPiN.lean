/- Layer 15, plain: the whole numbers of a squeezed vector. -/
import Derived.Test.YtbdhibcbpgjbmaaGreatDoorPiM
import Derived.Test.YtbdhibcbpgjbmaaGreatDoorSqF
namespace Go.Proofs.YtbdhibcbpgjbmaaGreatDoor
set_option maxRecDepth 100000
open Go.RowKit Fl
set_option linter.unusedVariables false

theorem wn_flag (b : Bool) : Wh (flagW b) (flagZ b) := by
 cases b
 ·exact wh_ofInt (by decide) (by decide +kernel)
 ·exact wh_ofInt (by decide) (by decide +kernel)
theorem VV.wh_nums {V : VV} (hok : V.ok) (hn : V.nm) (h : V.isWh = true) : V.whs = V.nums.map wnOf ∧ (∀ x ∈ V.nums, ∃ n, Wh x n) ∧ ∀ z ∈ V.whs, z.natAbs ≤ 9007199254740992 := by
 have key : ∀ l : List Int, (∀ z ∈ l, z.natAbs ≤ 9007199254740992) → l = (l.map (floatOfInt .f64)).map wnOf ∧ ∀ x ∈ l.map (floatOfInt .f64), ∃ n, Wh x n := by
  intro l hl
  refine ⟨?_, ?_⟩
  ·rw [List.map_map]
   conv => lhs; rw [← List.map_id l]
   exact List.map_congr_left (fun z hz => (wnOf_wh (wh_ofInt (hl z hz) rfl)).symm)
  ·intro x hx
   obtain ⟨z, hz, rfl⟩ := List.mem_map.1 hx
   exact ⟨z, wh_ofInt (hl z hz) rfl⟩
 cases V with
 | bits l =>
  refine ⟨?_, ?_, ?_⟩
  ·show l.map flagZ = (l.map flagW).map wnOf
   rw [List.map_map]
   exact List.map_congr_left (fun b _ => (wnOf_wh (wn_flag b)).symm)
  ·intro x hx
   obtain ⟨b, _, rfl⟩ := List.mem_map.1 hx
   exact ⟨_, wn_flag b⟩
  ·intro z hz
   obtain ⟨b, _, rfl⟩ := List.mem_map.1 hz
   cases b <;> decide
 | smalls l =>
  have hb : ∀ z ∈ l, z.natAbs ≤ 9007199254740992 := fun z hz => by have := hok.2 z hz; omega
  exact ⟨(key l hb).1, (key l hb).2, hb⟩
 | ints l =>
  have hb : ∀ z ∈ l, z.natAbs ≤ 9007199254740992 := fun z hz => by have := sm_of (hn z hz); omega
  exact ⟨(key l hb).1, (key l hb).2, hb⟩
 | none => simp [VV.isWh] at h
 | floats l => simp [VV.isWh] at h
 | chars l => simp [VV.isWh] at h
 | boxes l => simp [VV.isWh] at h
/-- A squeezed vector of numbers: it keeps whole numbers if they are all whole. -/
theorem sq_facts {t : List Nat} (hl : t.length ≤ 1048576) (hN : ∀ x ∈ t, Num x) : (VV.floats t).sq.ok ∧ (VV.floats t).sq.nm ∧ (VV.floats t).sq.len = t.length ∧ (VV.floats t).sq.nums = t ∧ ((VV.floats t).sq.kind = 4 → (VV.floats t).sq.len ≠ 0) := by
 obtain ⟨s1, s2, s3, s4, s5, s6⟩ := VV.sq_spec (V := VV.floats t) hl hN
 refine ⟨s4, s5, s6, s2, fun h e => ?_⟩
 rw [VV.sq_kind (V := VV.floats t) hl hN rfl] at h
 have e0 : t.length = 0 := by rw [s6] at e; exact e
 have : t = [] := List.length_eq_zero_iff.1 e0
 subst this
 rw [show (VV.floats []).nums = [] from rfl, leastW_nil] at h
 omega
theorem sq_yes {t : List Nat} (hl : t.length ≤ 1048576) (hN : ∀ x ∈ t, Num x) (h : ∀ x ∈ t, ∃ n, Wh x n) : (VV.floats t).sq.isWh = true ∧ (VV.floats t).sq.whs = t.map wnOf ∧ ∀ z ∈ (VV.floats t).sq.whs, z.natAbs ≤ 9007199254740992 := by
 obtain ⟨s1, s2, s3, s4, s5, s6⟩ := VV.sq_spec (V := VV.floats t) hl hN
 have hk := VV.sq_kind (V := VV.floats t) hl hN rfl
 have h3 : leastW t ≤ 3 := leastW_all (by decide) (fun x hx => by obtain ⟨n, hn⟩ := h x hx; rw [kindW_wh hn]; exact (kindZ_le n).2)
 have h1 := (leastW_le t).1
 have hw : (VV.floats t).sq.isWh = true := by
  have e : (VV.floats t).sq.kind = (leastW t : Int) := hk
  have c : (VV.floats t).sq.cls = 0 := s3
  revert e c
  cases (VV.floats t).sq <;> intro e c <;> first | rfl | (simp [VV.kind] at e; omega) | (simp [VV.cls] at c)
 obtain ⟨a, _, b⟩ := VV.wh_nums s4 s5 hw
 exact ⟨hw, by rw [a, s2]; rfl, b⟩
theorem sq_no {t : List Nat} (hl : t.length ≤ 1048576) (hN : ∀ x ∈ t, Num x) (h : ¬ ∀ x ∈ t, ∃ n, Wh x n) : (VV.floats t).sq.isWh = false ∧ ∀ z ∈ (VV.floats t).sq.whs, z.natAbs ≤ 9007199254740992 := by
 obtain ⟨s1, s2, s3, s4, s5, s6⟩ := VV.sq_spec (V := VV.floats t) hl hN
 have hw : (VV.floats t).sq.isWh = false := by
  cases e : (VV.floats t).sq.isWh
  ·rfl
  ·have := (VV.wh_nums s4 s5 e).2.1
   rw [s2] at this
   exact absurd this h
 refine ⟨hw, ?_⟩
 revert hw
 cases (VV.floats t).sq <;> intro hw <;> first | (simp [VV.isWh] at hw; done) | (intro z hz; simp [VV.whs] at hz)

theorem wh_cmp {b c : Nat} {n m : Int} (h : Wh b n) (hc : Wh c m) : (n < m → FloatKind.f64.format.order b c = some .lt) ∧ (n = m → FloatKind.f64.format.order b c = some .eq) ∧ (m < n → FloatKind.f64.format.order b c = some .gt) := by
 have hp : (0 : Int) < pw 1074 := by exact_mod_cast pw_pos 1074
 refine ⟨fun e => ord_lt h.1 hc.1 ?_, fun e => ord_eq h.1 hc.1 ?_, fun e => ord_gt h.1 hc.1 ?_⟩ <;> rw [h.2.2, hc.2.2]
 ·exact Int.mul_lt_mul_of_pos_right e hp
 ·rw [e]
 ·exact Int.mul_lt_mul_of_pos_right e hp
theorem wh_neg {x : Nat} {n : Int} (hx : Num x) (h : Wh x n) : ∃ z, floatBits .sub .f64 0 x = some z ∧ Wh z (-n) := by
 obtain ⟨z, h1, h2, h3⟩ := neg_word hx
 refine ⟨z, h1, h2.1, by have := h.2.1; omega, ?_⟩
 rw [h3, h.2.2, Int.neg_mul]
theorem wh_zero : Wh 0 0 := wh_ofInt (by decide) (by decide +kernel)
theorem wh_nat (i : Nat) (h : i ≤ 9007199254740992) : Wh (floatOfInt .f64 (i : Int)) (i : Int) := wh_ofInt (by omega) rfl
/-- A slice's length. -/
def lenV : Value → Nat
 | .slice _ n _ => n
 | _ => 0
theorem fl_nought : floatOfInt .f64 ((0 : Nat) : Int) = 0 := by decide +kernel

/-- The example's numbers: 2, 0, -1. -/
theorem aw15_wh : Wh 4611686018427387904 2 ∧ Wh 0 0 ∧ Wh 13830554455654793216 (-1) := ⟨wh_ofInt (by decide) (by decide +kernel), wh_ofInt (by decide) (by decide +kernel), wh_ofInt (by decide) (by decide +kernel)⟩
theorem aw15_num : ∀ x ∈ ([4611686018427387904, 0, 13830554455654793216] : List Nat), Num x := by
 intro x hx
 simp only [List.mem_cons, List.not_mem_nil, or_false] at hx
 rcases hx with rfl | rfl | rfl <;> exact ⟨⟨by decide, by decide⟩, by decide +kernel⟩
theorem aw15_ze : ([4611686018427387904, 0, 13830554455654793216] : List Nat).map ze = [4611686018427387904, 0, 13830554455654793216] := map_ze aw15_num
theorem aw15_all : ∀ x ∈ ([4611686018427387904, 0, 13830554455654793216] : List Nat), ∃ n, Wh x n := by
 intro x hx
 simp only [List.mem_cons, List.not_mem_nil, or_false] at hx
 rcases hx with rfl | rfl | rfl
 ·exact ⟨_, aw15_wh.1⟩
 ·exact ⟨_, aw15_wh.2.1⟩
 ·exact ⟨_, aw15_wh.2.2⟩
theorem aw15_whs : ([4611686018427387904, 0, 13830554455654793216] : List Nat).map wnOf = [2, 0, -1] := by
 simp only [List.map_cons, List.map_nil, wnOf_wh aw15_wh.1, wnOf_wh aw15_wh.2.1, wnOf_wh aw15_wh.2.2]
theorem aw15_cp : cpTo (cpS [2, 0, -1] 3) 3 = [0, 0, -1] := by decide +kernel
theorem aw15_cpE : cpE (VV.floats [4611686018427387904, 0, 13830554455654793216]).sq 3 9 = 0 ∧ cpL (VV.floats [4611686018427387904, 0, 13830554455654793216]).sq 3 9 = [0, 0, -1] := by
 obtain ⟨a, b, _⟩ := sq_yes (t := [4611686018427387904, 0, 13830554455654793216]) (by decide) aw15_num aw15_all
 obtain ⟨c, d⟩ := cpEw_0 (l := [2, 0, -1]) (n := 3) (most := 9) (Or.inl rfl) (by rw [aw15_cp]; decide)
 unfold cpE cpL
 rw [a, if_pos rfl, if_pos rfl, b, aw15_whs]
 exact ⟨c, d.trans aw15_cp⟩
theorem aw15_tak : takL 2 3 = [0, 1, -1] := by decide +kernel
theorem aw15_rol : rolL 3 (-1) = [2, 0, 1] := by decide +kernel
end Go.Proofs.YtbdhibcbpgjbmaaGreatDoor

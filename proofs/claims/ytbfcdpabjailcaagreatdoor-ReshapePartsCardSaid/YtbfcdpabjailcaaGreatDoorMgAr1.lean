/- Merged: ArM, ArB. -/
import Derived.Test.YtbfcdpabjailcaaGreatDoorMgNu1
import Derived.Test.YtbfcdpabjailcaaGreatDoorMgMo1
/- Layers 10 and above, plain: the vector of given numbers; a function done to all elements; what every function of two numbers does. -/
namespace Go.Proofs.YtbfcdpabjailcaaGreatDoor
set_option maxRecDepth 100000
open Go.RowKit Fl
set_option linter.unusedVariables false

/-- The vector of these numbers, in the least kind. -/
noncomputable def sqL (l : List Nat) : VV := (VV.floats l).sq
theorem sqL_spec {l : List Nat} (hl : l.length ≤ 1048576) (hN : ∀ x ∈ l, Num x) : (sqL l).nums = l ∧ (sqL l).ok ∧ (sqL l).nm ∧ (sqL l).cls = 0 ∧ 0 < (sqL l).kind ∧ (sqL l).kind = (sqL l).least ∧ (sqL l).len = l.length := by
  obtain ⟨s1, s2, s3, s4, s5, s6⟩ := VV.sq_spec (V := VV.floats l) hl hN
  have h0 : (VV.floats l).sq.cls = 0 := s3
  refine ⟨s2, s4, s5, h0, ?_, ?_, s6⟩
  · show 0 < (VV.floats l).sq.kind
    rw [s1]
    have := (least_bd (VV.floats l) rfl).1
    omega
  · show (VV.floats l).sq.kind = ((VV.floats l).sq.least : Int)
    rw [VV.least_eq s4 s5 h0, s2, VV.sq_kind (V := VV.floats l) hl hN rfl]
theorem bit_flag (b : Bool) : bitW (flagW b) = b := by
  unfold bitW
  rw [V_flagW]
  have hp := pw_pos 1074
  cases b
  · rw [decide_eq_false]; simp; omega
  · simp
theorem wn_ofInt {n : Int} (h : n.natAbs ≤ 9007199254740992) : wnOf (floatOfInt .f64 n) = n := wnOf_wh (wh_of n h)
/-- What is in the least kind is told by its numbers. -/
theorem VV.canon {V : VV} (hok : V.ok) (hn : V.nm) (hc : V.cls = 0) (hk : V.kind = V.least) (h0 : 0 < V.kind) : V = sqL V.nums := by
  have hlen := VV.ok_len hok
  have hnl := VV.nums_lenle (V := V)
  have hN := VV.nums_num hok hn
  have hle := VV.least_eq hok hn hc
  have hF : (VV.floats V.nums).ok := by show V.nums.length ≤ 1048576; omega
  have hl2 : (VV.floats V.nums).least = V.least := by rw [VV.least_eq hF hN rfl, hle]; rfl
  have hfit := VV.fit_least' (VV.floats V.nums)
  have e : sqL V.nums = (VV.floats V.nums).into V.kind := by unfold sqL VV.sq; rw [hl2, ← hk]
  rw [hl2, ← hk] at hfit
  rw [e]
  have hfn : ¬ (VV.floats V.nums).fit V.kind = false := by rw [hfit]; decide
  unfold VV.into
  cases V with
  | none => simp [VV.kind] at h0
  | chars l => simp [VV.cls] at hc
  | boxes l => simp [VV.cls] at hc
  | bits l =>
    rw [if_neg (by show ¬ (4 : Int) = 1; decide), if_neg hfn, if_pos (show (VV.bits l).kind = 1 from rfl)]
    show VV.bits l = VV.bits ((l.map flagW).map bitW)
    rw [map_back (fun b _ => bit_flag b)]
  | smalls l =>
    rw [if_neg (by show ¬ (4 : Int) = 2; decide), if_neg hfn, if_neg (by show ¬ (2 : Int) = 1; decide), if_pos (show (VV.smalls l).kind = 2 from rfl)]
    show VV.smalls l = VV.smalls ((l.map (floatOfInt .f64)).map wnOf)
    rw [map_back (fun n hx => wn_ofInt (by have := hok.2 n hx; omega))]
  | ints l =>
    rw [if_neg (by show ¬ (4 : Int) = 3; decide), if_neg hfn, if_neg (by show ¬ (3 : Int) = 1; decide), if_neg (by show ¬ (3 : Int) = 2; decide), if_pos (show (VV.ints l).kind = 3 from rfl)]
    show VV.ints l = VV.ints ((l.map (floatOfInt .f64)).map wnOf)
    rw [map_back (fun n hx => wn_ofInt (by have := sm_of (hn n hx); omega))]
  | floats l =>
    rw [if_pos (show (VV.floats (VV.floats l).nums).kind = (VV.floats l).kind from rfl)]
    rfl

end Go.Proofs.YtbfcdpabjailcaaGreatDoor

/- Layer 10, plain: the elements of two lists that go together; what whole numbers make; what Apply tells. -/
namespace Go.Proofs.YtbfcdpabjailcaaGreatDoor
set_option maxRecDepth 100000
open Go.RowKit Fl
set_option linter.unusedVariables false

end Go.Proofs.YtbfcdpabjailcaaGreatDoor

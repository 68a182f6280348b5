/- Merged: LoM, LoA, LoC, LoD. -/
import Derived.Test.YtbacchbcanlciaaGreatDoorMgRe1
import Derived.Test.YtbacchbcanlciaaGreatDoorMgSq1
import Derived.Test.YtbacchbcanlciaaGreatDoorMgVe1
import Derived.Test.YtbacchbcanlciaaGreatDoorMgMo1
import Derived.Test.YtbacchbcanlciaaGreatDoorMgAr1
import Derived.Test.YtbacchbcanlciaaGreatDoorMgBv1
namespace Go.Proofs.YtbacchbcanlciaaGreatDoor
set_option maxRecDepth 100000
open Go.RowKit Fl
set_option linter.unusedVariables false

def logB (f : Int) (a b : Bool) : Bool := if f = 21 then a && b else if f = 22 then a || b else if f = 23 then !(a && b) else if f = 24 then !(a || b) else false
def logE (f : Int) : Int := if 21 ≤ f ∧ f ≤ 24 then 0 else 1
theorem log_cases (f : Int) : f = 21 ∨ f = 22 ∨ f = 23 ∨ f = 24 ∨ ¬ (21 ≤ f ∧ f ≤ 24) := by omega
theorem logB_none {f : Int} (a b : Bool) (h : ¬ (21 ≤ f ∧ f ≤ 24)) : logB f a b = false := by
 unfold logB
 rw [if_neg (by omega), if_neg (by omega), if_neg (by omega), if_neg (by omega)]
def tabL (f : Int) : Nat → Nat
 | 0 => 0
 | k + 1 => if logB f (decide (k / 2 = 1)) (decide (k % 2 = 1)) then tabL f k ||| 2 ^ k else tabL f k
theorem tabL_lt (f : Int) : tabL f 4 < 256 := by
 simp only [tabL]
 split <;> split <;> split <;> split <;> decide
theorem tabL_tab {f : Int} (hf : 21 ≤ f ∧ f ≤ 24) (a b : Bool) : tab (tabL f 4) a b = logB f a b := by
 rcases log_cases f with rfl | rfl | rfl | rfl | h
 all_goals first | (cases a <;> cases b <;> decide) | exact absurd hf h
theorem tabL_pow (f : Int) : ∀ k, tabL f k < 2 ^ k
 | 0 => by show 0 < 1; omega
 | k + 1 => by
  have h := tabL_pow f k
  have h2 : 2 ^ k < 2 ^ (k + 1) := Nat.pow_lt_pow_right (by decide) (by omega)
  rw [tabL]
  split
  ·exact Nat.or_lt_two_pow (by omega) h2
  ·omega

def isT (x : Nat) : Bool := decide (V x = 0) || decide (V x = pw 1074)
def truL (l : List Nat) : Option (List Bool) := if l.all isT then some (l.map bitW) else none
theorem truL_yes {l : List Nat} (h : ∀ x ∈ l, isT x = true) : truL l = some (l.map bitW) := if_pos (List.all_eq_true.2 h)
theorem truL_no {l : List Nat} {x : Nat} (hx : x ∈ l) (h : isT x = false) : truL l = none := if_neg fun h2 => by have := List.all_eq_true.1 h2 x hx; rw [h] at this; cases this
theorem truL_len {l : List Nat} {p : List Bool} (h : truL l = some p) : p.length = l.length := by
 unfold truL at h
 split at h
 ·cases h; simp
 ·cases h
theorem isT_flag (b : Bool) : isT (flagW b) = true := by cases b <;> simp [isT, V_flagW]
theorem bitW_flag (b : Bool) : bitW (flagW b) = b := by
 have := pw_pos 1074
 cases b <;> simp [bitW, V_flagW]
 omega
theorem truL_flags (l : List Bool) : truL (l.map flagW) = some l := by
 rw [truL_yes (by intro x hx; obtain ⟨b, _, rfl⟩ := List.mem_map.1 hx; exact isT_flag b), List.map_map]
 congr 1
 rw [show bitW ∘ flagW = id from funext bitW_flag, List.map_id]
def VV.tru (A : VV) : Option (List Bool) := if A.isBit = true then some A.packed else if A.kind = 0 ∨ A.cls ≠ 0 then Option.none else truL A.nums
theorem VV.tru_bit {A : VV} (h : A.isBit = true) : A.tru = some A.packed := if_pos h
theorem VV.tru_none {A : VV} (h : A.isBit = false) (h2 : A.kind = 0 ∨ A.cls ≠ 0) : A.tru = Option.none := by unfold VV.tru; rw [if_neg (by simp [h]), if_pos h2]
theorem VV.tru_nums {A : VV} (h : A.kind ≠ 0) (h2 : A.cls = 0) : A.tru = truL A.nums := by
 unfold VV.tru
 split
 ·rename_i hb
  rw [(VV.bit_nums hb).1, truL_flags]
 ·rw [if_neg (fun h3 => h3.elim h (fun h4 => h4 h2))]
theorem VV.tru_len {A : VV} {p : List Bool} (h : A.tru = some p) : p.length = A.len := by
 unfold VV.tru at h
 split at h
 ·rename_i hb
  cases h; exact (VV.bit_nums hb).2.1
 ·split at h
  ·cases h
  ·rename_i h2
   have hc : A.cls = 0 := Classical.byContradiction fun h3 => h2 (.inr h3)
   rw [truL_len h, VV.nums_len0 hc]
def VV.tr (A : VV) : List Bool := A.tru.getD []
theorem VV.tr_of {A : VV} {p : List Bool} (h : A.tru = some p) : A.tr = p := by unfold VV.tr; rw [h]; rfl
def loE (f : Int) (A B : VV) : Int :=
 if 21 ≤ f ∧ f ≤ 24 then (if goesA A.len B.len then (if lenN A.len B.len = 0 then (if A.cls = 0 ∧ B.cls = 0 then 0 else 24) else if A.tru.isSome = true ∧ B.tru.isSome = true then 0 else 24) else 23) else 1
def loL (f : Int) (A B : VV) (n : Nat) : List Bool := (prs false A.tr B.tr n).map fun p => logB f p.1 p.2
theorem loL_len (f : Int) (A B : VV) (n : Nat) : (loL f A B n).length = n := by simp [loL, prs_len]
def loV (f : Int) (A B : VV) : VV := if loE f A B = 0 then .bits (loL f A B (lenN A.len B.len)) else .none
theorem loV_none {f : Int} {A B : VV} (h : loE f A B ≠ 0) : loV f A B = .none := if_neg h
theorem loV_yes {f : Int} {A B : VV} (h : loE f A B = 0) : loV f A B = .bits (loL f A B (lenN A.len B.len)) := if_pos h
theorem loE_1 {f : Int} {A B : VV} (h : ¬ (21 ≤ f ∧ f ≤ 24)) : loE f A B = 1 := if_neg h
theorem loE_23 {f : Int} {A B : VV} (h : 21 ≤ f ∧ f ≤ 24) (hg : ¬ goesA A.len B.len) : loE f A B = 23 := by unfold loE; rw [if_pos h, if_neg hg]
theorem loE_z0 {f : Int} {A B : VV} (h : 21 ≤ f ∧ f ≤ 24) (hg : goesA A.len B.len) (hn : lenN A.len B.len = 0) (hc : A.cls = 0 ∧ B.cls = 0) : loE f A B = 0 := by unfold loE; rw [if_pos h, if_pos hg, if_pos hn, if_pos hc]
theorem loE_z24 {f : Int} {A B : VV} (h : 21 ≤ f ∧ f ≤ 24) (hg : goesA A.len B.len) (hn : lenN A.len B.len = 0) (hc : ¬ (A.cls = 0 ∧ B.cls = 0)) : loE f A B = 24 := by unfold loE; rw [if_pos h, if_pos hg, if_pos hn, if_neg hc]
theorem loE_0 {f : Int} {A B : VV} (h : 21 ≤ f ∧ f ≤ 24) (hg : goesA A.len B.len) (hn : lenN A.len B.len ≠ 0) (hc : A.tru.isSome = true ∧ B.tru.isSome = true) : loE f A B = 0 := by unfold loE; rw [if_pos h, if_pos hg, if_neg hn, if_pos hc]
theorem loE_24 {f : Int} {A B : VV} (h : 21 ≤ f ∧ f ≤ 24) (hg : goesA A.len B.len) (hn : lenN A.len B.len ≠ 0) (hc : ¬ (A.tru.isSome = true ∧ B.tru.isSome = true)) : loE f A B = 24 := by unfold loE; rw [if_pos h, if_pos hg, if_neg hn, if_neg hc]
theorem loL_zero (f : Int) (A B : VV) : loL f A B 0 = [] := rfl
theorem zip_log (f : Int) (hf : 21 ≤ f ∧ f ≤ 24) (x y : List Bool) (n : Nat) :
  List.zipWith (tab (tabL f 4)) ((List.range n).map (pk false x)) ((List.range n).map (pk false y)) = (prs false x y n).map fun p => logB f p.1 p.2 := by
 apply List.ext_getElem (by simp [prs])
 intro i h1 h2
 simp [prs, tabL_tab hf]
end Go.Proofs.YtbacchbcanlciaaGreatDoor

namespace Go.Proofs.YtbacchbcanlciaaGreatDoor
set_option maxRecDepth 100000
open Go.RowKit Fl
set_option linter.unusedVariables false

set_option maxHeartbeats 4000000 in
theorem loone_calls (f : Int) (a b : Bool) (w : World) : Calls Tryz.prog 193 #[.int .i64 f, .bool a, .bool b] w fun e w' => e = .returned (.tuple #[.bool (logB f a b), .int .i64 (logE f)]) ∧ w = w' := by
 rcases log_cases f with rfl | rfl | rfl | rfl | hf
 ·cases a <;> cases b
  all_goals
   go_enter Tryz.func193, Tryz.ntmps193
   go_wp2
   go_ret2
   exact ⟨rfl, rfl⟩
 ·cases a <;> cases b
  all_goals
   go_enter Tryz.func193, Tryz.ntmps193
   go_wp2
   go_ret2
   exact ⟨rfl, rfl⟩
 ·cases a <;> cases b
  all_goals
   go_enter Tryz.func193, Tryz.ntmps193
   go_wp2
   go_ret2
   exact ⟨rfl, rfl⟩
 ·cases a <;> cases b
  all_goals
   go_enter Tryz.func193, Tryz.ntmps193
   go_wp2
   go_ret2
   exact ⟨rfl, rfl⟩
 ·have HE := Lib.hid (logB_none a b hf)
  have HG := Lib.hid (show logE f = 1 from if_neg hf)
  rw [HE.out, HG.out]
  have n21 : (f == 21) = false := by rw [beq_eq_false_iff_ne]; omega
  have n22 : (f == 22) = false := by rw [beq_eq_false_iff_ne]; omega
  have n23 : (f == 23) = false := by rw [beq_eq_false_iff_ne]; omega
  have n24 : (f == 24) = false := by rw [beq_eq_false_iff_ne]; omega
  clear hf
  go_enter Tryz.func193, Tryz.ntmps193
  go_wp2
  go_ret2
  exact ⟨rfl, rfl⟩
set_option maxHeartbeats 4000000 in
theorem rlone_calls (f : Int) (a b : Bool) (w : World) : Calls Tryz.prog 108 #[.int .i64 f, .bool a, .bool b] w fun e w' => e = .returned (.tuple #[.bool (logB f a b), .int .i64 (logE f)]) ∧ w = w' := by
 rcases log_cases f with rfl | rfl | rfl | rfl | hf
 ·cases a <;> cases b
  all_goals
   go_enter Tryz.func108, Tryz.ntmps108
   go_wp2
   go_ret2
   exact ⟨rfl, rfl⟩
 ·cases a <;> cases b
  all_goals
   go_enter Tryz.func108, Tryz.ntmps108
   go_wp2
   go_ret2
   exact ⟨rfl, rfl⟩
 ·cases a <;> cases b
  all_goals
   go_enter Tryz.func108, Tryz.ntmps108
   go_wp2
   go_ret2
   exact ⟨rfl, rfl⟩
 ·cases a <;> cases b
  all_goals
   go_enter Tryz.func108, Tryz.ntmps108
   go_wp2
   go_ret2
   exact ⟨rfl, rfl⟩
 ·have HE := Lib.hid (logB_none a b hf)
  have HG := Lib.hid (show logE f = 1 from if_neg hf)
  rw [HE.out, HG.out]
  have n21 : (f == 21) = false := by rw [beq_eq_false_iff_ne]; omega
  have n22 : (f == 22) = false := by rw [beq_eq_false_iff_ne]; omega
  have n23 : (f == 23) = false := by rw [beq_eq_false_iff_ne]; omega
  have n24 : (f == 24) = false := by rw [beq_eq_false_iff_ne]; omega
  clear hf
  go_enter Tryz.func108, Tryz.ntmps108
  go_wp2
  go_ret2
  exact ⟨rfl, rfl⟩
theorem loknown_calls (f : Int) (w : World) : Calls Tryz.prog 160 #[.int .i64 f] w fun e w' => e = .returned (.bool (decide (21 ≤ f ∧ f ≤ 24))) ∧ w = w' := by
 by_cases h1 : (21 : Int) ≤ f
 ·by_cases h2 : f ≤ (24 : Int)
  ·have HD := Lib.hid (decide_eq_true (show 21 ≤ f ∧ f ≤ 24 from ⟨h1, h2⟩))
   rw [HD.out]
   go_enter Tryz.func160, Tryz.ntmps160
   go_wp2
   go_ret
   exact ⟨ret_b (by first | rfl | (simp; omega)), rfl⟩
  ·have HD := Lib.hid (decide_eq_false (show ¬ (21 ≤ f ∧ f ≤ 24) from fun h => h2 h.2))
   rw [HD.out]
   go_enter Tryz.func160, Tryz.ntmps160
   go_wp2
   go_ret
   exact ⟨ret_b (by first | rfl | (simp; omega)), rfl⟩
 ·have HD := Lib.hid (decide_eq_false (show ¬ (21 ≤ f ∧ f ≤ 24) from fun h => h1 h.1))
  rw [HD.out]
  go_enter Tryz.func160, Tryz.ntmps160
  go_wp2
  go_ret
  exact ⟨ret_b (by first | rfl | (simp; omega)), rfl⟩
theorem tabL_or (f : Int) (k : Nat) (hk : k < 4) : bits BinOp.or IntKind.u8 (tabL f k : Int) (2 ^ k % 256 : Int) = ((tabL f k ||| 2 ^ k : Nat) : Int) := by
 have h := tabL_pow f k
 have h2 : (2 : Nat) ^ k ≤ 2 ^ 3 := Nat.pow_le_pow_right (by decide) (by omega)
 have e : (2 ^ k % 256 : Int) = ((2 ^ k : Nat) : Int) := by
  have : ((2 ^ k : Nat) : Int) = (2 : Int) ^ k := by simp
  omega
 rw [e]
 exact u8_or_nat _ _ (by omega) (by omega)
theorem lotable_calls (f : Int) (w : World) (hf : 21 ≤ f ∧ f ≤ 24) : Calls Tryz.prog 163 #[.int .i64 f] w fun e w' => e = .returned (.int .u8 (tabL f 4 : Nat)) ∧ w = w' := by
 clear hf
 go_enter Tryz.func163, Tryz.ntmps163
 go_wp2
 go_loopw [3, 7] (fun t i wr => ∃ k : Nat, k ≤ 4 ∧ i = .int .i64 k ∧ t = .int .u8 (tabL f k : Nat) ∧ w = wr) (fun _ i _ => 4 - (intOf i).toNat)
 case atStart => exact ⟨0, by omega, rfl, rfl, rfl⟩
 case round =>
  obtain ⟨k, hk, rfl, rfl, hw⟩ := hrel
  by_cases hlt : k < 4
  ·have HT := Lib.hid (show tabL f (k + 1) = if logB f (decide (k / 2 = 1)) (decide (k % 2 = 1)) then tabL f k ||| 2 ^ k else tabL f k from rfl)
   have HW := Lib.hid hw
   have HQ := Lib.hid (show ((k : Int) / 2 == 1) = decide (k / 2 = 1) ∧ ((k : Int) % 2 == 1) = decide (k % 2 = 1) from ⟨by rw [Bool.eq_iff_iff]; simp; omega, by rw [Bool.eq_iff_iff]; simp; omega⟩)
   have HK := Lib.hid hlt
   go_wp2_with fail
   refine (loone_calls f ((k : Int) / 2 == 1) ((k : Int) % 2 == 1) _).mono ?_
   rintro e w' ⟨rfl, rfl⟩
   rw [HQ.out.1, HQ.out.2]
   obtain ⟨b, hb⟩ : ∃ b, logB f (decide (k / 2 = 1)) (decide (k % 2 = 1)) = b := ⟨_, rfl⟩
   have HB := Lib.hid hb; rw [hb]
   rw [hb] at HT
   clear hb
   cases b
   ·have HT2 := Lib.hid (show tabL f (k + 1) = tabL f k by rw [HT.out]; rfl)
    go_wp2
    go_roundw
    case rel => exact ⟨k + 1, by omega, by go_num, by rw [HT2.out], HW.out⟩
    case measure => simp [intOf]; omega
   ·have HT2 := Lib.hid (show tabL f (k + 1) = tabL f k ||| 2 ^ k by rw [HT.out]; rfl)
    go_wp2
    rw [tabL_or f _ HK.out]
    go_roundw
    case rel => exact ⟨k + 1, by omega, by go_num, by rw [HT2.out], HW.out⟩
    case measure => simp [intOf]; omega
  ·have hk2 : k = 4 := by omega
   subst hk2
   go_wp2
   go_ret
   exact ⟨rfl, hw⟩
theorem lospread_calls (v : Value) (l : List Bool) (n : Nat) (w : World) (hv : IsBits w v l) (hl : l.length ≤ 1048576) (hn : n ≤ 1048576) (h : l.length = 1 ∨ l.length = n) :
  Calls Tryz.prog 164 #[v, .int .i64 (n : Int)] w fun e w' => ∃ v', e = .returned v' ∧ IsBits w' v' ((List.range n).map (pk false l)) ∧ Below w.heap.size w w' := by
 have HV := Lib.hid hv
 obtain ⟨ao, cap, rfl, hcells⟩ := hv.opened
 obtain ⟨L, hL⟩ : ∃ L, (l.length + 63) / 64 = L := ⟨_, rfl⟩
 rw [hL] at HV ⊢
 clear hcells hv hL
 obtain ⟨W1, hW1⟩ : ∃ W1, W1 = (w.alloc (.cells #[.int .i64 l.length, .slice ao L cap] 63)).alloc (.cells #[.int .i64 0, .slice none 0 0] 63) := ⟨_, rfl⟩
 have HA := Lib.hid (show At2 W1 w.heap.size (.int .i64 l.length) (.slice ao L cap) by rw [hW1]; exact (At2.new _ _ _ _).alloc _)
 have HR := Lib.hid (show At2 W1 (w.heap.size + 1) (.int .i64 0) (.slice none 0 0) by
  rw [hW1]; have := At2.new (w.alloc (.cells #[.int .i64 l.length, .slice ao L cap] 63)) (.int .i64 0) (.slice none 0 0) 63; simpa using this)
 have HB := Lib.hid (show Below w.heap.size w W1 by rw [hW1]; exact ((Below.refl _ _).alloc (Nat.le_refl _) _).alloc (by simp) _)
 have HV1 := Lib.hid (HV.out.keep (keep_below HB.out))
 have HL := Lib.hid hl; have HN := Lib.hid hn
 have hfold := hW1.symm
 clear hW1 hl hn; have cHA0 := HA.out.2.1; have cHA1 := HA.out.2.2.1
 go_enter Tryz.func164, Tryz.ntmps164
 go_wp2_with fail
 clear hfold
 refine (len_calls _ l _ HV1.out).mono ?_
 rintro e W2 ⟨rfl, hB⟩
 have HB2 := Lib.hid (HB.out.trans (hB.mono HB.out.size))
 have HV2 := Lib.hid (HV1.out.keep (keep_below hB))
 have HR2 := Lib.hid (HR.out.below hB)
 have HA2 := Lib.hid (HA.out.below hB)
 clear cHA0 cHA1 hB; have cHA0 := HA2.out.2.1; have cHA1 := HA2.out.2.2.1; have cHR0 := HR2.out.2.1; have cHR1 := HR2.out.2.2.1; have zHR0 := HR2.out.2.2.2 0; have zHR1 := HR2.out.2.2.2 1
 by_cases h1 : l.length = 1
 ·have hb : ((l.length : Int) == 1) = true := by rw [h1]; rfl
  have H1 := Lib.hid h1; clear h h1
  go_wp2_with fail
  refine (at_calls _ l 0 _ HV2.out HL.out).mono ?_
  rintro e W3 ⟨rfl, hB⟩
  have HB3 := Lib.hid (HB2.out.trans (hB.mono HB2.out.size))
  have HR3 := Lib.hid (HR2.out.below hB)
  clear cHA0 cHA1 cHR0 cHR1 zHR0 zHR1 hB; have cHR0 := HR3.out.2.1; have cHR1 := HR3.out.2.2.1; have zHR0 := HR3.out.2.2.2 0; have zHR1 := HR3.out.2.2.2 1
  have HM := Lib.hid (show min (max (n : Int) 0) 1048576 = n by have := HN.out; omega)
  go_wp2_with fail
  refine (make_calls _ _ n HM.out _).mono ?_
  rintro e W4 ⟨v4, rfl, hv4, hB⟩
  have HB4 := Lib.hid (HB3.out.trans (hB.mono HB3.out.size))
  have HR4 := Lib.hid (HR3.out.below hB)
  have HV4 := Lib.hid hv4; clear cHR0 cHR1 zHR0 zHR1 hB hv4; have cHR0 := HR4.out.2.1; have cHR1 := HR4.out.2.2.1; have zHR0 := HR4.out.2.2.2 0; have zHR1 := HR4.out.2.2.2 1
  obtain ⟨ao4, cap4, rfl, _⟩ := HV4.out.opened
  go_wp2_with fail
  rw [List.length_replicate] at *
  have hq := at2_put HR4.out (.int .i64 n) (.slice ao4 ((n + 63) / 64) cap4)
  have q0 := hq.2.1
  have q1 := hq.2.2.1
  have HB5 := Lib.hid (below_setc HB4.out (show w.heap.size ≤ w.heap.size + 1 by omega) (.int .i64 n) (.slice ao4 ((n + 63) / 64) cap4))
  refine bodyPost_ret (v := .agg #[.int .i64 n, .slice ao4 ((n + 63) / 64) cap4]) (by simp [results, Tryz.results164, go_sem, q0, q1]) rfl ⟨_, rfl, ?_, HB5.out⟩
  have e : (List.range n).map (pk false l) = List.replicate n (sqI l 0) := by
   apply List.ext_getElem (by simp)
   intro i h1 h2
   have h0 : 0 < l.length := by have := H1.out; omega
   have e2 : sqI l 0 = l[0] := by simp [sqI, sq, List.getElem?_eq_getElem h0]
   simp [pk, H1.out, e2]
  rw [e]
  have := HV4.out.set2 HR4.out (.int .i64 n) (.slice ao4 ((n + 63) / 64) cap4)
  simpa using this
 ·have hb : ((l.length : Int) == 1) = false := by rw [beq_eq_false_iff_ne]; omega
  have H1 := Lib.hid (show l.length = n by omega)
  clear h h1
  go_wp2_with fail
  have hq := at2_put HR2.out (.int .i64 l.length) (.slice ao L cap)
  have q0 := hq.2.1
  have q1 := hq.2.2.1
  have HB3 := Lib.hid (below_setc HB2.out (show w.heap.size ≤ w.heap.size + 1 by omega) (.int .i64 l.length) (.slice ao L cap))
  refine bodyPost_ret (v := .agg #[.int .i64 l.length, .slice ao L cap]) (by simp [results, Tryz.results164, go_sem, q0, q1]) rfl ⟨_, rfl, ?_, HB3.out⟩
  have e : (List.range n).map (pk false l) = l := by
   apply List.ext_getElem (by simp [H1.out])
   intro i h1 h2
   have e1 : (if l.length = 1 then 0 else i) = i := by split <;> omega
   simp [pk, e1, List.getElem?_eq_getElem h2]
  rw [e]
  exact HV2.out.set2 HR2.out _ _
theorem tr_parts {x : Nat} (h : Fnt x) : (isT x = true ∧ ((bitW x = true ∧ FloatKind.f64.format.order x 0 = some .gt ∧ FloatKind.f64.format.order x 4607182418800017408 = some .eq) ∨ (bitW x = false ∧ FloatKind.f64.format.order x 0 = some .eq ∧ FloatKind.f64.format.order x 4607182418800017408 = some .lt))) ∨
  (isT x = false ∧ ((FloatKind.f64.format.order x 0 = some .lt ∧ FloatKind.f64.format.order x 4607182418800017408 = some .lt) ∨ (FloatKind.f64.format.order x 0 = some .gt ∧ FloatKind.f64.format.order x 4607182418800017408 = some .lt) ∨ (FloatKind.f64.format.order x 0 = some .gt ∧ FloatKind.f64.format.order x 4607182418800017408 = some .gt))) := by
 have hp : (0 : Int) < pw 1074 := by have := pw_pos 1074; omega
 have h0 : V 0 = 0 := V_zero
 have h1 : V 4607182418800017408 = pw 1074 := V_one
 have f0 : Fnt 0 := ⟨by decide, by decide⟩
 have f1 : Fnt 4607182418800017408 := ⟨by decide, by decide⟩
 rcases ord_both h f0 with ⟨a, o, _⟩ | ⟨a, o, _⟩ | ⟨a, o, _⟩ <;> rcases ord_both h f1 with ⟨b, q, _⟩ | ⟨b, q, _⟩ | ⟨b, q, _⟩ <;> rw [h0] at a <;> rw [h1] at b <;> first | omega | skip
 ·exact .inr ⟨by simp [isT]; omega, .inl ⟨o, q⟩⟩
 ·exact .inl ⟨by simp [isT]; omega, .inr ⟨by simp [bitW]; omega, o, q⟩⟩
 ·exact .inr ⟨by simp [isT]; omega, .inr (.inl ⟨o, q⟩)⟩
 ·exact .inl ⟨by simp [isT]; omega, .inl ⟨by simp [bitW]; omega, o, q⟩⟩
 ·exact .inr ⟨by simp [isT]; omega, .inr (.inr ⟨o, q⟩)⟩
end Go.Proofs.YtbacchbcanlciaaGreatDoor

namespace Go.Proofs.YtbacchbcanlciaaGreatDoor
set_option maxRecDepth 100000
open Go.RowKit Fl
set_option linter.unusedVariables false

set_option maxHeartbeats 8000000 in
theorem loofnum_calls {ok : Nat → Prop} (v : Value) (l : List Nat) (w : World) (hv : Slc w ok v l.length (f64s l)) (hm : l.length ≤ 1048576) (hF : ∀ x ∈ l, Fnt x) :
  Calls Tryz.prog 201 #[v] w fun e w' => ∃ u, e = .returned (.tuple #[u, .bool (truL l).isSome]) ∧ IsBits w' u ((truL l).getD []) ∧ Below w.heap.size w w' := by
 obtain ⟨ao, cap, rfl, _, _, _, hc⟩ := hv.opened
 have HC := Lib.hid hc; have HM := Lib.hid hm; have HF := Lib.hid hF
 obtain ⟨R, hR⟩ : ∃ R, R = truL l := ⟨_, rfl⟩
 have HR := Lib.hid hR
 rw [← hR]
 clear hv hc hF hR
 obtain ⟨xs, hxs⟩ : ∃ xs : List Value, xs = l.map (fun x => .bool (bitW x)) := ⟨_, rfl⟩
 have HXS := Lib.hid hxs
 have hxl : xs.length = l.length := by rw [hxs]; simp
 have hget : ∀ k (h : k < xs.length) (h2 : k < l.length), ∃ x : Nat, x = l[k]'h2 ∧ xs[k]'h = .bool (bitW x) := by intro k h h2; refine ⟨_, rfl, ?_⟩; simp [hxs]
 have HX := Lib.hid hget; have HXL := Lib.hid hxl
 have hmk := mkB1 l.length (by omega) (w.alloc (.cells #[.int .i64 0, .slice none 0 0] 63))
 clear hxs hget hxl
 obtain ⟨W0, hW0⟩ : ∃ W0, W0 = (w.alloc (.cells #[.int .i64 0, .slice none 0 0] 63)).alloc (.cells (zerosV (.bool false) l.length) 4) := ⟨_, rfl⟩
 have HO0 : Hid (W0.ownsRow (w.heap.size + 1) 4 1 (.slice (some ⟨w.heap.size + 1, 0, none⟩) l.length l.length) l.length (List.replicate l.length (.bool false))) := Lib.hid (by have := own_make1 (.bool false) 4 l.length (by omega) (w.alloc (.cells #[.int .i64 0, .slice none 0 0] 63)) (w.heap.size + 1) (by simp); rw [hW0]; simpa using this)
 have HA := Lib.hid (show At2 W0 w.heap.size (.int .i64 0) (.slice none 0 0) by rw [hW0]; exact (At2.new _ _ _ _).alloc _)
 have HW := Lib.hid (show Below w.heap.size w W0 by rw [hW0]; exact (below_new _ _).alloc (by simp) _)
 go_enter Tryz.func201, Tryz.ntmps201
 go_wp2
 rw [← hW0]
 clear hW0 hmk
 go_loopw [12] (fun i wr => ∃ k : Nat, k ≤ l.length ∧ i = .int .i64 k ∧ (∀ x ∈ l.take k, isT x = true) ∧ wr.ownsRow (w.heap.size + 1) 4 1 (.slice (some ⟨w.heap.size + 1, 0, none⟩) l.length l.length) l.length (fillTo xs (.bool false) k) ∧ W0.grownBy wr (some (w.heap.size + 1))) (fun i _ => l.length - (intOf i).toNat)
 case atStart => exact ⟨0, by omega, rfl, by simp, by rw [fillTo_zero, HXL.out]; exact HO0.out, grown_refl _ _⟩
 case round =>
  obtain ⟨k, hk, rfl, hall, hown, hgr⟩ := hrel
  have HO := Lib.hid hown; have HG := Lib.hid hgr
  have HB := Lib.hid (HW.out.grown hgr HW.out.size (fun j hj => by cases hj; omega))
  have HA2 := Lib.hid (HA.out.grown hgr (by simp))
  have HAL := Lib.hid hall; clear hall
  by_cases hlt : k < l.length
  ·obtain ⟨b, off, rfl, _, hcl0⟩ := HC.out k (by rw [f64s_len]; exact hlt)
   have hcl := keep_below HB.out _ _ hcl0
   rw [f64s_get] at hcl
   obtain ⟨x, hx, hxk⟩ := HX.out k (by rw [HXL.out]; exact hlt) hlt
   have hcw := owns_cell HO.out k (by rw [fillTo_len _ _ _ (by rw [HXL.out]; exact hk), HXL.out]; exact hlt)
   have hfr := World.ownsRow.frozenAt HO.out k
   rw [← hx] at hcl
   have HXI := Lib.hid (show x ∈ l by rw [hx]; exact List.getElem_mem hlt)
   have HXK := Lib.hid hxk
   have HTA := Lib.hid (show isT x = true → ∀ y ∈ l.take (k + 1), isT y = true by
    intro h y hy
    rw [List.take_succ_eq_append_getElem hlt, ← hx] at hy
    rcases List.mem_append.1 hy with hy | hy
    ·exact HAL.out y hy
    ·rw [List.mem_singleton.1 hy]; exact h)
   clear hown hgr hcl0 hx hxk
   rcases tr_parts (HF.out x HXI.out) with ⟨hT, hq⟩ | ⟨hT, hq⟩
   ·have HT := Lib.hid (HTA.out hT)
    clear hT
    rcases hq with ⟨hb, o1, o2⟩ | ⟨hb, o1, o2⟩
    all_goals
     rw [hb] at HXK
     clear hb
     go_wp2
     go_roundw
     case rel =>
      refine ⟨k + 1, by omega, by go_num, HT.out, ?_, grown_trans HG.out (grown_setCell _ ⟨w.heap.size + 1, k, none⟩ _)⟩
      have := (World.ownsRow.stored HO.out k (xs[k]'(by rw [HXL.out]; exact hlt))).1
      rw [fillTo_set, HXK.out] at this
      exact this
     case measure => simp [intOf]; omega
   ·have HN := Lib.hid (show R = none by rw [HR.out]; exact truL_no HXI.out hT)
    clear hT hcw hfr; have a0 := HA2.out.2.1; have a1 := HA2.out.2.2.1; have f0 := HA2.out.2.2.2 0; have f1 := HA2.out.2.2.2 1
    rcases hq with ⟨o1, o2⟩ | ⟨o1, o2⟩ | ⟨o1, o2⟩
    all_goals
     go_wp2
     have q := at2_put HA2.out (.int .i64 0) (.slice none 0 0)
     have q0 := q.2.1
     have q1 := q.2.2.1
     refine bodyPost_ret (v := .tuple #[.agg #[.int .i64 0, .slice none 0 0], .bool false]) (by simp [results, Tryz.results201, go_sem, q0, q1]) rfl ⟨.agg #[.int .i64 0, .slice none 0 0], ?_, ?_, below_setc HB.out (Nat.le_refl _) _ _⟩
     ·rw [HN.out]; rfl
     ·rw [HN.out]; exact isBits_empty _
  ·have hkl : k = l.length := by omega
   have HK := Lib.hid hkl
   have HT := Lib.hid (show R = some (l.map bitW) by rw [HR.out]; exact truL_yes (by have := HAL.out; rwa [hkl, List.take_length] at this))
   have HOW := Lib.hid (show wr.ownsRow (w.heap.size + 1) 4 1 (.slice (some ⟨w.heap.size + 1, 0, none⟩) l.length l.length) l.length xs by
    have := HO.out
    rw [HK.out, ← HXL.out, fillTo_all, HXL.out] at this
    exact this)
   clear hown hgr hkl
   have HXB := Lib.hid (show xs = bools (l.map bitW) by rw [HXS.out]; simp [bools])
   have HLM := Lib.hid (show (l.map bitW).length = l.length by simp)
   have HS := Lib.hid (show Sl wr (.slice (some ⟨w.heap.size + 1, 0, none⟩) l.length l.length) (l.map bitW).length (bools (l.map bitW)) by rw [HLM.out, ← HXB.out]; exact Sl.owned HOW.out)
   go_wp2_with fail
   refine (pack_calls _ (l.map bitW) _ HS.out (by rw [HLM.out]; exact HM.out)).mono ?_
   rintro e w2 ⟨v, rfl, hb, hB2⟩
   have HV := Lib.hid hb
   have HB3 := Lib.hid (HB.out.trans (hB2.mono HB.out.size))
   have HA3 := Lib.hid (HA2.out.below hB2)
   obtain ⟨ao', cap', rfl, _⟩ := hb.opened
   clear hb hB2; have a0 := HA3.out.2.1; have a1 := HA3.out.2.2.1; have f0 := HA3.out.2.2.2 0; have f1 := HA3.out.2.2.2 1
   go_wp2
   refine bodyPost_ret (v := .tuple #[.agg #[.int .i64 ((l.map bitW).length : Int), .slice ao' (((l.map bitW).length + 63) / 64 : Nat) cap'], .bool true]) (by simp [results, Tryz.results201, go_sem, a0, a1]) rfl ⟨.agg #[.int .i64 ((l.map bitW).length : Int), .slice ao' (((l.map bitW).length + 63) / 64 : Nat) cap'], ?_, ?_, below_set2 _ _ HB3.out (Nat.le_refl _)⟩
   ·rw [HT.out]; rfl
   ·rw [HT.out]; exact HV.out.set2 HA3.out _ _
set_option maxHeartbeats 8000000 in
theorem lotruths_calls {ok : Nat → Prop} (u : Value) (A : VV) (w : World) (hA : IsV w ok u A) (oA : A.ok) (nA : A.nm) (hT : TabAt w) :
  Calls Tryz.prog 162 #[.agg #[u]] w fun e w' => ∃ v, e = .returned (.tuple #[v, .bool A.tru.isSome]) ∧ IsBits w' v A.tr ∧ Below w.heap.size w w' := by
 have hsa := hA.store
 obtain ⟨T, hT0⟩ : ∃ T, T = A.tru := ⟨_, rfl⟩
 obtain ⟨P, hP0⟩ : ∃ P, P = A.tr := ⟨_, rfl⟩
 rw [← hT0, ← hP0]
 have HTT := Lib.hid hT0; have HPP := Lib.hid hP0
 obtain ⟨W1, hW1⟩ : ∃ W1, W1 = (w.alloc (.cells #[u] 25)).alloc (.cells #[.int .i64 0, .slice none 0 0] 63) := ⟨_, rfl⟩
 have HB := Lib.hid (show Below w.heap.size w W1 by rw [hW1]; exact (below_new _ _).alloc (by simp) _)
 have HA := Lib.hid (show At1 W1 w.heap.size u by rw [hW1]; exact (At1.new w _ _).below (below_new _ _))
 have HR := Lib.hid (show At2 W1 (w.heap.size + 1) (.int .i64 0) (.slice none 0 0) by rw [hW1]; have := At2.new (w.alloc (.cells #[u] 25)) (.int .i64 0) (.slice none 0 0) 63; simpa using this)
 have HU := Lib.hid (show IsV W1 ok u A from hA.grow HB.out)
 have HT := Lib.hid (show TabAt W1 from fun j hj => keep_below HB.out _ _ (hT j hj))
 have HOA := Lib.hid oA; have HNA := Lib.hid nA
 have hfold := hW1.symm
 clear hA hT oA nA hW1 hT0 hP0; have cHA0 := HA.out.2.1; have cHR0 := HR.out.2.1; have cHR1 := HR.out.2.2.1; have zHR0 := HR.out.2.2.2 0; have zHR1 := HR.out.2.2.2 1
 go_enter Tryz.func162, Tryz.ntmps162
 go_wp2_with fail
 clear hfold
 refine (vpacked_calls _ A _ HU.out).mono ?_
 rintro e W11 ⟨vx, rfl, hvx, hB⟩
 clear cHA0 cHR0 cHR1 zHR0 zHR1; replace HA := HA.go hB; replace HR := HR.go hB; replace HB := cb hB HB; replace HU := HU.go hB; replace HT := HT.go hB; have Hvx := Lib.hid hvx
 obtain ⟨ax, cx, rfl, hcx⟩ := hvx.opened
 clear hvx hcx
 by_cases hib : A.isBit = true
 ·have HIB := Lib.hid hib; rw [hib]; clear hib hB
  obtain ⟨W12, hWn, hB, hNB⟩ := ahd2 W11 (.int .i64 A.packed.length) (.slice ax ((A.packed.length + 63) / 64) cx) 63
  replace HA := HA.go hB; replace HR := HR.go hB; replace HB := cb hB HB; replace HU := HU.go hB; replace HT := HT.go hB; replace Hvx := Hvx.go hB; have Hx := Lib.hid hNB; clear hNB hB; have cHA0 := HA.out.2.1; have cHR0 := HR.out.2.1; have cHR1 := HR.out.2.2.1; have zHR0 := HR.out.2.2.2 0; have zHR1 := HR.out.2.2.2 1; have cHx0 := Hx.out.2.1; have cHx1 := Hx.out.2.2.1
  go_wp2_with fail
  clear hWn
  have hq := at2_put HR.out (.int .i64 A.packed.length) (.slice ax ((A.packed.length + 63) / 64) cx)
  have q0 := hq.2.1
  have q1 := hq.2.2.1
  have HB5 := Lib.hid (below_setc HB.out (show w.heap.size ≤ w.heap.size + 1 by omega) (.int .i64 A.packed.length) (.slice ax ((A.packed.length + 63) / 64) cx))
  refine bodyPost_ret (v := .tuple #[.agg #[.int .i64 A.packed.length, .slice ax ((A.packed.length + 63) / 64) cx], .bool true]) (by simp [results, Tryz.results162, go_sem, q0, q1]) rfl ⟨.agg #[.int .i64 A.packed.length, .slice ax ((A.packed.length + 63) / 64) cx], ?_, ?_, HB5.out⟩
  ·rw [HTT.out, VV.tru_bit HIB.out]; rfl
  ·rw [HPP.out, VV.tr_of (VV.tru_bit HIB.out)]; exact Hvx.out.set2 HR.out _ _
 ·have HIB := Lib.hid (show A.isBit = false by simpa using hib)
  rw [HIB.out]; clear hib hB
  obtain ⟨W12, hWn, hB, hNB⟩ := ahd2 W11 (.int .i64 A.packed.length) (.slice ax ((A.packed.length + 63) / 64) cx) 63
  replace HA := HA.go hB; replace HR := HR.go hB; replace HB := cb hB HB; replace HU := HU.go hB; replace HT := HT.go hB; replace Hvx := Hvx.go hB; have Hx := Lib.hid hNB; clear hNB hB; have cHA0 := HA.out.2.1; have cHR0 := HR.out.2.1; have cHR1 := HR.out.2.2.1; have zHR0 := HR.out.2.2.2 0; have zHR1 := HR.out.2.2.2 1; have cHx0 := Hx.out.2.1; have cHx1 := Hx.out.2.2.1
  go_wp2_with fail
  clear hWn; clear cHA0 cHR0 cHR1 zHR0 zHR1 cHx0 cHx1; have cHA0 := HA.out.2.1; have cHR0 := HR.out.2.1; have cHR1 := HR.out.2.2.1; have zHR0 := HR.out.2.2.2 0; have zHR1 := HR.out.2.2.2 1
  by_cases hk : A.kind = 0
  ·refine (kind_calls _ A _ HU.out).mono ?_
   rintro e W13 ⟨rfl, hB⟩
   clear cHA0 cHR0 cHR1 zHR0 zHR1; replace HA := HA.go hB; replace HR := HR.go hB; replace HB := cb hB HB; replace HU := HU.go hB; replace HT := HT.go hB; rw [hk]; have hkk := Lib.hid hk; clear hk; clear hB; have cHA0 := HA.out.2.1; have cHR0 := HR.out.2.1; have cHR1 := HR.out.2.2.1; have zHR0 := HR.out.2.2.2 0; have zHR1 := HR.out.2.2.2 1
   have HTN := Lib.hid (show A.tru = none from VV.tru_none HIB.out (.inl hkk.out))
   go_wp2_with fail
   have hq := at2_put HR.out (.int .i64 0) (.slice none 0 0)
   have q0 := hq.2.1
   have q1 := hq.2.2.1
   have HB5 := Lib.hid (below_setc HB.out (show w.heap.size ≤ w.heap.size + 1 by omega) (.int .i64 0) (.slice none 0 0))
   refine bodyPost_ret (v := .tuple #[.agg #[.int .i64 0, .slice none 0 0], .bool false]) (by simp [results, Tryz.results162, go_sem, q0, q1]) rfl ⟨.agg #[.int .i64 0, .slice none 0 0], ?_, ?_, HB5.out⟩
   ·rw [HTT.out, HTN.out]; rfl
   ·rw [HPP.out]; unfold VV.tr; rw [HTN.out]; exact isBits_empty _
  have hkb : (A.kind == 0) = false := by simpa using hk
  have HK := Lib.hid hk; clear hk
  refine (kind_calls _ A _ HU.out).mono ?_
  rintro e W13 ⟨rfl, hB⟩
  clear cHA0 cHR0 cHR1 zHR0 zHR1; replace HA := HA.go hB; replace HR := HR.go hB; replace HB := cb hB HB; replace HU := HU.go hB; replace HT := HT.go hB; clear hB; have cHA0 := HA.out.2.1; have cHR0 := HR.out.2.1; have cHR1 := HR.out.2.2.1; have zHR0 := HR.out.2.2.2 0; have zHR1 := HR.out.2.2.2 1
  go_wp2_with fail
  by_cases hc : A.cls = 0
  rotate_left
  ·have hcb : (A.cls != 0) = true := by simpa using hc
   have HC := Lib.hid hc; clear hc
   refine (class_calls _ A _ HU.out).mono ?_
   rintro e W14 ⟨rfl, hB⟩
   clear cHA0 cHR0 cHR1 zHR0 zHR1; replace HA := HA.go hB; replace HR := HR.go hB; replace HB := cb hB HB; replace HU := HU.go hB; replace HT := HT.go hB; clear hB; have cHA0 := HA.out.2.1; have cHR0 := HR.out.2.1; have cHR1 := HR.out.2.2.1; have zHR0 := HR.out.2.2.2 0; have zHR1 := HR.out.2.2.2 1
   have HTN := Lib.hid (show A.tru = none from VV.tru_none HIB.out (.inr HC.out))
   go_wp2_with fail
   have hq := at2_put HR.out (.int .i64 0) (.slice none 0 0)
   have q0 := hq.2.1
   have q1 := hq.2.2.1
   have HB5 := Lib.hid (below_setc HB.out (show w.heap.size ≤ w.heap.size + 1 by omega) (.int .i64 0) (.slice none 0 0))
   refine bodyPost_ret (v := .tuple #[.agg #[.int .i64 0, .slice none 0 0], .bool false]) (by simp [results, Tryz.results162, go_sem, q0, q1]) rfl ⟨.agg #[.int .i64 0, .slice none 0 0], ?_, ?_, HB5.out⟩
   ·rw [HTT.out, HTN.out]; rfl
   ·rw [HPP.out]; unfold VV.tr; rw [HTN.out]; exact isBits_empty _
  have HC := Lib.hid hc
  refine (class_calls _ A _ HU.out).mono ?_
  rintro e W14 ⟨rfl, hB⟩
  clear cHA0 cHR0 cHR1 zHR0 zHR1; replace HA := HA.go hB; replace HR := HR.go hB; replace HB := cb hB HB; replace HU := HU.go hB; replace HT := HT.go hB; rw [hc]; clear hc; clear hB; have cHA0 := HA.out.2.1; have cHR0 := HR.out.2.1; have cHR1 := HR.out.2.2.1; have zHR0 := HR.out.2.2.2 0; have zHR1 := HR.out.2.2.2 1
  go_wp2_with fail
  have HTN := Lib.hid (VV.tru_nums HK.out HC.out)
  have HL := Lib.hid (show A.nums.length ≤ 1048576 by rw [VV.nums_len0 HC.out]; exact VV.ok_len HOA.out)
  have HNN := Lib.hid (fun x hx => (VV.nums_num HOA.out HNA.out x hx).1)
  refine (vnums_calls _ A _ HU.out HOA.out HT.out).mono ?_
  rintro e W15 ⟨vn, rfl, hvn, hB⟩
  clear cHA0 cHR0 cHR1 zHR0 zHR1; replace HA := HA.go hB; replace HR := HR.go hB; replace HB := cb hB HB; replace HU := HU.go hB; replace HT := HT.go hB; have HVN := Lib.hid hvn; clear hvn; clear hB; have cHA0 := HA.out.2.1; have cHR0 := HR.out.2.1; have cHR1 := HR.out.2.2.1; have zHR0 := HR.out.2.2.2 0; have zHR1 := HR.out.2.2.2 1
  go_wp2_with fail
  refine (loofnum_calls _ A.nums _ HVN.out HL.out HNN.out).mono ?_
  rintro e W16 ⟨vb, rfl, hvb, hB⟩
  clear cHA0 cHR0 cHR1 zHR0 zHR1; replace HA := HA.go hB; replace HR := HR.go hB; replace HB := cb hB HB; replace HU := HU.go hB; replace HT := HT.go hB; replace HVN := HVN.go hB
  rw [← HTN.out, ← HTT.out]
  have HVB := Lib.hid (show IsBits W16 vb P by rw [HPP.out]; unfold VV.tr; rw [HTN.out]; exact hvb)
  obtain ⟨ab, cb, rfl, _⟩ := HVB.out.opened
  clear hvb; clear hB; have cHA0 := HA.out.2.1; have cHR0 := HR.out.2.1; have cHR1 := HR.out.2.2.1; have zHR0 := HR.out.2.2.2 0; have zHR1 := HR.out.2.2.2 1
  go_wp2_with fail
  have hq := at2_put HR.out (.int .i64 P.length) (.slice ab ((P.length + 63) / 64) cb)
  have q0 := hq.2.1
  have q1 := hq.2.2.1
  have HB5 := Lib.hid (below_setc HB.out (show w.heap.size ≤ w.heap.size + 1 by omega) (.int .i64 P.length) (.slice ab ((P.length + 63) / 64) cb))
  refine bodyPost_ret (v := .tuple #[.agg #[.int .i64 P.length, .slice ab ((P.length + 63) / 64) cb], .bool T.isSome]) (by simp [results, Tryz.results162, go_sem, q0, q1]) rfl ⟨.agg #[.int .i64 P.length, .slice ab ((P.length + 63) / 64) cb], ?_, ?_, HB5.out⟩
  ·rfl
  ·exact HVB.out.set2 HR.out _ _
set_option maxHeartbeats 8000000 in
theorem loofnone_calls {okA okB : Nat → Prop} (uA uB : Value) (A B : VV) (w : World) (hA : IsV w okA uA A) (hB' : IsV w okB uB B) :
  Calls Tryz.prog 161 #[.agg #[uA], .agg #[uB]] w fun e w' => ∃ u, e = .returned (.tuple #[.agg #[u], .int .i64 (if A.cls = 0 ∧ B.cls = 0 then 0 else 24)]) ∧ IsV w' (fun _ => True) u (if A.cls = 0 ∧ B.cls = 0 then .bits [] else .none) ∧ Below w.heap.size w w' := by
 have hsa := hA.store
 have hsb := hB'.store
 obtain ⟨W1, hW1⟩ : ∃ W1, W1 = ((w.alloc (.cells #[uA] 25)).alloc (.cells #[uB] 25)).alloc (.cells #[.nilIface] 25) := ⟨_, rfl⟩
 have HB := Lib.hid (show Below w.heap.size w W1 by rw [hW1]; exact ((below_new _ _).alloc (by simp) _).alloc (by simp; omega) _)
 have HA := Lib.hid (show At1 W1 w.heap.size uA by rw [hW1]; exact ((At1.new w _ _).below (below_new _ _)).below ((below_new _ _).mono (by simp)))
 have HB2 := Lib.hid (show At1 W1 (w.heap.size + 1) uB by rw [hW1]; have := (At1.new (w.alloc (.cells #[uA] 25)) uB 25).below (below_new _ (.cells #[.nilIface] 25)); simpa using this)
 have HR := Lib.hid (show At1 W1 (w.heap.size + 1 + 1) .nilIface by rw [hW1]; have := At1.new ((w.alloc (.cells #[uA] 25)).alloc (.cells #[uB] 25)) .nilIface 25; simpa using this)
 have HU := Lib.hid (show IsV W1 okA uA A from hA.grow HB.out)
 have HU2 := Lib.hid (show IsV W1 okB uB B from hB'.grow HB.out)
 obtain ⟨E, hE⟩ : ∃ E : Int, E = if A.cls = 0 ∧ B.cls = 0 then 0 else 24 := ⟨_, rfl⟩
 obtain ⟨R, hR⟩ : ∃ R : VV, R = if A.cls = 0 ∧ B.cls = 0 then .bits [] else .none := ⟨_, rfl⟩
 rw [← hE, ← hR]
 have HE := Lib.hid hE; have HRV := Lib.hid hR
 have hfold := hW1.symm
 clear hA hB' hW1 hE hR
 have cHA0 := HA.out.2.1; have cHB20 := HB2.out.2.1; have cHR0 := HR.out.2.1; have zHR0 := HR.out.2.2 0
 go_enter Tryz.func161, Tryz.ntmps161
 go_wp2_with fail
 clear hfold
 by_cases hc : A.cls = 0
 rotate_left
 ·have hcb : (A.cls != 0) = true := by simpa using hc
  have HC := Lib.hid hc; clear hc
  refine (class_calls _ A _ HU.out).mono ?_
  rintro e W11 ⟨rfl, hB⟩
  clear cHA0 cHB20 cHR0 zHR0; replace HA := HA.go hB; replace HB2 := HB2.go hB; replace HR := HR.go hB; replace HB := cb hB HB; replace HU := HU.go hB; replace HU2 := HU2.go hB; clear hB; have cHA0 := HA.out.2.1; have cHB20 := HB2.out.2.1; have cHR0 := HR.out.2.1; have zHR0 := HR.out.2.2 0
  have HN := Lib.hid (show ¬ (A.cls = 0 ∧ B.cls = 0) from fun h => HC.out h.1)
  go_wp2_with fail
  refine bodyPost_ret (v := .tuple #[.agg #[.nilIface], .int .i64 24]) (by simp [results, Tryz.results161, go_sem, cHR0]) rfl ⟨.nilIface, by rw [HE.out, if_neg HN.out], ?_, HB.out.setCell (by show w.heap.size ≤ w.heap.size + 1 + 1; omega) _⟩
  rw [HRV.out, if_neg HN.out]; exact .none
 have HCA := Lib.hid hc
 refine (class_calls _ A _ HU.out).mono ?_
 rintro e W11 ⟨rfl, hB⟩
 clear cHA0 cHB20 cHR0 zHR0; replace HA := HA.go hB; replace HB2 := HB2.go hB; replace HR := HR.go hB; replace HB := cb hB HB; replace HU := HU.go hB; replace HU2 := HU2.go hB; rw [hc]; clear hc; clear hB; have cHA0 := HA.out.2.1; have cHB20 := HB2.out.2.1; have cHR0 := HR.out.2.1; have zHR0 := HR.out.2.2 0
 go_wp2_with fail
 by_cases hc : B.cls = 0
 rotate_left
 ·have hcb : (B.cls != 0) = true := by simpa using hc
  have HC := Lib.hid hc; clear hc
  refine (class_calls _ B _ HU2.out).mono ?_
  rintro e W12 ⟨rfl, hB⟩
  clear cHA0 cHB20 cHR0 zHR0; replace HA := HA.go hB; replace HB2 := HB2.go hB; replace HR := HR.go hB; replace HB := cb hB HB; replace HU := HU.go hB; replace HU2 := HU2.go hB; clear hB; have cHA0 := HA.out.2.1; have cHB20 := HB2.out.2.1; have cHR0 := HR.out.2.1; have zHR0 := HR.out.2.2 0
  have HN := Lib.hid (show ¬ (A.cls = 0 ∧ B.cls = 0) from fun h => HC.out h.2)
  go_wp2_with fail
  refine bodyPost_ret (v := .tuple #[.agg #[.nilIface], .int .i64 24]) (by simp [results, Tryz.results161, go_sem, cHR0]) rfl ⟨.nilIface, by rw [HE.out, if_neg HN.out], ?_, HB.out.setCell (by show w.heap.size ≤ w.heap.size + 1 + 1; omega) _⟩
  rw [HRV.out, if_neg HN.out]; exact .none
 have HCB := Lib.hid hc
 refine (class_calls _ B _ HU2.out).mono ?_
 rintro e W12 ⟨rfl, hB⟩
 clear cHA0 cHB20 cHR0 zHR0; replace HA := HA.go hB; replace HB2 := HB2.go hB; replace HR := HR.go hB; replace HB := cb hB HB; replace HU := HU.go hB; replace HU2 := HU2.go hB; rw [hc]; clear hc; clear hB; have cHA0 := HA.out.2.1; have cHB20 := HB2.out.2.1; have cHR0 := HR.out.2.1; have zHR0 := HR.out.2.2 0
 go_wp2_with fail
 refine (vnone_calls 0 _).mono ?_
 rintro e W13 ⟨ub, rfl, hub, hB⟩
 clear cHA0 cHB20 cHR0 zHR0; replace HA := HA.go hB; replace HB2 := HB2.go hB; replace HR := HR.go hB; replace HB := cb hB HB; replace HU := HU.go hB; replace HU2 := HU2.go hB
 have HUB := Lib.hid (show IsV W13 (fun _ => True) ub (.bits []) from hub.any)
 have hsu := HUB.out.store; clear hub; clear hB; have cHA0 := HA.out.2.1; have cHB20 := HB2.out.2.1; have cHR0 := HR.out.2.1; have zHR0 := HR.out.2.2 0
 go_wp2_with fail
 refine bodyPost_ret (v := .tuple #[.agg #[ub], .int .i64 0]) (by simp [results, Tryz.results161, go_sem, cHR0]) rfl ⟨ub, by rw [HE.out, if_pos ⟨HCA.out, HCB.out⟩], ?_, HB.out.setCell (by show w.heap.size ≤ w.heap.size + 1 + 1; omega) _⟩
 rw [HRV.out, if_pos ⟨HCA.out, HCB.out⟩]; exact HUB.out.bits_set HR.out.2.1 (.inl rfl) _
end Go.Proofs.YtbacchbcanlciaaGreatDoor

namespace Go.Proofs.YtbacchbcanlciaaGreatDoor
set_option maxRecDepth 100000
open Go.RowKit Fl
set_option linter.unusedVariables false

set_option maxHeartbeats 8000000 in
theorem loapply_calls {okA okB : Nat → Prop} (f : Int) (uA uB : Value) (A B : VV) (w : World) (hA : IsV w okA uA A) (hB' : IsV w okB uB B) (oA : A.ok) (oB : B.ok) (nA : A.nm) (nB : B.nm) (hT : TabAt w) :
  Calls Tryz.prog 127 #[.int .i64 f, .agg #[uA], .agg #[uB]] w fun e w' => ∃ u, e = .returned (.tuple #[.agg #[u], .int .i64 (loE f A B)]) ∧ IsV w' (fun _ => True) u (loV f A B) ∧ Below w.heap.size w w' := by
 have hsa := hA.store
 have hsb := hB'.store
 obtain ⟨W1, hW1⟩ : ∃ W1, W1 = ((w.alloc (.cells #[uA] 25)).alloc (.cells #[uB] 25)).alloc (.cells #[.nilIface] 25) := ⟨_, rfl⟩
 have HB := Lib.hid (show Below w.heap.size w W1 by rw [hW1]; exact ((below_new _ _).alloc (by simp) _).alloc (by simp; omega) _)
 have HA := Lib.hid (show At1 W1 w.heap.size uA by rw [hW1]; exact ((At1.new w _ _).below (below_new _ _)).below ((below_new _ _).mono (by simp)))
 have HB2 := Lib.hid (show At1 W1 (w.heap.size + 1) uB by rw [hW1]; have := (At1.new (w.alloc (.cells #[uA] 25)) uB 25).below (below_new _ (.cells #[.nilIface] 25)); simpa using this)
 have HR := Lib.hid (show At1 W1 (w.heap.size + 1 + 1) .nilIface by rw [hW1]; have := At1.new ((w.alloc (.cells #[uA] 25)).alloc (.cells #[uB] 25)) .nilIface 25; simpa using this)
 have HU := Lib.hid (show IsV W1 okA uA A from hA.grow HB.out)
 have HU2 := Lib.hid (show IsV W1 okB uB B from hB'.grow HB.out)
 have HT := Lib.hid (show TabAt W1 from fun j hj => keep_below HB.out _ _ (hT j hj))
 have HOA := Lib.hid oA; have HOB := Lib.hid oB; have HNA := Lib.hid nA; have HNB := Lib.hid nB
 obtain ⟨R, hRR⟩ : ∃ R, R = loV f A B := ⟨_, rfl⟩
 obtain ⟨E, hEE⟩ : ∃ E, E = loE f A B := ⟨_, rfl⟩
 rw [← hRR, ← hEE]
 have HRR := Lib.hid hRR; have HEE := Lib.hid hEE
 have hfold := hW1.symm
 clear hA hB' hT oA oB nA nB hW1 hRR hEE
 have cHA0 := HA.out.2.1; have cHB20 := HB2.out.2.1; have cHR0 := HR.out.2.1; have zHR0 := HR.out.2.2 0
 by_cases hf : 21 ≤ f ∧ f ≤ 24
 rotate_left
 ·have HD := Lib.hid (decide_eq_false hf)
  have HE0 := Lib.hid (loE_1 (A := A) (B := B) hf)
  have HR0 := Lib.hid (show R = .none by rw [HRR.out]; exact loV_none (by rw [HE0.out]; decide))
  clear hf
  go_enter Tryz.func127, Tryz.ntmps127
  go_wp2_with (refine (loknown_calls _ _).mono ?_; rintro e w' ⟨rfl, rfl⟩; rw [HD.out])
  refine bodyPost_ret (v := .tuple #[.agg #[.nilIface], .int .i64 1]) (by simp [results, Tryz.results127, go_sem, cHR0]) rfl ⟨.nilIface, by rw [HEE.out, HE0.out], ?_, HB.out.setCell (by show w.heap.size ≤ w.heap.size + 1 + 1; omega) _⟩
  rw [HR0.out]; exact .none
 have HD := Lib.hid (decide_eq_true hf)
 have HF := Lib.hid hf; clear hf
 go_enter Tryz.func127, Tryz.ntmps127
 go_wp2_with (refine (loknown_calls _ _).mono ?_; rintro e w' ⟨rfl, rfl⟩; rw [HD.out])
 clear hfold
 by_cases hg : goesA A.len B.len
 rotate_left
 ·have HG := Lib.hid hg; clear hg; clear cHA0 cHB20 cHR0 zHR0
  obtain ⟨W11, hWD, hB⟩ := drwn W1
  replace HA := HA.go hB; replace HB2 := HB2.go hB; replace HR := HR.go hB; replace HB := cb hB HB; replace HU := HU.go hB; replace HU2 := HU2.go hB; replace HT := HT.go hB; clear hB
  refine rgn (S := fun w' => w'.cell? ⟨w.heap.size, 0, none⟩ = some uA ∧ w'.cell? ⟨w.heap.size + 1, 0, none⟩ = some uB) hWD ⟨HA.out.2.1, HB2.out.2.1⟩ (fun hHeld => ?_)
  clear hWD; apply tk 0; apply tk 2
  apply rdy 1; intro K hK; clear hHeld; go_simp
  refine (vlen_calls _ A _ HU.out).mono ?_
  rintro e W12 ⟨rfl, hB⟩
  replace HA := HA.go hB; replace HB2 := HB2.go hB; replace HR := HR.go hB; replace HB := cb hB HB; replace HU := HU.go hB; replace HU2 := HU2.go hB; replace HT := HT.go hB; clear hB
  refine hK.out _ _ ⟨HA.out.2.1, HB2.out.2.1⟩ (fun hHeld => ?_)
  clear hK K
  apply rdy 3; intro K hK; clear hHeld; go_simp
  refine (vlen_calls _ B _ HU2.out).mono ?_
  rintro e W13 ⟨rfl, hB⟩
  replace HA := HA.go hB; replace HB2 := HB2.go hB; replace HR := HR.go hB; replace HB := cb hB HB; replace HU := HU.go hB; replace HU2 := HU2.go hB; replace HT := HT.go hB; clear hB
  refine hK.out _ _ ⟨HA.out.2.1, HB2.out.2.1⟩ (fun hHeld => ?_)
  clear hK K
  apply rdy 4; intro K hK; clear hHeld; go_simp
  refine (alen_no A.len B.len _ HG.out).mono ?_
  rintro e w' ⟨rfl, rfl⟩
  refine hK.out _ _ ⟨HA.out.2.1, HB2.out.2.1⟩ (fun hHeld => ?_)
  clear hK K; apply tk 5; apply tk 6; apply tk 7; apply tk 8; apply tk 9
  refine wpAnyH_done (by kernel_rfl) ?_ _
  clear hHeld; have cHA0 := HA.out.2.1; have cHB20 := HB2.out.2.1; have cHR0 := HR.out.2.1; have zHR0 := HR.out.2.2 0
  have HE0 := Lib.hid (loE_23 HF.out HG.out)
  have HR0 := Lib.hid (show R = .none by rw [HRR.out]; exact loV_none (by rw [HE0.out]; decide))
  go_wp2_with fail
  refine bodyPost_ret (v := .tuple #[.agg #[.nilIface], .int .i64 23]) (by simp [results, Tryz.results127, go_sem, cHR0]) rfl ⟨.nilIface, by rw [HEE.out, HE0.out], ?_, HB.out.setCell (by show w.heap.size ≤ w.heap.size + 1 + 1; omega) _⟩
  rw [HR0.out]; exact .none
 ·have HG := Lib.hid hg; clear hg
  obtain ⟨n, hn⟩ : ∃ n, lenN A.len B.len = n := ⟨_, rfl⟩
  have HN := Lib.hid hn
  have HNL := Lib.hid (show n ≤ 1048576 by rw [← hn]; exact lenN_le (VV.ok_len HOA.out) (VV.ok_len HOB.out))
  clear hn; clear cHA0 cHB20 cHR0 zHR0
  obtain ⟨W11, hWD, hB⟩ := drwn W1
  replace HA := HA.go hB; replace HB2 := HB2.go hB; replace HR := HR.go hB; replace HB := cb hB HB; replace HU := HU.go hB; replace HU2 := HU2.go hB; replace HT := HT.go hB; clear hB
  refine rgn (S := fun w' => w'.cell? ⟨w.heap.size, 0, none⟩ = some uA ∧ w'.cell? ⟨w.heap.size + 1, 0, none⟩ = some uB) hWD ⟨HA.out.2.1, HB2.out.2.1⟩ (fun hHeld => ?_)
  clear hWD; apply tk 0; apply tk 2
  apply rdy 1; intro K hK; clear hHeld; go_simp
  refine (vlen_calls _ A _ HU.out).mono ?_
  rintro e W12 ⟨rfl, hB⟩
  replace HA := HA.go hB; replace HB2 := HB2.go hB; replace HR := HR.go hB; replace HB := cb hB HB; replace HU := HU.go hB; replace HU2 := HU2.go hB; replace HT := HT.go hB; clear hB
  refine hK.out _ _ ⟨HA.out.2.1, HB2.out.2.1⟩ (fun hHeld => ?_)
  clear hK K
  apply rdy 3; intro K hK; clear hHeld; go_simp
  refine (vlen_calls _ B _ HU2.out).mono ?_
  rintro e W13 ⟨rfl, hB⟩
  replace HA := HA.go hB; replace HB2 := HB2.go hB; replace HR := HR.go hB; replace HB := cb hB HB; replace HU := HU.go hB; replace HU2 := HU2.go hB; replace HT := HT.go hB; clear hB
  refine hK.out _ _ ⟨HA.out.2.1, HB2.out.2.1⟩ (fun hHeld => ?_)
  clear hK K
  apply rdy 4; intro K hK; clear hHeld; go_simp
  refine (alen_yes A.len B.len _ HG.out).mono ?_
  rintro e w' ⟨rfl, rfl⟩
  rw [HN.out]
  refine hK.out _ _ ⟨HA.out.2.1, HB2.out.2.1⟩ (fun hHeld => ?_)
  clear hK K; apply tk 5; apply tk 6; apply tk 7; apply tk 8; apply tk 9
  refine wpAnyH_done (by kernel_rfl) ?_ _
  clear hHeld; have cHA0 := HA.out.2.1; have cHB20 := HB2.out.2.1; have cHR0 := HR.out.2.1; have zHR0 := HR.out.2.2 0
  by_cases h0 : n = 0
  ·subst h0
   go_wp2_with fail
   refine (loofnone_calls _ _ A B _ HU.out HU2.out).mono ?_
   rintro e W14 ⟨ub, rfl, hub, hB⟩
   clear cHA0 cHB20 cHR0 zHR0; replace HA := HA.go hB; replace HB2 := HB2.go hB; replace HR := HR.go hB; replace HB := cb hB HB; replace HU := HU.go hB; replace HU2 := HU2.go hB; replace HT := HT.go hB
   have HUB := Lib.hid (show IsV W14 (fun _ => True) ub R by
    rw [HRR.out]
    by_cases hc : A.cls = 0 ∧ B.cls = 0
    ·rw [if_pos hc] at hub
     rw [loV_yes (loE_z0 HF.out HG.out HN.out hc), HN.out, loL_zero]; exact hub
    ·rw [if_neg hc] at hub
     rw [loV_none (by rw [loE_z24 HF.out HG.out HN.out hc]; decide)]; exact hub)
   have HE0 := Lib.hid (show (if A.cls = 0 ∧ B.cls = 0 then 0 else 24 : Int) = E by
    rw [HEE.out]
    by_cases hc : A.cls = 0 ∧ B.cls = 0
    ·rw [if_pos hc, loE_z0 HF.out HG.out HN.out hc]
    ·rw [if_neg hc, loE_z24 HF.out HG.out HN.out hc])
   rw [HE0.out]; have hsu := hub.store; clear hub; clear hB; have cHA0 := HA.out.2.1; have cHB20 := HB2.out.2.1; have cHR0 := HR.out.2.1; have zHR0 := HR.out.2.2 0
   go_wp2_with fail
   refine bodyPost_ret (v := .tuple #[.agg #[ub], .int .i64 E]) (by simp [results, Tryz.results127, go_sem, cHR0]) rfl ⟨ub, rfl, ?_, HB.out.setCell (by show w.heap.size ≤ w.heap.size + 1 + 1; omega) _⟩
   have HRS := HUB.out
   by_cases hE : loE f A B = 0
   ·rw [HRR.out, loV_yes hE] at HRS ⊢
    exact HRS.bits_set HR.out.2.1 (.inl rfl) _
   ·rw [HRR.out, loV_none hE] at HRS ⊢
    cases HRS; exact .none
  have hnb : ((n : Int) == 0) = false := by rw [beq_eq_false_iff_ne]; omega
  have HNZ := Lib.hid h0; clear h0
  go_wp2_with fail
  obtain ⟨TA, hTA⟩ : ∃ T, A.tru = T := ⟨_, rfl⟩
  obtain ⟨TB, hTB⟩ : ∃ T, B.tru = T := ⟨_, rfl⟩
  have HTA := Lib.hid hTA; have HTB := Lib.hid hTB; clear hTA hTB
  refine (lotruths_calls _ A _ HU.out HOA.out HNA.out HT.out).mono ?_
  rintro e W14 ⟨vx, rfl, hvx, hB⟩
  clear cHA0 cHB20 cHR0 zHR0; replace HA := HA.go hB; replace HB2 := HB2.go hB; replace HR := HR.go hB; replace HB := cb hB HB; replace HU := HU.go hB; replace HU2 := HU2.go hB; replace HT := HT.go hB; rw [HTA.out]; have Hvx := Lib.hid hvx
  obtain ⟨ax, cx, rfl, hcx⟩ := hvx.opened
  clear hvx hcx; clear hB
  obtain ⟨W15, hWn, hB, hNB⟩ := ahd2 W14 (.int .i64 A.tr.length) (.slice ax ((A.tr.length + 63) / 64) cx) 63
  replace HA := HA.go hB; replace HB2 := HB2.go hB; replace HR := HR.go hB; replace HB := cb hB HB; replace HU := HU.go hB; replace HU2 := HU2.go hB; replace HT := HT.go hB; replace Hvx := Hvx.go hB; have Hx := Lib.hid hNB; clear hNB hB; have cHA0 := HA.out.2.1; have cHB20 := HB2.out.2.1; have cHR0 := HR.out.2.1; have zHR0 := HR.out.2.2 0; have cHx0 := Hx.out.2.1; have cHx1 := Hx.out.2.2.1
  go_wp2_with fail
  clear hWn
  cases TA with
  | none =>
   have HE0 := Lib.hid (loE_24 HF.out HG.out (by rw [HN.out]; exact HNZ.out) (fun h => by rw [HTA.out] at h; cases h.1))
   have HR0 := Lib.hid (show R = .none by rw [HRR.out]; exact loV_none (by rw [HE0.out]; decide))
   refine (lotruths_calls _ B _ HU2.out HOB.out HNB.out HT.out).mono ?_
   rintro e W16 ⟨vy, rfl, hvy, hB⟩
   clear cHA0 cHB20 cHR0 zHR0 cHx0 cHx1; replace HA := HA.go hB; replace HB2 := HB2.go hB; replace HR := HR.go hB; replace HB := cb hB HB; replace HU := HU.go hB; replace HU2 := HU2.go hB; replace HT := HT.go hB; replace Hvx := Hvx.go hB; replace Hx := Hx.go hB; rw [HTB.out]; have Hvy := Lib.hid hvy
   obtain ⟨ay, cy, rfl, hcy⟩ := hvy.opened
   clear hvy hcy; clear hB
   obtain ⟨W17, hWn, hB, hNB⟩ := ahd2 W16 (.int .i64 B.tr.length) (.slice ay ((B.tr.length + 63) / 64) cy) 63
   replace HA := HA.go hB; replace HB2 := HB2.go hB; replace HR := HR.go hB; replace HB := cb hB HB; replace HU := HU.go hB; replace HU2 := HU2.go hB; replace HT := HT.go hB; replace Hvx := Hvx.go hB; replace Hx := Hx.go hB; replace Hvy := Hvy.go hB; have Hy := Lib.hid hNB; clear hNB hB; have cHA0 := HA.out.2.1; have cHB20 := HB2.out.2.1; have cHR0 := HR.out.2.1; have zHR0 := HR.out.2.2 0; have cHx0 := Hx.out.2.1
   have cHx1 := Hx.out.2.2.1; have cHy0 := Hy.out.2.1; have cHy1 := Hy.out.2.2.1
   go_wp2_with fail
   clear hWn
   refine bodyPost_ret (v := .tuple #[.agg #[.nilIface], .int .i64 24]) (by simp [results, Tryz.results127, go_sem, cHR0]) rfl ⟨.nilIface, by rw [HEE.out, HE0.out], ?_, HB.out.setCell (by show w.heap.size ≤ w.heap.size + 1 + 1; omega) _⟩
   rw [HR0.out]; exact .none
  | some x =>
  cases TB with
  | none =>
   have HE0 := Lib.hid (loE_24 HF.out HG.out (by rw [HN.out]; exact HNZ.out) (fun h => by rw [HTB.out] at h; cases h.2))
   have HR0 := Lib.hid (show R = .none by rw [HRR.out]; exact loV_none (by rw [HE0.out]; decide))
   refine (lotruths_calls _ B _ HU2.out HOB.out HNB.out HT.out).mono ?_
   rintro e W16 ⟨vy, rfl, hvy, hB⟩
   clear cHA0 cHB20 cHR0 zHR0 cHx0 cHx1; replace HA := HA.go hB; replace HB2 := HB2.go hB; replace HR := HR.go hB; replace HB := cb hB HB; replace HU := HU.go hB; replace HU2 := HU2.go hB; replace HT := HT.go hB; replace Hvx := Hvx.go hB; replace Hx := Hx.go hB; rw [HTB.out]; have Hvy := Lib.hid hvy
   obtain ⟨ay, cy, rfl, hcy⟩ := hvy.opened
   clear hvy hcy; clear hB
   obtain ⟨W17, hWn, hB, hNB⟩ := ahd2 W16 (.int .i64 B.tr.length) (.slice ay ((B.tr.length + 63) / 64) cy) 63
   replace HA := HA.go hB; replace HB2 := HB2.go hB; replace HR := HR.go hB; replace HB := cb hB HB; replace HU := HU.go hB; replace HU2 := HU2.go hB; replace HT := HT.go hB; replace Hvx := Hvx.go hB; replace Hx := Hx.go hB; replace Hvy := Hvy.go hB; have Hy := Lib.hid hNB; clear hNB hB; have cHA0 := HA.out.2.1; have cHB20 := HB2.out.2.1; have cHR0 := HR.out.2.1; have zHR0 := HR.out.2.2 0; have cHx0 := Hx.out.2.1
   have cHx1 := Hx.out.2.2.1; have cHy0 := Hy.out.2.1; have cHy1 := Hy.out.2.2.1
   go_wp2_with fail
   clear hWn
   refine bodyPost_ret (v := .tuple #[.agg #[.nilIface], .int .i64 24]) (by simp [results, Tryz.results127, go_sem, cHR0]) rfl ⟨.nilIface, by rw [HEE.out, HE0.out], ?_, HB.out.setCell (by show w.heap.size ≤ w.heap.size + 1 + 1; omega) _⟩
   rw [HR0.out]; exact .none
  | some y =>
  have HE0 := Lib.hid (loE_0 HF.out HG.out (by rw [HN.out]; exact HNZ.out) (by rw [HTA.out, HTB.out]; exact ⟨rfl, rfl⟩))
  have HXL := Lib.hid (show A.tr.length = A.len by rw [VV.tr_of HTA.out]; exact VV.tru_len HTA.out)
  have HYL := Lib.hid (show B.tr.length = B.len by rw [VV.tr_of HTB.out]; exact VV.tru_len HTB.out)
  obtain ⟨Z, hZ⟩ : ∃ Z, loL f A B n = Z := ⟨_, rfl⟩
  have HZP := Lib.hid ((zip_log f HF.out A.tr B.tr n).trans hZ)
  have HZL := Lib.hid (show Z.length = n by rw [← hZ]; exact loL_len _ _ _ _)
  have HR0 := Lib.hid (show R = .bits Z by rw [HRR.out, loV_yes HE0.out, HN.out, hZ])
  have HXN := Lib.hid (show (A.tr.length = 1 ∨ A.tr.length = n) ∧ (B.tr.length = 1 ∨ B.tr.length = n) by rw [HXL.out, HYL.out, ← HN.out]; have := HG.out; unfold lenN; rcases this with h | h | h <;> split <;> omega)
  have HLX := Lib.hid (show A.tr.length ≤ 1048576 by rw [HXL.out]; exact VV.ok_len HOA.out)
  have HLY := Lib.hid (show B.tr.length ≤ 1048576 by rw [HYL.out]; exact VV.ok_len HOB.out)
  clear hZ
  refine (lotruths_calls _ B _ HU2.out HOB.out HNB.out HT.out).mono ?_
  rintro e W16 ⟨vy, rfl, hvy, hB⟩
  clear cHA0 cHB20 cHR0 zHR0 cHx0 cHx1; replace HA := HA.go hB; replace HB2 := HB2.go hB; replace HR := HR.go hB; replace HB := cb hB HB; replace HU := HU.go hB; replace HU2 := HU2.go hB; replace HT := HT.go hB; replace Hvx := Hvx.go hB; replace Hx := Hx.go hB; rw [HTB.out]; have Hvy := Lib.hid hvy
  obtain ⟨ay, cy, rfl, hcy⟩ := hvy.opened
  clear hvy hcy; clear hB
  obtain ⟨W17, hWn, hB, hNB⟩ := ahd2 W16 (.int .i64 B.tr.length) (.slice ay ((B.tr.length + 63) / 64) cy) 63
  replace HA := HA.go hB; replace HB2 := HB2.go hB; replace HR := HR.go hB; replace HB := cb hB HB; replace HU := HU.go hB; replace HU2 := HU2.go hB; replace HT := HT.go hB; replace Hvx := Hvx.go hB; replace Hx := Hx.go hB; replace Hvy := Hvy.go hB; have Hy := Lib.hid hNB; clear hNB hB; have cHA0 := HA.out.2.1; have cHB20 := HB2.out.2.1; have cHR0 := HR.out.2.1; have zHR0 := HR.out.2.2 0; have cHx0 := Hx.out.2.1
  have cHx1 := Hx.out.2.2.1; have cHy0 := Hy.out.2.1; have cHy1 := Hy.out.2.2.1
  go_wp2_with fail
  clear hWn; clear cHA0 cHB20 cHR0 zHR0 cHx0 cHx1 cHy0 cHy1
  obtain ⟨W18, hWD, hB⟩ := drwn W17
  replace HA := HA.go hB; replace HB2 := HB2.go hB; replace HR := HR.go hB; replace HB := cb hB HB; replace HU := HU.go hB; replace HU2 := HU2.go hB; replace HT := HT.go hB; replace Hvx := Hvx.go hB; replace Hx := Hx.go hB; replace Hvy := Hvy.go hB; replace Hy := Hy.go hB; clear hB
  refine rgn (S := fun w' => w'.cell? ⟨W14.heap.size, 0, none⟩ = some (.int .i64 A.tr.length) ∧ w'.cell? ⟨W14.heap.size, 1, none⟩ = some (.slice ax ((A.tr.length + 63) / 64) cx) ∧ w'.cell? ⟨W16.heap.size, 0, none⟩ = some (.int .i64 B.tr.length) ∧ w'.cell? ⟨W16.heap.size, 1, none⟩ = some (.slice ay ((B.tr.length + 63) / 64) cy)) hWD ⟨Hx.out.2.1, Hx.out.2.2.1, Hy.out.2.1, Hy.out.2.2.1⟩ (fun hHeld => ?_)
  clear hWD; apply tk 0; apply tk 2; apply tk 3; apply tk 5; apply tk 6
  refine wpAnyH_ready (rs := [1, 12]) (by kernel_rfl) (by simp) ?_
  refine AllReadyH.cons (o := _) rfl (fun K hK => ?_) ?_
  ·clear hHeld; go_simp
   refine (lotable_calls f _ HF.out).mono ?_
   rintro e w' ⟨rfl, rfl⟩
   refine hK.out _ _ ⟨Hx.out.2.1, Hx.out.2.2.1, Hy.out.2.1, Hy.out.2.2.1⟩ (fun hHeld => ?_)
   clear hK K
   refine wpAnyH_ready (rs := [4, 12]) (by kernel_rfl) (by simp) ?_
   refine AllReadyH.cons (o := _) rfl (fun K hK => ?_) ?_
   ·clear hHeld; go_simp
    refine (lospread_calls _ A.tr n _ Hvx.out HLX.out HNL.out HXN.out.1).mono ?_
    rintro e W19 ⟨va, rfl, hva, hB⟩
    replace HA := HA.go hB; replace HB2 := HB2.go hB; replace HR := HR.go hB; replace HB := cb hB HB; replace HU := HU.go hB; replace HU2 := HU2.go hB; replace HT := HT.go hB; replace Hvx := Hvx.go hB; replace Hx := Hx.go hB; replace Hvy := Hvy.go hB; replace Hy := Hy.go hB; have Hva := Lib.hid hva; clear hva; clear hB
    refine hK.out _ _ ⟨Hx.out.2.1, Hx.out.2.2.1, Hy.out.2.1, Hy.out.2.2.1⟩ (fun hHeld => ?_)
    clear hK K
    refine wpAnyH_ready (rs := [7, 12]) (by kernel_rfl) (by simp) ?_
    refine AllReadyH.cons (o := _) rfl (fun K hK => ?_) ?_
    ·clear hHeld; go_simp
     refine (lospread_calls _ B.tr n _ Hvy.out HLY.out HNL.out HXN.out.2).mono ?_
     rintro e W20 ⟨vb, rfl, hvb, hB⟩
     replace HA := HA.go hB; replace HB2 := HB2.go hB; replace HR := HR.go hB; replace HB := cb hB HB; replace HU := HU.go hB; replace HU2 := HU2.go hB; replace HT := HT.go hB; replace Hvx := Hvx.go hB; replace Hx := Hx.go hB; replace Hvy := Hvy.go hB; replace Hy := Hy.go hB; replace Hva := Hva.go hB; have Hvb := Lib.hid hvb; clear hvb; clear hB
     refine hK.out _ _ ⟨Hx.out.2.1, Hx.out.2.2.1, Hy.out.2.1, Hy.out.2.2.1⟩ (fun hHeld => ?_)
     clear hK K
     refine wpAnyH_ready (rs := [8, 12]) (by kernel_rfl) (by simp) ?_
     refine AllReadyH.cons (o := _) rfl (fun K hK => ?_) ?_
     ·clear hHeld; go_simp
      refine (truth_yes (tabL f 4) (tabL_lt f) _ _ _ _ _ Hva.out Hvb.out (by simp) (by simpa using HNL.out)).mono ?_
      rintro e W21 ⟨vz, rfl, hvz, hB⟩
      replace HA := HA.go hB; replace HB2 := HB2.go hB; replace HR := HR.go hB; replace HB := cb hB HB; replace HU := HU.go hB; replace HU2 := HU2.go hB; replace HT := HT.go hB; replace Hvx := Hvx.go hB; replace Hx := Hx.go hB; replace Hvy := Hvy.go hB; replace Hy := Hy.go hB; replace Hva := Hva.go hB; replace Hvb := Hvb.go hB
      rw [HZP.out] at hvz
      have Hvz := Lib.hid hvz
      obtain ⟨az, cz, rfl, hcz⟩ := hvz.opened
      rw [HZL.out] at Hvz ⊢
      clear hvz hcz; clear hB
      refine hK.out _ _ ⟨Hx.out.2.1, Hx.out.2.2.1, Hy.out.2.1, Hy.out.2.2.1⟩ (fun hHeld => ?_)
      clear hK K; apply tk 9; apply tk 10; apply tk 11
      apply rdy 12; intro K hK; clear hHeld; go_simp
      obtain ⟨W22, hWn, hB, hNB⟩ := ahd2 W21 (.int .i64 0) (.slice none 0 0) 63
      rw [hWn]; clear hWn
      obtain ⟨zb, hnm⟩ : ∃ x, W21.heap.size = x := ⟨_, rfl⟩
      rw [hnm] at hNB ⊢
      have HNE := Lib.hid (show w.heap.size + 1 + 1 < zb by rw [← hnm]; exact HR.out.1)
      have HNX := Lib.hid (show W14.heap.size < zb by rw [← hnm]; exact Hx.out.1)
      have HNY := Lib.hid (show W16.heap.size < zb by rw [← hnm]; exact Hy.out.1)
      replace HA := HA.go hB; replace HB2 := HB2.go hB; replace HR := HR.go hB; replace HB := cb hB HB; replace HU := HU.go hB; replace HU2 := HU2.go hB; replace HT := HT.go hB; replace Hvx := Hvx.go hB; replace Hx := Hx.go hB; replace Hvy := Hvy.go hB; replace Hy := Hy.go hB; replace Hva := Hva.go hB; replace Hvb := Hvb.go hB; replace Hvz := Hvz.go hB; have HZ := Lib.hid hNB; clear hNB hB hnm
      refine hK.out _ _ ⟨Hx.out.2.1, Hx.out.2.2.1, Hy.out.2.1, Hy.out.2.2.1⟩ (fun hHeld => ?_)
      clear hK K
      apply rdy 13; intro K hK; clear hHeld
      obtain ⟨Wf, hWf⟩ : ∃ x, (W22.setCell ⟨zb, 0, none⟩ (.int .i64 n)).setCell ⟨zb, 1, none⟩ (.slice az ((n + 63) / 64) cz) = x := ⟨_, rfl⟩
      have HZF := Lib.hid (show At2 Wf zb (.int .i64 n) (.slice az ((n + 63) / 64) cz) by rw [← hWf]; exact at2_put HZ.out _ _)
      have HZR := Lib.hid (show IsBits Wf (.agg #[.int .i64 n, .slice az ((n + 63) / 64) cz]) Z by rw [← hWf]; exact Hvz.out.set2 HZ.out _ _)
      replace Hx := Lib.hid (show At2 Wf W14.heap.size _ _ by rw [← hWf]; exact Hx.out.ne (by have := HNX.out; have := HNY.out; omega) _ _)
      replace Hy := Lib.hid (show At2 Wf W16.heap.size _ _ by rw [← hWf]; exact Hy.out.ne (by have := HNX.out; have := HNY.out; omega) _ _)
      have HRF := Lib.hid (show At1 Wf (w.heap.size + 1 + 1) .nilIface by rw [← hWf]; exact (HR.out.grown (grown_setCell _ ⟨zb, 0, none⟩ _) (by have := HNE.out; simp; omega)).grown (grown_setCell _ ⟨zb, 1, none⟩ _) (by have := HNE.out; simp; omega))
      have HBF := Lib.hid (show Below w.heap.size w Wf by rw [← hWf]; exact below_setc HB.out (by have := HNE.out; omega) _ _)
      have cZ0 := HZ.out.2.1; have cZ1 := HZ.out.2.2.1; have zZ0 := HZ.out.2.2.2 0; have zZ1 := HZ.out.2.2.2 1; go_simp
      try rw [hWf]
      clear hWf cZ0 cZ1 zZ0 zZ1
      refine hK.out _ _ ⟨Hx.out.2.1, Hx.out.2.2.1, Hy.out.2.1, Hy.out.2.2.1⟩ (fun hHeld => ?_)
      clear hK K; apply tk 14
      refine wpAnyH_done (by kernel_rfl) ?_ _
      clear hHeld; have cF0 := HZF.out.2.1; have cF1 := HZF.out.2.2.1; have cHR0 := HRF.out.2.1; have zR0 := HRF.out.2.2 0
      go_wp2_with fail
      refine (vbits_calls _ _ _ HZR.out (by rw [HZL.out]; exact HNL.out)).mono ?_
      rintro e Wg ⟨ub, rfl, hub, hB⟩
      have HUB := Lib.hid hub.any; have hsu := HUB.out.store
      have HRG := Lib.hid (HRF.out.below hB)
      have HBG := Lib.hid (HBF.out.trans (hB.mono HBF.out.size))
      clear hub hB cHR0 zR0 cF0 cF1; have cHR0 := HRG.out.2.1; have zR0 := HRG.out.2.2 0
      go_wp2_with fail
      refine bodyPost_ret (v := .tuple #[.agg #[ub], .int .i64 0]) (by simp [results, Tryz.results127, go_sem, cHR0]) rfl ⟨ub, by rw [HEE.out, HE0.out], ?_, HBG.out.setCell (by show w.heap.size ≤ w.heap.size + 1 + 1; omega) _⟩
      rw [HR0.out]; exact HUB.out.bits_set HRG.out.2.1 (.inl rfl) _
     refine AllReadyH.cons (o := _) rfl (fun K hK => ?_) ?_
     ·clear hHeld; go_simp
      obtain ⟨W21, hWn, hB, hNB⟩ := ahd2 W20 (.int .i64 0) (.slice none 0 0) 63
      rw [hWn]; clear hWn
      obtain ⟨zb, hnm⟩ : ∃ x, W20.heap.size = x := ⟨_, rfl⟩
      rw [hnm] at hNB ⊢
      have HNE := Lib.hid (show w.heap.size + 1 + 1 < zb by rw [← hnm]; exact HR.out.1)
      have HNX := Lib.hid (show W14.heap.size < zb by rw [← hnm]; exact Hx.out.1)
      have HNY := Lib.hid (show W16.heap.size < zb by rw [← hnm]; exact Hy.out.1)
      replace HA := HA.go hB; replace HB2 := HB2.go hB; replace HR := HR.go hB; replace HB := cb hB HB; replace HU := HU.go hB; replace HU2 := HU2.go hB; replace HT := HT.go hB; replace Hvx := Hvx.go hB; replace Hx := Hx.go hB; replace Hvy := Hvy.go hB; replace Hy := Hy.go hB; replace Hva := Hva.go hB; replace Hvb := Hvb.go hB; have HZ := Lib.hid hNB; clear hNB hB hnm
      refine hK.out _ _ ⟨Hx.out.2.1, Hx.out.2.2.1, Hy.out.2.1, Hy.out.2.2.1⟩ (fun hHeld => ?_)
      clear hK K
      apply rdy 8; intro K hK; clear hHeld; go_simp
      refine (truth_yes (tabL f 4) (tabL_lt f) _ _ _ _ _ Hva.out Hvb.out (by simp) (by simpa using HNL.out)).mono ?_
      rintro e W22 ⟨vz, rfl, hvz, hB⟩
      replace HA := HA.go hB; replace HB2 := HB2.go hB; replace HR := HR.go hB; replace HB := cb hB HB; replace HU := HU.go hB; replace HU2 := HU2.go hB; replace HT := HT.go hB; replace Hvx := Hvx.go hB; replace Hx := Hx.go hB; replace Hvy := Hvy.go hB; replace Hy := Hy.go hB; replace Hva := Hva.go hB; replace Hvb := Hvb.go hB; replace HZ := HZ.go hB
      rw [HZP.out] at hvz
      have Hvz := Lib.hid hvz
      obtain ⟨az, cz, rfl, hcz⟩ := hvz.opened
      rw [HZL.out] at Hvz ⊢
      clear hvz hcz; clear hB
      refine hK.out _ _ ⟨Hx.out.2.1, Hx.out.2.2.1, Hy.out.2.1, Hy.out.2.2.1⟩ (fun hHeld => ?_)
      clear hK K; apply tk 9; apply tk 10; apply tk 11
      apply rdy 13; intro K hK; clear hHeld
      obtain ⟨Wf, hWf⟩ : ∃ x, (W22.setCell ⟨zb, 0, none⟩ (.int .i64 n)).setCell ⟨zb, 1, none⟩ (.slice az ((n + 63) / 64) cz) = x := ⟨_, rfl⟩
      have HZF := Lib.hid (show At2 Wf zb (.int .i64 n) (.slice az ((n + 63) / 64) cz) by rw [← hWf]; exact at2_put HZ.out _ _)
      have HZR := Lib.hid (show IsBits Wf (.agg #[.int .i64 n, .slice az ((n + 63) / 64) cz]) Z by rw [← hWf]; exact Hvz.out.set2 HZ.out _ _)
      replace Hx := Lib.hid (show At2 Wf W14.heap.size _ _ by rw [← hWf]; exact Hx.out.ne (by have := HNX.out; have := HNY.out; omega) _ _)
      replace Hy := Lib.hid (show At2 Wf W16.heap.size _ _ by rw [← hWf]; exact Hy.out.ne (by have := HNX.out; have := HNY.out; omega) _ _)
      have HRF := Lib.hid (show At1 Wf (w.heap.size + 1 + 1) .nilIface by rw [← hWf]; exact (HR.out.grown (grown_setCell _ ⟨zb, 0, none⟩ _) (by have := HNE.out; simp; omega)).grown (grown_setCell _ ⟨zb, 1, none⟩ _) (by have := HNE.out; simp; omega))
      have HBF := Lib.hid (show Below w.heap.size w Wf by rw [← hWf]; exact below_setc HB.out (by have := HNE.out; omega) _ _)
      have cZ0 := HZ.out.2.1; have cZ1 := HZ.out.2.2.1; have zZ0 := HZ.out.2.2.2 0; have zZ1 := HZ.out.2.2.2 1; go_simp
      try rw [hWf]
      clear hWf cZ0 cZ1 zZ0 zZ1
      refine hK.out _ _ ⟨Hx.out.2.1, Hx.out.2.2.1, Hy.out.2.1, Hy.out.2.2.1⟩ (fun hHeld => ?_)
      clear hK K; apply tk 14
      refine wpAnyH_done (by kernel_rfl) ?_ _
      clear hHeld; have cF0 := HZF.out.2.1; have cF1 := HZF.out.2.2.1; have cHR0 := HRF.out.2.1; have zR0 := HRF.out.2.2 0
      go_wp2_with fail
      refine (vbits_calls _ _ _ HZR.out (by rw [HZL.out]; exact HNL.out)).mono ?_
      rintro e Wg ⟨ub, rfl, hub, hB⟩
      have HUB := Lib.hid hub.any; have hsu := HUB.out.store
      have HRG := Lib.hid (HRF.out.below hB)
      have HBG := Lib.hid (HBF.out.trans (hB.mono HBF.out.size))
      clear hub hB cHR0 zR0 cF0 cF1; have cHR0 := HRG.out.2.1; have zR0 := HRG.out.2.2 0
      go_wp2_with fail
      refine bodyPost_ret (v := .tuple #[.agg #[ub], .int .i64 0]) (by simp [results, Tryz.results127, go_sem, cHR0]) rfl ⟨ub, by rw [HEE.out, HE0.out], ?_, HBG.out.setCell (by show w.heap.size ≤ w.heap.size + 1 + 1; omega) _⟩
      rw [HR0.out]; exact HUB.out.bits_set HRG.out.2.1 (.inl rfl) _
     exact AllReadyH.nil
    refine AllReadyH.cons (o := _) rfl (fun K hK => ?_) ?_
    ·clear hHeld; go_simp
     obtain ⟨W20, hWn, hB, hNB⟩ := ahd2 W19 (.int .i64 0) (.slice none 0 0) 63
     rw [hWn]; clear hWn
     obtain ⟨zb, hnm⟩ : ∃ x, W19.heap.size = x := ⟨_, rfl⟩
     rw [hnm] at hNB ⊢
     have HNE := Lib.hid (show w.heap.size + 1 + 1 < zb by rw [← hnm]; exact HR.out.1)
     have HNX := Lib.hid (show W14.heap.size < zb by rw [← hnm]; exact Hx.out.1)
     have HNY := Lib.hid (show W16.heap.size < zb by rw [← hnm]; exact Hy.out.1)
     replace HA := HA.go hB; replace HB2 := HB2.go hB; replace HR := HR.go hB; replace HB := cb hB HB; replace HU := HU.go hB; replace HU2 := HU2.go hB; replace HT := HT.go hB; replace Hvx := Hvx.go hB; replace Hx := Hx.go hB; replace Hvy := Hvy.go hB; replace Hy := Hy.go hB; replace Hva := Hva.go hB; have HZ := Lib.hid hNB; clear hNB hB hnm
     refine hK.out _ _ ⟨Hx.out.2.1, Hx.out.2.2.1, Hy.out.2.1, Hy.out.2.2.1⟩ (fun hHeld => ?_)
     clear hK K
     apply rdy 7; intro K hK; clear hHeld; go_simp
     refine (lospread_calls _ B.tr n _ Hvy.out HLY.out HNL.out HXN.out.2).mono ?_
     rintro e W21 ⟨vb, rfl, hvb, hB⟩
     replace HA := HA.go hB; replace HB2 := HB2.go hB; replace HR := HR.go hB; replace HB := cb hB HB; replace HU := HU.go hB; replace HU2 := HU2.go hB; replace HT := HT.go hB; replace Hvx := Hvx.go hB; replace Hx := Hx.go hB; replace Hvy := Hvy.go hB; replace Hy := Hy.go hB; replace Hva := Hva.go hB; replace HZ := HZ.go hB; have Hvb := Lib.hid hvb; clear hvb; clear hB
     refine hK.out _ _ ⟨Hx.out.2.1, Hx.out.2.2.1, Hy.out.2.1, Hy.out.2.2.1⟩ (fun hHeld => ?_)
     clear hK K
     apply rdy 8; intro K hK; clear hHeld; go_simp
     refine (truth_yes (tabL f 4) (tabL_lt f) _ _ _ _ _ Hva.out Hvb.out (by simp) (by simpa using HNL.out)).mono ?_
     rintro e W22 ⟨vz, rfl, hvz, hB⟩
     replace HA := HA.go hB; replace HB2 := HB2.go hB; replace HR := HR.go hB; replace HB := cb hB HB; replace HU := HU.go hB; replace HU2 := HU2.go hB; replace HT := HT.go hB; replace Hvx := Hvx.go hB; replace Hx := Hx.go hB; replace Hvy := Hvy.go hB; replace Hy := Hy.go hB; replace Hva := Hva.go hB; replace HZ := HZ.go hB; replace Hvb := Hvb.go hB
     rw [HZP.out] at hvz
     have Hvz := Lib.hid hvz
     obtain ⟨az, cz, rfl, hcz⟩ := hvz.opened
     rw [HZL.out] at Hvz ⊢
     clear hvz hcz; clear hB
     refine hK.out _ _ ⟨Hx.out.2.1, Hx.out.2.2.1, Hy.out.2.1, Hy.out.2.2.1⟩ (fun hHeld => ?_)
     clear hK K; apply tk 9; apply tk 10; apply tk 11
     apply rdy 13; intro K hK; clear hHeld
     obtain ⟨Wf, hWf⟩ : ∃ x, (W22.setCell ⟨zb, 0, none⟩ (.int .i64 n)).setCell ⟨zb, 1, none⟩ (.slice az ((n + 63) / 64) cz) = x := ⟨_, rfl⟩
     have HZF := Lib.hid (show At2 Wf zb (.int .i64 n) (.slice az ((n + 63) / 64) cz) by rw [← hWf]; exact at2_put HZ.out _ _)
     have HZR := Lib.hid (show IsBits Wf (.agg #[.int .i64 n, .slice az ((n + 63) / 64) cz]) Z by rw [← hWf]; exact Hvz.out.set2 HZ.out _ _)
     replace Hx := Lib.hid (show At2 Wf W14.heap.size _ _ by rw [← hWf]; exact Hx.out.ne (by have := HNX.out; have := HNY.out; omega) _ _)
     replace Hy := Lib.hid (show At2 Wf W16.heap.size _ _ by rw [← hWf]; exact Hy.out.ne (by have := HNX.out; have := HNY.out; omega) _ _)
     have HRF := Lib.hid (show At1 Wf (w.heap.size + 1 + 1) .nilIface by rw [← hWf]; exact (HR.out.grown (grown_setCell _ ⟨zb, 0, none⟩ _) (by have := HNE.out; simp; omega)).grown (grown_setCell _ ⟨zb, 1, none⟩ _) (by have := HNE.out; simp; omega))
     have HBF := Lib.hid (show Below w.heap.size w Wf by rw [← hWf]; exact below_setc HB.out (by have := HNE.out; omega) _ _)
     have cZ0 := HZ.out.2.1; have cZ1 := HZ.out.2.2.1; have zZ0 := HZ.out.2.2.2 0; have zZ1 := HZ.out.2.2.2 1; go_simp
     try rw [hWf]
     clear hWf cZ0 cZ1 zZ0 zZ1
     refine hK.out _ _ ⟨Hx.out.2.1, Hx.out.2.2.1, Hy.out.2.1, Hy.out.2.2.1⟩ (fun hHeld => ?_)
     clear hK K; apply tk 14
     refine wpAnyH_done (by kernel_rfl) ?_ _
     clear hHeld; have cF0 := HZF.out.2.1; have cF1 := HZF.out.2.2.1; have cHR0 := HRF.out.2.1; have zR0 := HRF.out.2.2 0
     go_wp2_with fail
     refine (vbits_calls _ _ _ HZR.out (by rw [HZL.out]; exact HNL.out)).mono ?_
     rintro e Wg ⟨ub, rfl, hub, hB⟩
     have HUB := Lib.hid hub.any; have hsu := HUB.out.store
     have HRG := Lib.hid (HRF.out.below hB)
     have HBG := Lib.hid (HBF.out.trans (hB.mono HBF.out.size))
     clear hub hB cHR0 zR0 cF0 cF1; have cHR0 := HRG.out.2.1; have zR0 := HRG.out.2.2 0
     go_wp2_with fail
     refine bodyPost_ret (v := .tuple #[.agg #[ub], .int .i64 0]) (by simp [results, Tryz.results127, go_sem, cHR0]) rfl ⟨ub, by rw [HEE.out, HE0.out], ?_, HBG.out.setCell (by show w.heap.size ≤ w.heap.size + 1 + 1; omega) _⟩
     rw [HR0.out]; exact HUB.out.bits_set HRG.out.2.1 (.inl rfl) _
    exact AllReadyH.nil
   refine AllReadyH.cons (o := _) rfl (fun K hK => ?_) ?_
   ·clear hHeld; go_simp
    obtain ⟨W19, hWn, hB, hNB⟩ := ahd2 W18 (.int .i64 0) (.slice none 0 0) 63
    rw [hWn]; clear hWn
    obtain ⟨zb, hnm⟩ : ∃ x, W18.heap.size = x := ⟨_, rfl⟩
    rw [hnm] at hNB ⊢
    have HNE := Lib.hid (show w.heap.size + 1 + 1 < zb by rw [← hnm]; exact HR.out.1)
    have HNX := Lib.hid (show W14.heap.size < zb by rw [← hnm]; exact Hx.out.1)
    have HNY := Lib.hid (show W16.heap.size < zb by rw [← hnm]; exact Hy.out.1)
    replace HA := HA.go hB; replace HB2 := HB2.go hB; replace HR := HR.go hB; replace HB := cb hB HB; replace HU := HU.go hB; replace HU2 := HU2.go hB; replace HT := HT.go hB; replace Hvx := Hvx.go hB; replace Hx := Hx.go hB; replace Hvy := Hvy.go hB; replace Hy := Hy.go hB; have HZ := Lib.hid hNB; clear hNB hB hnm
    refine hK.out _ _ ⟨Hx.out.2.1, Hx.out.2.2.1, Hy.out.2.1, Hy.out.2.2.1⟩ (fun hHeld => ?_)
    clear hK K
    apply rdy 4; intro K hK; clear hHeld; go_simp
    refine (lospread_calls _ A.tr n _ Hvx.out HLX.out HNL.out HXN.out.1).mono ?_
    rintro e W20 ⟨va, rfl, hva, hB⟩
    replace HA := HA.go hB; replace HB2 := HB2.go hB; replace HR := HR.go hB; replace HB := cb hB HB; replace HU := HU.go hB; replace HU2 := HU2.go hB; replace HT := HT.go hB; replace Hvx := Hvx.go hB; replace Hx := Hx.go hB; replace Hvy := Hvy.go hB; replace Hy := Hy.go hB; replace HZ := HZ.go hB; have Hva := Lib.hid hva; clear hva; clear hB
    refine hK.out _ _ ⟨Hx.out.2.1, Hx.out.2.2.1, Hy.out.2.1, Hy.out.2.2.1⟩ (fun hHeld => ?_)
    clear hK K
    apply rdy 7; intro K hK; clear hHeld; go_simp
    refine (lospread_calls _ B.tr n _ Hvy.out HLY.out HNL.out HXN.out.2).mono ?_
    rintro e W21 ⟨vb, rfl, hvb, hB⟩
    replace HA := HA.go hB; replace HB2 := HB2.go hB; replace HR := HR.go hB; replace HB := cb hB HB; replace HU := HU.go hB; replace HU2 := HU2.go hB; replace HT := HT.go hB; replace Hvx := Hvx.go hB; replace Hx := Hx.go hB; replace Hvy := Hvy.go hB; replace Hy := Hy.go hB; replace HZ := HZ.go hB; replace Hva := Hva.go hB; have Hvb := Lib.hid hvb; clear hvb; clear hB
    refine hK.out _ _ ⟨Hx.out.2.1, Hx.out.2.2.1, Hy.out.2.1, Hy.out.2.2.1⟩ (fun hHeld => ?_)
    clear hK K
    apply rdy 8; intro K hK; clear hHeld; go_simp
    refine (truth_yes (tabL f 4) (tabL_lt f) _ _ _ _ _ Hva.out Hvb.out (by simp) (by simpa using HNL.out)).mono ?_
    rintro e W22 ⟨vz, rfl, hvz, hB⟩
    replace HA := HA.go hB; replace HB2 := HB2.go hB; replace HR := HR.go hB; replace HB := cb hB HB; replace HU := HU.go hB; replace HU2 := HU2.go hB; replace HT := HT.go hB; replace Hvx := Hvx.go hB; replace Hx := Hx.go hB; replace Hvy := Hvy.go hB; replace Hy := Hy.go hB; replace HZ := HZ.go hB; replace Hva := Hva.go hB; replace Hvb := Hvb.go hB
    rw [HZP.out] at hvz
    have Hvz := Lib.hid hvz
    obtain ⟨az, cz, rfl, hcz⟩ := hvz.opened
    rw [HZL.out] at Hvz ⊢
    clear hvz hcz; clear hB
    refine hK.out _ _ ⟨Hx.out.2.1, Hx.out.2.2.1, Hy.out.2.1, Hy.out.2.2.1⟩ (fun hHeld => ?_)
    clear hK K; apply tk 9; apply tk 10; apply tk 11
    apply rdy 13; intro K hK; clear hHeld
    obtain ⟨Wf, hWf⟩ : ∃ x, (W22.setCell ⟨zb, 0, none⟩ (.int .i64 n)).setCell ⟨zb, 1, none⟩ (.slice az ((n + 63) / 64) cz) = x := ⟨_, rfl⟩
    have HZF := Lib.hid (show At2 Wf zb (.int .i64 n) (.slice az ((n + 63) / 64) cz) by rw [← hWf]; exact at2_put HZ.out _ _)
    have HZR := Lib.hid (show IsBits Wf (.agg #[.int .i64 n, .slice az ((n + 63) / 64) cz]) Z by rw [← hWf]; exact Hvz.out.set2 HZ.out _ _)
    replace Hx := Lib.hid (show At2 Wf W14.heap.size _ _ by rw [← hWf]; exact Hx.out.ne (by have := HNX.out; have := HNY.out; omega) _ _)
    replace Hy := Lib.hid (show At2 Wf W16.heap.size _ _ by rw [← hWf]; exact Hy.out.ne (by have := HNX.out; have := HNY.out; omega) _ _)
    have HRF := Lib.hid (show At1 Wf (w.heap.size + 1 + 1) .nilIface by rw [← hWf]; exact (HR.out.grown (grown_setCell _ ⟨zb, 0, none⟩ _) (by have := HNE.out; simp; omega)).grown (grown_setCell _ ⟨zb, 1, none⟩ _) (by have := HNE.out; simp; omega))
    have HBF := Lib.hid (show Below w.heap.size w Wf by rw [← hWf]; exact below_setc HB.out (by have := HNE.out; omega) _ _)
    have cZ0 := HZ.out.2.1; have cZ1 := HZ.out.2.2.1; have zZ0 := HZ.out.2.2.2 0; have zZ1 := HZ.out.2.2.2 1; go_simp
    try rw [hWf]
    clear hWf cZ0 cZ1 zZ0 zZ1
    refine hK.out _ _ ⟨Hx.out.2.1, Hx.out.2.2.1, Hy.out.2.1, Hy.out.2.2.1⟩ (fun hHeld => ?_)
    clear hK K; apply tk 14
    refine wpAnyH_done (by kernel_rfl) ?_ _
    clear hHeld; have cF0 := HZF.out.2.1; have cF1 := HZF.out.2.2.1; have cHR0 := HRF.out.2.1; have zR0 := HRF.out.2.2 0
    go_wp2_with fail
    refine (vbits_calls _ _ _ HZR.out (by rw [HZL.out]; exact HNL.out)).mono ?_
    rintro e Wg ⟨ub, rfl, hub, hB⟩
    have HUB := Lib.hid hub.any; have hsu := HUB.out.store
    have HRG := Lib.hid (HRF.out.below hB)
    have HBG := Lib.hid (HBF.out.trans (hB.mono HBF.out.size))
    clear hub hB cHR0 zR0 cF0 cF1; have cHR0 := HRG.out.2.1; have zR0 := HRG.out.2.2 0
    go_wp2_with fail
    refine bodyPost_ret (v := .tuple #[.agg #[ub], .int .i64 0]) (by simp [results, Tryz.results127, go_sem, cHR0]) rfl ⟨ub, by rw [HEE.out, HE0.out], ?_, HBG.out.setCell (by show w.heap.size ≤ w.heap.size + 1 + 1; omega) _⟩
    rw [HR0.out]; exact HUB.out.bits_set HRG.out.2.1 (.inl rfl) _
   exact AllReadyH.nil
  refine AllReadyH.cons (o := _) rfl (fun K hK => ?_) ?_
  ·clear hHeld; go_simp
   obtain ⟨W19, hWn, hB, hNB⟩ := ahd2 W18 (.int .i64 0) (.slice none 0 0) 63
   rw [hWn]; clear hWn
   obtain ⟨zb, hnm⟩ : ∃ x, W18.heap.size = x := ⟨_, rfl⟩
   rw [hnm] at hNB ⊢
   have HNE := Lib.hid (show w.heap.size + 1 + 1 < zb by rw [← hnm]; exact HR.out.1)
   have HNX := Lib.hid (show W14.heap.size < zb by rw [← hnm]; exact Hx.out.1)
   have HNY := Lib.hid (show W16.heap.size < zb by rw [← hnm]; exact Hy.out.1)
   replace HA := HA.go hB; replace HB2 := HB2.go hB; replace HR := HR.go hB; replace HB := cb hB HB; replace HU := HU.go hB; replace HU2 := HU2.go hB; replace HT := HT.go hB; replace Hvx := Hvx.go hB; replace Hx := Hx.go hB; replace Hvy := Hvy.go hB; replace Hy := Hy.go hB; have HZ := Lib.hid hNB; clear hNB hB hnm
   refine hK.out _ _ ⟨Hx.out.2.1, Hx.out.2.2.1, Hy.out.2.1, Hy.out.2.2.1⟩ (fun hHeld => ?_)
   clear hK K
   apply rdy 1; intro K hK; clear hHeld; go_simp
   refine (lotable_calls f _ HF.out).mono ?_
   rintro e w' ⟨rfl, rfl⟩
   refine hK.out _ _ ⟨Hx.out.2.1, Hx.out.2.2.1, Hy.out.2.1, Hy.out.2.2.1⟩ (fun hHeld => ?_)
   clear hK K
   apply rdy 4; intro K hK; clear hHeld; go_simp
   refine (lospread_calls _ A.tr n _ Hvx.out HLX.out HNL.out HXN.out.1).mono ?_
   rintro e W20 ⟨va, rfl, hva, hB⟩
   replace HA := HA.go hB; replace HB2 := HB2.go hB; replace HR := HR.go hB; replace HB := cb hB HB; replace HU := HU.go hB; replace HU2 := HU2.go hB; replace HT := HT.go hB; replace Hvx := Hvx.go hB; replace Hx := Hx.go hB; replace Hvy := Hvy.go hB; replace Hy := Hy.go hB; replace HZ := HZ.go hB; have Hva := Lib.hid hva; clear hva; clear hB
   refine hK.out _ _ ⟨Hx.out.2.1, Hx.out.2.2.1, Hy.out.2.1, Hy.out.2.2.1⟩ (fun hHeld => ?_)
   clear hK K
   apply rdy 7; intro K hK; clear hHeld; go_simp
   refine (lospread_calls _ B.tr n _ Hvy.out HLY.out HNL.out HXN.out.2).mono ?_
   rintro e W21 ⟨vb, rfl, hvb, hB⟩
   replace HA := HA.go hB; replace HB2 := HB2.go hB; replace HR := HR.go hB; replace HB := cb hB HB; replace HU := HU.go hB; replace HU2 := HU2.go hB; replace HT := HT.go hB; replace Hvx := Hvx.go hB; replace Hx := Hx.go hB; replace Hvy := Hvy.go hB; replace Hy := Hy.go hB; replace HZ := HZ.go hB; replace Hva := Hva.go hB; have Hvb := Lib.hid hvb; clear hvb; clear hB
   refine hK.out _ _ ⟨Hx.out.2.1, Hx.out.2.2.1, Hy.out.2.1, Hy.out.2.2.1⟩ (fun hHeld => ?_)
   clear hK K
   apply rdy 8; intro K hK; clear hHeld; go_simp
   refine (truth_yes (tabL f 4) (tabL_lt f) _ _ _ _ _ Hva.out Hvb.out (by simp) (by simpa using HNL.out)).mono ?_
   rintro e W22 ⟨vz, rfl, hvz, hB⟩
   replace HA := HA.go hB; replace HB2 := HB2.go hB; replace HR := HR.go hB; replace HB := cb hB HB; replace HU := HU.go hB; replace HU2 := HU2.go hB; replace HT := HT.go hB; replace Hvx := Hvx.go hB; replace Hx := Hx.go hB; replace Hvy := Hvy.go hB; replace Hy := Hy.go hB; replace HZ := HZ.go hB; replace Hva := Hva.go hB; replace Hvb := Hvb.go hB
   rw [HZP.out] at hvz
   have Hvz := Lib.hid hvz
   obtain ⟨az, cz, rfl, hcz⟩ := hvz.opened
   rw [HZL.out] at Hvz ⊢
   clear hvz hcz; clear hB
   refine hK.out _ _ ⟨Hx.out.2.1, Hx.out.2.2.1, Hy.out.2.1, Hy.out.2.2.1⟩ (fun hHeld => ?_)
   clear hK K; apply tk 9; apply tk 10; apply tk 11
   apply rdy 13; intro K hK; clear hHeld
   obtain ⟨Wf, hWf⟩ : ∃ x, (W22.setCell ⟨zb, 0, none⟩ (.int .i64 n)).setCell ⟨zb, 1, none⟩ (.slice az ((n + 63) / 64) cz) = x := ⟨_, rfl⟩
   have HZF := Lib.hid (show At2 Wf zb (.int .i64 n) (.slice az ((n + 63) / 64) cz) by rw [← hWf]; exact at2_put HZ.out _ _)
   have HZR := Lib.hid (show IsBits Wf (.agg #[.int .i64 n, .slice az ((n + 63) / 64) cz]) Z by rw [← hWf]; exact Hvz.out.set2 HZ.out _ _)
   replace Hx := Lib.hid (show At2 Wf W14.heap.size _ _ by rw [← hWf]; exact Hx.out.ne (by have := HNX.out; have := HNY.out; omega) _ _)
   replace Hy := Lib.hid (show At2 Wf W16.heap.size _ _ by rw [← hWf]; exact Hy.out.ne (by have := HNX.out; have := HNY.out; omega) _ _)
   have HRF := Lib.hid (show At1 Wf (w.heap.size + 1 + 1) .nilIface by rw [← hWf]; exact (HR.out.grown (grown_setCell _ ⟨zb, 0, none⟩ _) (by have := HNE.out; simp; omega)).grown (grown_setCell _ ⟨zb, 1, none⟩ _) (by have := HNE.out; simp; omega))
   have HBF := Lib.hid (show Below w.heap.size w Wf by rw [← hWf]; exact below_setc HB.out (by have := HNE.out; omega) _ _)
   have cZ0 := HZ.out.2.1; have cZ1 := HZ.out.2.2.1; have zZ0 := HZ.out.2.2.2 0; have zZ1 := HZ.out.2.2.2 1; go_simp
   try rw [hWf]
   clear hWf cZ0 cZ1 zZ0 zZ1
   refine hK.out _ _ ⟨Hx.out.2.1, Hx.out.2.2.1, Hy.out.2.1, Hy.out.2.2.1⟩ (fun hHeld => ?_)
   clear hK K; apply tk 14
   refine wpAnyH_done (by kernel_rfl) ?_ _
   clear hHeld; have cF0 := HZF.out.2.1; have cF1 := HZF.out.2.2.1; have cHR0 := HRF.out.2.1; have zR0 := HRF.out.2.2 0
   go_wp2_with fail
   refine (vbits_calls _ _ _ HZR.out (by rw [HZL.out]; exact HNL.out)).mono ?_
   rintro e Wg ⟨ub, rfl, hub, hB⟩
   have HUB := Lib.hid hub.any; have hsu := HUB.out.store
   have HRG := Lib.hid (HRF.out.below hB)
   have HBG := Lib.hid (HBF.out.trans (hB.mono HBF.out.size))
   clear hub hB cHR0 zR0 cF0 cF1; have cHR0 := HRG.out.2.1; have zR0 := HRG.out.2.2 0
   go_wp2_with fail
   refine bodyPost_ret (v := .tuple #[.agg #[ub], .int .i64 0]) (by simp [results, Tryz.results127, go_sem, cHR0]) rfl ⟨ub, by rw [HEE.out, HE0.out], ?_, HBG.out.setCell (by show w.heap.size ≤ w.heap.size + 1 + 1; omega) _⟩
   rw [HR0.out]; exact HUB.out.bits_set HRG.out.2.1 (.inl rfl) _
  exact AllReadyH.nil
end Go.Proofs.YtbacchbcanlciaaGreatDoor

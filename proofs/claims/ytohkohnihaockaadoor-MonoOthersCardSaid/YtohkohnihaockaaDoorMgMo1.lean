/- Merged: MoM, MoA, MoB, MoC, MoD, MoE, MoG. -/
import Derived.Test.YtohkohnihaockaaDoorMgSq1
import Derived.Test.YtohkohnihaockaaDoorMgBx1
import Derived.Test.YtohkohnihaockaaDoorMgVe1
/- Layer 9, plain: what every function does to a number, and to all numbers of a list. -/
namespace Go.Proofs.YtohkohnihaockaaDoor
set_option maxRecDepth 100000
open Go.RowKit Fl
set_option linter.unusedVariables false

/-- 0 less a word; 1 divided by one. -/
def negw (x : Nat) : Nat := (Ieee.double.sub 0 x).getD 0
def invw (x : Nat) : Nat := (Ieee.double.div 4607182418800017408 x).getD 0
theorem negw_spec {x : Nat} (hx : Num x) : floatBits .sub .f64 0 x = some (negw x) ∧ Num (negw x) ∧ V (negw x) = -V x := by
  obtain ⟨z, hz, hn, hv⟩ := neg_word hx
  have e : negw x = z := by unfold negw; rw [hz]; rfl
  rw [e]; exact ⟨hz, hn, hv⟩
theorem negw_rs {x : Nat} (hx : Num x) : rs (negw x) = (negw x, 0) := by
  have h := (negw_spec hx).2.1
  rw [rs_fin h.1, ze_of_num h]
theorem invw_spec {x : Nat} (hx : Fnt x) (h : V x ≠ 0) : floatBits .quo .f64 4607182418800017408 x = some (invw x) := by
  obtain ⟨z, hz⟩ := div_some one_fin hx h
  have e : invw x = z := by unfold invw; rw [hz]; rfl
  rw [e]; exact hz
theorem abs_num {x : Nat} (hx : Num x) : Num (x % 9223372036854775808) := ⟨mod_fin hx.1, fun h => by omega⟩
theorem abs_same {x : Nat} (hx : Num x) (h : ¬ V x < 0) : x % 9223372036854775808 = x := by
  refine V_inj (abs_num hx) hx ?_
  rw [V_mod]; omega
theorem zero_of {x : Nat} (hx : Num x) (h : V x = 0) : x = 0 := V_inj hx num_zero (by rw [h, V_zero])

/-- One: the word and the error. -/
def oneW (f : Int) (x : Nat) : Nat × Int :=
  if f = 1 then (x, 0) else if f = 2 then (negw x, 0) else if f = 3 then (sgw (V x), 0)
  else if f = 4 then (if V x = 0 then (0, 24) else rs (invw x))
  else if f = 5 then (ze (cl x), 0) else if f = 6 then (fl x, 0) else if f = 7 then (x % 9223372036854775808, 0)
  else if f = 8 then (if V x = 0 then (4607182418800017408, 0) else if V x = pw 1074 then (0, 0) else (0, 24))
  else (0, 1)
theorem sgw_num (v : Int) : Num (sgw v) := by
  unfold sgw
  split
  · exact ⟨neg_fin, by decide⟩
  · split
    · exact num_zero
    · exact ⟨one_fin, by decide⟩
theorem oneW_num {x : Nat} (f : Int) (hx : Num x) : Num (oneW f x).1 := by
  unfold oneW
  split; exact hx
  split; exact (negw_spec hx).2.1
  split; exact sgw_num _
  split
  · split; exact num_zero
    exact rs_num _ (wf_f64 (floatBits_wf (invw_spec hx.1 (by assumption))))
  split; exact ze_num (cl_spec hx).1
  split; exact (fl_spec hx).1
  split; exact abs_num hx
  split
  · split
    · exact ⟨one_fin, by decide⟩
    · split <;> exact num_zero
  exact num_zero
theorem oneW_arg {f : Int} (x : Nat) (h : ¬ (1 ≤ f ∧ f ≤ 8)) : oneW f x = (0, 1) := by
  unfold oneW
  rw [if_neg (by omega), if_neg (by omega), if_neg (by omega), if_neg (by omega), if_neg (by omega), if_neg (by omega), if_neg (by omega), if_neg (by omega)]
/-- All numbers of a list: the first error, and what comes of them. -/
def errL (f : Int) : List Nat → Int
  | [] => 0
  | x :: l => if (oneW f x).2 = 0 then errL f l else (oneW f x).2
def outL (f : Int) (l : List Nat) : List Nat := l.map fun x => (oneW f x).1
theorem errL_step {f : Int} {l : List Nat} {k : Nat} {x : Nat} (h : l[k]? = some x) : errL f (l.drop k) = if (oneW f x).2 = 0 then errL f (l.drop (k + 1)) else (oneW f x).2 := by
  obtain ⟨hk, e⟩ := List.getElem?_eq_some_iff.1 h
  rw [List.drop_eq_getElem_cons hk, e, errL]
theorem errL_all {f : Int} {l : List Nat} (h : ∀ x ∈ l, (oneW f x).2 = 0) : errL f l = 0 := by
  induction l with
  | nil => rfl
  | cons x l ih => rw [errL, if_pos (h x List.mem_cons_self)]; exact ih fun y hy => h y (List.mem_cons_of_mem _ hy)
theorem outL_num {f : Int} {l : List Nat} (h : ∀ x ∈ l, Num x) : ∀ x ∈ outL f l, Num x := by
  intro x hx
  obtain ⟨y, hy, rfl⟩ := List.mem_map.1 hx
  exact oneW_num f (h y hy)
theorem outL_len (f : Int) (l : List Nat) : (outL f l).length = l.length := by simp [outL]
/-- Functions that make 0 or 1 of 0 and 1. -/
abbrev keepF (f : Int) : Prop := f ≠ 2 ∧ f ≠ 4
theorem V_flagW (b : Bool) : V (flagW b) = if b then (pw 1074 : Int) else 0 := by cases b <;> first | exact V_zero | exact V_one
theorem oneW_flag {f : Int} (h1 : 1 ≤ f) (h8 : f ≤ 8) (hk : keepF f) (b : Bool) : oneW f (flagW b) = (flagW (if f = 8 then !b else b), 0) := by
  have hn := num_flag b
  have hv := V_flagW b
  have hp := pw_pos 1074
  have hd : V (flagW b) / (pw 1074 : Int) * pw 1074 = V (flagW b) := by
    rw [hv]; cases b
    · simp
    · rw [if_pos rfl, Int.ediv_self (by omega), Int.one_mul]
  have hd2 : -V (flagW b) / (pw 1074 : Int) * pw 1074 = -V (flagW b) := by
    rw [hv]; cases b
    · simp
    · rw [if_pos rfl, Int.neg_ediv_of_dvd (Int.dvd_refl _), Int.ediv_self (by omega)]; omega
  unfold oneW
  have hk2 := hk.1
  have hk4 := hk.2
  rcases (by omega : f = 1 ∨ f = 3 ∨ f = 5 ∨ f = 6 ∨ f = 7 ∨ f = 8) with rfl | rfl | rfl | rfl | rfl | rfl
  · simp
  · rw [if_neg (by decide), if_neg (by decide), if_pos rfl, if_neg (by decide)]
    rw [hv]; cases b
    · rfl
    · rw [if_pos rfl]; unfold sgw; rw [if_neg (by omega), if_neg (by omega)]; rfl
  · rw [if_neg (by decide), if_neg (by decide), if_neg (by decide), if_neg (by decide), if_pos rfl, if_neg (by decide)]
    rw [show ze (cl (flagW b)) = flagW b from V_inj (ze_num (cl_spec hn).1) hn (by rw [ze_val, (cl_spec hn).2, hd2]; omega)]
  · rw [if_neg (by decide), if_neg (by decide), if_neg (by decide), if_neg (by decide), if_neg (by decide), if_pos rfl, if_neg (by decide)]
    rw [show fl (flagW b) = flagW b from V_inj (fl_spec hn).1 hn (by rw [(fl_spec hn).2, hd])]
  · rw [if_neg (by decide), if_neg (by decide), if_neg (by decide), if_neg (by decide), if_neg (by decide), if_neg (by decide), if_pos rfl, if_neg (by decide)]
    rw [abs_same hn (by rw [hv]; split <;> omega)]
  · rw [if_neg (by decide), if_neg (by decide), if_neg (by decide), if_neg (by decide), if_neg (by decide), if_neg (by decide), if_neg (by decide), if_pos rfl, if_pos rfl]
    rw [hv]; cases b
    · rfl
    · rw [if_pos rfl, if_neg (by omega), if_pos rfl]; rfl

/-- Apply: the error, and what comes of a vector. -/
def appE (f : Int) (V : VV) : Int := if 1 ≤ f ∧ f ≤ 8 then (if V.cls = 0 then errL f V.nums else 24) else 1
noncomputable def appV (f : Int) (V : VV) : VV :=
  if appE f V = 0 then (if V.isBit = true ∧ keepF f then .bits (if f = 8 then V.packed.map (!·) else V.packed) else (VV.floats (outL f V.nums)).sq) else .none
theorem appV_none {f : Int} {V : VV} (h : appE f V ≠ 0) : appV f V = .none := if_neg h
theorem appE_zero {f : Int} {V : VV} (h : appE f V = 0) : (1 ≤ f ∧ f ≤ 8) ∧ V.cls = 0 ∧ errL f V.nums = 0 := by
  unfold appE at h
  split at h
  · split at h
    · exact ⟨by assumption, by assumption, h⟩
    · cases h
  · cases h
theorem appV_spec {f : Int} {V : VV} (hok : V.ok) (hn : V.nm) (h : appE f V = 0) :
    (appV f V).nums = outL f V.nums ∧ (appV f V).ok ∧ (appV f V).nm ∧ 0 < (appV f V).kind ∧ (appV f V).kind = (appV f V).least := by
  obtain ⟨⟨h1, h8⟩, hc, he⟩ := appE_zero h
  have hN := VV.nums_num hok hn
  unfold appV
  rw [if_pos h]
  by_cases hb : V.isBit = true ∧ keepF f
  · rw [if_pos hb]
    cases V with
    | bits l =>
      refine ⟨?_, ?_, trivial, by show (0 : Int) < 1; decide, rfl⟩
      · show (if f = 8 then l.map (!·) else l).map flagW = outL f (l.map flagW)
        unfold outL
        rw [List.map_map]
        have e : (if f = 8 then l.map (!·) else l) = l.map fun b => if f = 8 then !b else b := by split <;> simp
        rw [e, List.map_map]
        exact List.map_congr_left fun b _ => by show flagW _ = (oneW f (flagW b)).1; rw [oneW_flag h1 h8 hb.2]
      · have : l.length ≤ 1048576 := hok
        show (if f = 8 then l.map (!·) else l).length ≤ 1048576
        split <;> simpa using this
    | none => simp [VV.isBit] at hb
    | smalls l => simp [VV.isBit] at hb
    | ints l => simp [VV.isBit] at hb
    | floats l => simp [VV.isBit] at hb
    | chars l => simp [VV.isBit] at hb
    | boxes l => simp [VV.isBit] at hb
  · rw [if_neg hb]
    have hO := outL_num (f := f) hN
    have hlen := VV.ok_len hok
    have hll := VV.nums_lenle (V := V)
    have hok2 : (VV.floats (outL f V.nums)).ok := by show (outL f V.nums).length ≤ 1048576; rw [outL_len]; omega
    have hn2 : (VV.floats (outL f V.nums)).nm := hO
    obtain ⟨s1, s2, s3, s4, s5, s6⟩ := VV.sq_spec hok2 hn2
    refine ⟨s2, s4, s5, ?_, ?_⟩
    · rw [s1]
      have := (least_bd (VV.floats (outL f V.nums)) rfl).1
      omega
    · rw [VV.least_eq s4 s5 (s3.trans rfl), s2, VV.sq_kind hok2 hn2 rfl]
end Go.Proofs.YtohkohnihaockaaDoor

/- Layer 9: One, the program's and the reference's, walked. -/
namespace Go.Proofs.YtohkohnihaockaaDoor
set_option maxRecDepth 100000
open Go.RowKit Fl
set_option linter.unusedVariables false

theorem ret_o {p : Nat × Int} {a : Nat} {i : Int} (h : p = (a, i)) : Ending.returned (.tuple #[.float .f64 a, .int .i64 i]) = .returned (.tuple #[.float .f64 p.1, .int .i64 p.2]) := by rw [h]
theorem one_cases (f : Int) : f = 1 ∨ f = 2 ∨ f = 3 ∨ f = 4 ∨ f = 5 ∨ f = 6 ∨ f = 7 ∨ f = 8 ∨ ¬ (1 ≤ f ∧ f ≤ 8) := by omega
theorem flipped_calls (x : Nat) (w : World) (hx : Num x) : Calls Tryd.prog 30 #[.float .f64 x] w fun e w' => e = .returned (.tuple #[.float .f64 (oneW 8 x).1, .int .i64 (oneW 8 x).2]) ∧ w = w' := by
  have HX := Lib.hid hx
  have hp := pw_pos 1074
  by_cases h0 : V x = 0
  · have HE := Lib.hid (show oneW 8 x = (4607182418800017408, 0) by unfold oneW; simp [h0])
    have h1 : ¬ V x = (pw 1074 : Int) := by omega
    have HD := Lib.hid (show (decide (V x = (pw 1074 : Int)) = false ∧ (decide (V x = 0) || decide (V x = (pw 1074 : Int))) = true) by rw [decide_eq_false h1, decide_eq_true h0]; exact ⟨rfl, rfl⟩)
    clear h0 h1 hx hp
    go_enter Tryd.func30, Tryd.ntmps30
    go_wp2_with (first | (refine (truth_calls _ _ HX.out.1).mono ?_; rintro e w' ⟨rfl, rfl⟩; rw [HD.out.2, HD.out.1]) | (refine (flag_calls _ _).mono ?_; rintro e w' ⟨rfl, rfl⟩))
    go_ret2
    exact ⟨ret_o HE.out, rfl⟩
  · by_cases h1 : V x = (pw 1074 : Int)
    · have HE := Lib.hid (show oneW 8 x = (0, 0) by unfold oneW; simp [h1, show ¬ pw 1074 = 0 by omega])
      have HD := Lib.hid (show (decide (V x = (pw 1074 : Int)) = true ∧ (decide (V x = 0) || decide (V x = (pw 1074 : Int))) = true) by rw [decide_eq_true h1, decide_eq_false h0]; exact ⟨rfl, rfl⟩)
      clear h0 h1 hx hp
      go_enter Tryd.func30, Tryd.ntmps30
      go_wp2_with (first | (refine (truth_calls _ _ HX.out.1).mono ?_; rintro e w' ⟨rfl, rfl⟩; rw [HD.out.2, HD.out.1]) | (refine (flag_calls _ _).mono ?_; rintro e w' ⟨rfl, rfl⟩))
      go_ret2
      exact ⟨ret_o HE.out, rfl⟩
    · have HE := Lib.hid (show oneW 8 x = (0, 24) by unfold oneW; simp [h0, h1])
      have HD := Lib.hid (show (decide (V x = (pw 1074 : Int)) = false ∧ (decide (V x = 0) || decide (V x = (pw 1074 : Int))) = false) by rw [decide_eq_false h1, decide_eq_false h0]; exact ⟨rfl, rfl⟩)
      clear h0 h1 hx hp
      go_enter Tryd.func30, Tryd.ntmps30
      go_wp2_with (refine (truth_calls _ _ HX.out.1).mono ?_; rintro e w' ⟨rfl, rfl⟩; rw [HD.out.2, HD.out.1])
      go_ret2
      exact ⟨ret_o HE.out, rfl⟩
theorem one_calls (f : Int) (x : Nat) (w : World) (hx : Num x) : Calls Tryd.prog 8 #[.int .i64 f, .float .f64 x] w fun e w' => e = .returned (.tuple #[.float .f64 (oneW f x).1, .int .i64 (oneW f x).2]) ∧ w = w' := by
  have HX := Lib.hid hx
  rcases one_cases f with rfl | rfl | rfl | rfl | rfl | rfl | rfl | rfl | hf
  · have HE := Lib.hid (show oneW 1 x = (x, 0) by simp [oneW])
    clear hx
    go_enter Tryd.func8, Tryd.ntmps8
    go_wp2
    go_ret2
    exact ⟨ret_o HE.out, rfl⟩
  · have HE := Lib.hid (show oneW 2 x = (negw x, 0) by simp [oneW])
    have HS := Lib.hid (negw_spec hx).1
    have HR := Lib.hid (negw_rs hx)
    clear hx
    go_enter Tryd.func8, Tryd.ntmps8
    go_wp2_with (refine (sub_calls _ _ _ _ HS.out).mono ?_; rintro e w' ⟨rfl, rfl⟩; rw [HR.out])
    go_ret2
    exact ⟨ret_o HE.out, rfl⟩
  · have HE := Lib.hid (show oneW 3 x = (sgw (V x), 0) by simp [oneW])
    clear hx
    go_enter Tryd.func8, Tryd.ntmps8
    go_wp2_with (refine (sign_calls _ _ HX.out.1).mono ?_; rintro e w' ⟨rfl, rfl⟩)
    go_ret2
    exact ⟨ret_o HE.out, rfl⟩
  · by_cases h0 : V x = 0
    · have HE := Lib.hid (show oneW 4 x = (0, 24) by simp [oneW, h0])
      have hx0 := zero_of hx h0
      have HO := Lib.hid (show V 4607182418800017408 ≠ 0 by rw [V_one]; have := pw_pos 1074; omega)
      rw [hx0] at HE ⊢
      clear hx h0 hx0 HX
      go_enter Tryd.func8, Tryd.ntmps8
      go_wp2_with (refine (div_zero _ _ one_fin HO.out).mono ?_; rintro e w' ⟨rfl, rfl⟩)
      go_ret2
      exact ⟨ret_o HE.out, rfl⟩
    · have HE := Lib.hid (show oneW 4 x = rs (invw x) by simp [oneW, h0])
      have HS := Lib.hid (invw_spec hx.1 h0)
      have H0 := Lib.hid h0
      clear hx h0
      go_enter Tryd.func8, Tryd.ntmps8
      go_wp2_with (refine (div_calls _ _ _ _ HX.out.1 H0.out HS.out).mono ?_; rintro e w' ⟨rfl, rfl⟩)
      go_ret2
      exact ⟨ret_o HE.out, rfl⟩
  · have HE := Lib.hid (show oneW 5 x = (ze (cl x), 0) by simp [oneW])
    clear hx
    go_enter Tryd.func8, Tryd.ntmps8
    go_wp2_with (refine (ceil_calls _ _ HX.out).mono ?_; rintro e w' ⟨rfl, rfl⟩)
    go_ret2
    exact ⟨ret_o HE.out, rfl⟩
  · have HE := Lib.hid (show oneW 6 x = (fl x, 0) by simp [oneW])
    clear hx
    go_enter Tryd.func8, Tryd.ntmps8
    go_wp2_with (refine (floor_calls _ _ HX.out.1).mono ?_; rintro e w' ⟨rfl, rfl⟩)
    go_ret2
    exact ⟨ret_o HE.out, rfl⟩
  · have HE := Lib.hid (show oneW 7 x = (x % 9223372036854775808, 0) by simp [oneW])
    clear hx
    go_enter Tryd.func8, Tryd.ntmps8
    go_wp2_with (refine (abs2_calls _ _ HX.out.1.1).mono ?_; rintro e w' ⟨rfl, rfl⟩)
    go_ret2
    exact ⟨ret_o HE.out, rfl⟩
  · clear hx
    go_enter Tryd.func8, Tryd.ntmps8
    go_wp2_with (refine (flipped_calls _ _ HX.out).mono ?_; rintro e w' ⟨rfl, rfl⟩)
    go_ret2
    exact ⟨rfl, rfl⟩
  · have HE := Lib.hid (oneW_arg x hf)
    have n1 : (f == 1) = false := by rw [beq_eq_false_iff_ne]; omega
    have n2 : (f == 2) = false := by rw [beq_eq_false_iff_ne]; omega
    have n3 : (f == 3) = false := by rw [beq_eq_false_iff_ne]; omega
    have n4 : (f == 4) = false := by rw [beq_eq_false_iff_ne]; omega
    have n5 : (f == 5) = false := by rw [beq_eq_false_iff_ne]; omega
    have n6 : (f == 6) = false := by rw [beq_eq_false_iff_ne]; omega
    have n7 : (f == 7) = false := by rw [beq_eq_false_iff_ne]; omega
    have n8 : (f == 8) = false := by rw [beq_eq_false_iff_ne]; omega
    clear hx hf
    go_enter Tryd.func8, Tryd.ntmps8
    go_wp2
    go_ret2
    exact ⟨ret_o HE.out, rfl⟩
end Go.Proofs.YtohkohnihaockaaDoor

/- Package mono, walked: known, keepsFlags, ofFlags, ofNumbers. -/
namespace Go.Proofs.YtohkohnihaockaaDoor
set_option maxRecDepth 100000
open Go.RowKit Fl
set_option linter.unusedVariables false

theorem known_calls (f : Int) (w : World) : Calls Tryd.prog 44 #[.int .i64 f] w fun e w' => e = .returned (.bool (decide (1 ≤ f ∧ f ≤ 8))) ∧ w = w' := by
  by_cases h1 : (1 : Int) ≤ f
  · by_cases h2 : f ≤ (8 : Int)
    · have HD := Lib.hid (decide_eq_true (show 1 ≤ f ∧ f ≤ 8 from ⟨h1, h2⟩))
      go_enter Tryd.func44, Tryd.ntmps44
      go_wp2
      go_ret
      exact ⟨ret_b (by first | rfl | (rw [HD.out]; done) | (rw [HD.out]; rfl) | (simp; omega)), rfl⟩
    · have HD := Lib.hid (decide_eq_false (show ¬ (1 ≤ f ∧ f ≤ 8) from fun h => h2 h.2))
      go_enter Tryd.func44, Tryd.ntmps44
      go_wp2
      go_ret
      exact ⟨ret_b (by first | (simp; omega) | (simp; done) | (rw [HD.out]; rfl)), rfl⟩
  · have HD := Lib.hid (decide_eq_false (show ¬ (1 ≤ f ∧ f ≤ 8) from fun h => h1 h.1))
    go_enter Tryd.func44, Tryd.ntmps44
    go_wp2
    go_ret
    exact ⟨ret_b (by first | (simp; omega) | (simp; done) | (rw [HD.out]; rfl)), rfl⟩
theorem keeps_calls (f : Int) (w : World) : Calls Tryd.prog 46 #[.int .i64 f] w fun e w' => e = .returned (.bool (decide (keepF f))) ∧ w = w' := by
  by_cases h2 : f = 2
  · have HD := Lib.hid (decide_eq_false (show ¬ keepF f from fun h => h.1 h2))
    rw [HD.out]
    have n2 : (f != 2) = false := by simp [h2]
    clear h2
    go_enter Tryd.func46, Tryd.ntmps46
    go_wp2
    go_ret
    exact ⟨rfl, rfl⟩
  · by_cases h4 : f = 4
    · have HD := Lib.hid (decide_eq_false (show ¬ keepF f from fun h => h.2 h4))
      rw [HD.out]
      have n2 : (f != 2) = true := by simp [h2]
      have n4 : (f != 4) = false := by simp [h4]
      clear h2 h4
      go_enter Tryd.func46, Tryd.ntmps46
      go_wp2
      go_ret
      exact ⟨rfl, rfl⟩
    · have HD := Lib.hid (decide_eq_true (show keepF f from ⟨h2, h4⟩))
      rw [HD.out]
      have n2 : (f != 2) = true := by simp [h2]
      have n4 : (f != 4) = true := by simp [h4]
      clear h2 h4
      go_enter Tryd.func46, Tryd.ntmps46
      go_wp2
      go_ret
      exact ⟨rfl, rfl⟩

set_option maxHeartbeats 2000000 in
theorem offlags_calls {ok : Nat → Prop} (f : Int) (v : Value) (l : List Bool) (w : World) (hv : IsBitsX w ok v l) (hm : l.length ≤ 1048576) :
    Calls Tryd.prog 47 #[.int .i64 f, v] w fun e w' => ∃ v', e = .returned v' ∧ IsBitsX w' (fun b => (ok b ∧ b < w.heap.size) ∨ w.heap.size ≤ b) v' (if f = 8 then l.map (fun b => !b) else l) ∧ Below w.heap.size w w' := by
  have hlt : IsBitsX w (fun b => ok b ∧ b < w.heap.size) v l := hv.keep (Kept.refl _ _) (fun b hb ho => ⟨ho, hb⟩)
  obtain ⟨s, rfl, hs⟩ := hv
  obtain ⟨_, ao, cap, rfl, _⟩ := hs
  obtain ⟨W1, hW1⟩ : ∃ W1, W1 = (w.alloc (.cells #[.int .i64 (l.length : Int), .slice ao ((l.length + 63) / 64) cap] 64)).alloc (.cells #[.int .i64 0, .slice none 0 0] 64) := ⟨_, rfl⟩
  have HB := Lib.hid (show Below w.heap.size w W1 by rw [hW1]; exact (below_new _ _).alloc (by simp) _)
  have HP := Lib.hid (show At2 W1 w.heap.size (.int .i64 (l.length : Int)) (.slice ao ((l.length + 63) / 64) cap) by rw [hW1]; exact (At2.new w _ _ _).alloc _)
  have HR := Lib.hid (show At2 W1 (w.heap.size + 1) (.int .i64 0) (.slice none 0 0) by rw [hW1]; have := At2.new (w.alloc (.cells #[.int .i64 (l.length : Int), .slice ao ((l.length + 63) / 64) cap] 64)) (.int .i64 0) (.slice none 0 0) 64; simpa using this)
  have HSZ := Lib.hid (show W1.heap.size = w.heap.size + 2 by rw [hW1]; simp)
  have HV := Lib.hid (show IsBitsX W1 (fun b => ok b ∧ b < w.heap.size) _ l from hlt.keep (Kept.below HB.out) (fun _ _ h => h))
  have HM := Lib.hid hm
  have hfold := hW1.symm
  clear hlt hW1 hm
  have p0 := HP.out.2.1
  have p1 := HP.out.2.2.1
  by_cases h8 : f = 8
  · rw [if_pos h8, h8]
    clear h8
    go_enter Tryd.func47, Tryd.ntmps47
    go_wp2_with fail
    clear hfold p0 p1
    refine (not_fresh _ l _ HV.out.bits HM.out).mono ?_
    rintro e W2 ⟨v', rfl, hv', hB2⟩
    obtain ⟨s', rfl, hs'⟩ := hv'
    have HV2 := Lib.hid (show IsBitsX W2 (fun b => W1.heap.size + 2 ≤ b) _ (l.map fun b => !b) from ⟨_, rfl, hs'⟩)
    obtain ⟨_, ao', cap', rfl, _⟩ := hs'
    have HB2 := Lib.hid (HB.out.trans (hB2.mono HB.out.size))
    obtain ⟨_, r0, r1, rf⟩ := HR.out.below hB2
    have rf0 := rf 0
    have rf1 := rf 1
    clear hB2 rf
    go_wp2_with fail
    refine bodyPost_ret (v := .agg #[.int .i64 (((l.map fun b => !b).length : Nat) : Int), .slice ao' (((l.map fun b => !b).length + 63) / 64) cap']) (by simp [results, Tryd.results47, go_sem, r0, r1]) rfl ⟨_, rfl, ?_, (HB2.out.setCell (Nat.le_succ _) _).setCell (Nat.le_succ _) _⟩
    exact HV2.out.keep ((Kept.setCell _ _ _ (by have := HSZ.out; simp <;> omega)).trans (Kept.setCell _ _ _ (by have := HSZ.out; simp <;> omega))) (fun b _ (h : _ ≤ b) => Or.inr (by have := HSZ.out; omega))
  · rw [if_neg h8]
    have n8 : (f == 8) = false := by rw [beq_eq_false_iff_ne]; exact h8
    clear h8
    have r0 := HR.out.2.1
    have r1 := HR.out.2.2.1
    have rf0 := HR.out.2.2.2 0
    have rf1 := HR.out.2.2.2 1
    go_enter Tryd.func47, Tryd.ntmps47
    go_wp2_with fail
    clear hfold
    refine bodyPost_ret (v := .agg #[.int .i64 (l.length : Int), .slice ao ((l.length + 63) / 64) cap]) (by simp [results, Tryd.results47, go_sem, r0, r1]) rfl ⟨_, rfl, ?_, (HB.out.setCell (Nat.le_succ _) _).setCell (Nat.le_succ _) _⟩
    exact HV.out.keep ((Kept.setCell _ _ _ (by simp <;> omega)).trans (Kept.setCell _ _ _ (by simp <;> omega))) (fun b _ h => Or.inl h)

set_option maxHeartbeats 4000000 in
theorem ofnumbers_calls {ok : Nat → Prop} (f : Int) (v : Value) (l : List Nat) (w : World) (hv : Slc w ok v l.length (f64s l)) (hm : l.length ≤ 1048576) (hN : ∀ x ∈ l, Num x) (hT : TabAt w) :
    Calls Tryd.prog 48 #[.int .i64 f, v] w fun e w' => ∃ u, e = .returned (.tuple #[.agg #[u], .int .i64 (errL f l)]) ∧ IsV w' (fun b => w.heap.size ≤ b) u (if errL f l = 0 then (VV.floats (outL f l)).sq else .none) ∧ Below w.heap.size w w' := by
  obtain ⟨R, hRR⟩ : ∃ R : VV, R = (if errL f l = 0 then (VV.floats (outL f l)).sq else .none) := ⟨_, rfl⟩
  obtain ⟨E, hEE⟩ : ∃ E : Int, E = errL f l := ⟨_, rfl⟩
  rw [← hRR, ← hEE]
  have HRR := Lib.hid hRR
  have HEE := Lib.hid hEE
  clear hRR hEE
  obtain ⟨ao, cap, rfl, _, _, _, hc⟩ := hv.opened
  have HC := Lib.hid hc
  have HNN := Lib.hid hN
  have HM := Lib.hid hm
  have hst := run_store_float
  obtain ⟨xs, hxs⟩ : ∃ xs : List Value, xs = f64s (outL f l) := ⟨_, rfl⟩
  have hxl : xs.length = l.length := by rw [hxs]; simp [f64s, outL]
  have hget : ∀ k (h : k < xs.length) (h2 : k < l.length), xs[k]'h = .float .f64 (oneW f (l[k]'h2)).1 := by intro k h h2; simp [hxs, f64s, outL]
  have HXE := Lib.hid hxs
  have HX := Lib.hid hget
  have HXL := Lib.hid hxl
  have hmk := run_mkF1 l.length (by omega) (w.alloc (.cells #[.nilIface] 37))
  obtain ⟨W0, hW0⟩ : ∃ W0, W0 = (w.alloc (.cells #[.nilIface] 37)).alloc (.cells (zerosV (.float .f64 0) l.length) 22) := ⟨_, rfl⟩
  have HO0 := Lib.hid (show W0.ownsRow (w.heap.size + 1) 22 1 (.slice (some ⟨w.heap.size + 1, 0, none⟩) l.length l.length) l.length (List.replicate l.length (.float .f64 0)) by
    rw [hW0]
    have := own_make1 (.float .f64 0) 22 l.length (by omega) (w.alloc (.cells #[.nilIface] 37)) (w.heap.size + 1) (by simp)
    simpa using this)
  have HW := Lib.hid (show Below w.heap.size w W0 by rw [hW0]; exact (below_new _ _).alloc (by simp) _)
  have HR := Lib.hid (show At1 W0 w.heap.size .nilIface by rw [hW0]; exact (At1.new w _ _).below (below_new _ _))
  have HT := Lib.hid hT
  clear hv hN hc hT hxs hget hxl
  simp only [World.size_alloc] at hmk
  go_enter Tryd.func48, Tryd.ntmps48
  go_wp2
  rw [← hW0]
  clear hW0 hmk
  go_loopw [18] (fun i wr => ∃ k : Nat, k ≤ l.length ∧ i = .int .i64 k ∧ errL f l = errL f (l.drop k) ∧ wr.ownsRow (w.heap.size + 1) 22 1 (.slice (some ⟨w.heap.size + 1, 0, none⟩) l.length l.length) l.length (fillTo xs (.float .f64 0) k) ∧ W0.grownBy wr (some (w.heap.size + 1))) (fun i _ => l.length - (intOf i).toNat)
  case atStart => exact ⟨0, by omega, rfl, rfl, by rw [fillTo_zero, HXL.out]; exact HO0.out, grown_refl _ _⟩
  case round =>
    obtain ⟨k, hk, rfl, herr, hown, hgr⟩ := hrel
    have HO := Lib.hid hown
    have HG := Lib.hid hgr
    have HE := Lib.hid herr
    have HB := Lib.hid (HW.out.grown hgr HW.out.size (fun j hj => by cases hj; omega))
    have HRL := Lib.hid (HR.out.grown hgr (by simp))
    have r0 := HRL.out.2.1
    have rf0 := HRL.out.2.2 0
    by_cases hlt : k < l.length
    · obtain ⟨b, off, rfl, _, hcl0⟩ := HC.out k (by rw [f64s_len]; exact hlt)
      have hcl := keep_below HB.out _ _ hcl0
      rw [f64s_get] at hcl
      obtain ⟨x, hx⟩ : ∃ x, x = l[k] := ⟨_, rfl⟩
      have HXK := Lib.hid (show xs[k]'(by rw [HXL.out]; exact hlt) = .float .f64 (oneW f x).1 by rw [hx]; exact HX.out k _ hlt)
      have HNX := Lib.hid (show Num x from HNN.out x (by rw [hx]; exact List.getElem_mem hlt))
      have HES := Lib.hid (show errL f (l.drop k) = if (oneW f x).2 = 0 then errL f (l.drop (k + 1)) else (oneW f x).2 from errL_step (by rw [hx]; exact List.getElem?_eq_getElem hlt))
      have hcw := owns_cell HO.out k (by rw [fillTo_len _ _ _ (by rw [HXL.out]; exact hk), HXL.out]; exact hlt)
      have hfr := World.ownsRow.frozenAt HO.out k
      rw [← hx] at hcl
      clear hown hgr hcl0 hx herr
      by_cases h0 : (oneW f x).2 = 0
      · have HE2 := Lib.hid (show errL f l = errL f (l.drop (k + 1)) by rw [HE.out, HES.out, if_pos h0])
        have H0 := Lib.hid h0
        clear h0
        go_wp2_with (refine (one_calls _ _ _ HNX.out).mono ?_; rintro e w' ⟨rfl, rfl⟩; rw [H0.out])
        go_roundw
        case rel =>
          refine ⟨k + 1, by omega, by go_num, HE2.out, ?_, grown_trans HG.out (grown_setCell _ ⟨w.heap.size + 1, k, none⟩ _)⟩
          have := (World.ownsRow.stored HO.out k (.float .f64 (oneW f x).1)).1
          rw [← HXK.out, fillTo_set] at this
          rw [← HXK.out]
          exact this
        case measure => simp [intOf]; omega
      · obtain ⟨er, her⟩ : ∃ er, (oneW f x).2 = er := ⟨_, rfl⟩
        have HER := Lib.hid her
        have HE2 := Lib.hid (show errL f l = er by rw [HE.out, HES.out, if_neg h0, her])
        have hne : (er != 0) = true := by rw [← her]; simp [h0]
        have HNE := Lib.hid (show er ≠ 0 by rw [← her]; exact h0)
        clear h0 her
        go_wp2_with (refine (one_calls _ _ _ HNX.out).mono ?_; rintro e w' ⟨rfl, rfl⟩; rw [HER.out])
        refine bodyPost_ret (v := .tuple #[.agg #[.nilIface], .int .i64 er]) (by simp [results, Tryd.results48, go_sem, r0]) rfl ⟨.nilIface, ?_, ?_, HB.out.setCell (Nat.le_refl _) _⟩
        · rw [HEE.out, HE2.out]
        · rw [HRR.out, HE2.out, if_neg HNE.out]; exact .none
    · have hkl : k = l.length := by omega
      have HE2 := Lib.hid (show errL f l = 0 by rw [HE.out, hkl, List.drop_length]; rfl)
      have HL := Lib.hid (show Slc wr (fun b => w.heap.size + 1 ≤ b) (.slice (some ⟨w.heap.size + 1, 0, none⟩) (outL f l).length l.length) (outL f l).length (f64s (outL f l)) by
        have := Slc.owned HO.out
        rw [hkl, ← HXL.out, fillTo_all, HXL.out, HXE.out] at this
        rwa [outL_len])
      have HON := Lib.hid (outL_num (f := f) HNN.out)
      have HT2 := Lib.hid (show TabAt wr from fun j hj => keep_below HB.out _ _ (HT.out j hj))
      rw [outL_len] at HL
      clear hown hgr hkl herr
      go_wp2_with fail
      refine (numbers_yes _ (outL f l) _ (by rw [outL_len]; exact HL.out) (by rw [outL_len]; exact HM.out) (fun x hx => (HON.out x hx).1) HT2.out).mono ?_
      rintro e W2 ⟨u', rfl, hu, hB2⟩
      rw [map_ze HON.out] at hu
      have hsu := hu.store
      have HU := Lib.hid (show IsV W2 (fun b => wr.heap.size ≤ b) u' (VV.floats (outL f l)).sq from hu)
      obtain ⟨W3, hW3⟩ : ∃ W3, W3 = W2.alloc (.cells #[u'] 37) := ⟨_, rfl⟩
      have HN := Lib.hid (show Below W2.heap.size W2 W3 by rw [hW3]; exact below_new _ _)
      have HU3 := Lib.hid (HU.out.grow HN.out)
      have HV := Lib.hid (show At1 W3 W2.heap.size u' by rw [hW3]; exact At1.new _ _ _)
      have HB3 := Lib.hid ((HB.out.trans (hB2.mono HB.out.size)).trans (HN.out.mono (Nat.le_trans HB.out.size hB2.size)))
      obtain ⟨_, r0, rf⟩ := (HRL.out.below hB2).below HN.out
      have rf0 := rf 0
      have HSZ := Lib.hid HRL.out.1
      obtain ⟨_, v0, _⟩ := HV.out
      have HFW := Lib.hid hW3.symm
      clear hu hB2 hW3 rf
      have hfold := HFW.out
      go_wp2_with fail
      refine bodyPost_ret (v := .tuple #[.agg #[u'], .int .i64 0]) (by simp [results, Tryd.results48, go_sem, r0]) rfl ⟨u', ?_, ?_, HB3.out.setCell (Nat.le_refl _) _⟩
      · rw [HEE.out, HE2.out]
      · rw [HRR.out, if_pos HE2.out]
        exact HU3.out.keep (Kept.setCell _ _ _ (by have := HSZ.out; simp <;> omega)) (fun b _ (h : wr.heap.size ≤ b) => Nat.le_trans HB.out.size h)
end Go.Proofs.YtohkohnihaockaaDoor

/- Package mono, walked: Apply. -/
namespace Go.Proofs.YtohkohnihaockaaDoor
set_option maxRecDepth 100000
open Go.RowKit Fl
set_option linter.unusedVariables false

set_option maxHeartbeats 8000000 in
theorem mapply_calls {ok : Nat → Prop} (f : Int) (u : Value) (V : VV) (w : World) (hu : IsV w ok u V) (hok : V.ok) (hn : V.nm) (hT : TabAt w) :
    Calls Tryd.prog 14 #[.int .i64 f, .agg #[u]] w fun e w' => ∃ u', e = .returned (.tuple #[.agg #[u'], .int .i64 (appE f V)]) ∧ IsV w' (fun b => (ok b ∧ b < w.heap.size) ∨ w.heap.size ≤ b) u' (appV f V) ∧ Below w.heap.size w w' := by
  have hsu := hu.store
  obtain ⟨W1, hW1⟩ : ∃ W1, W1 = (w.alloc (.cells #[u] 37)).alloc (.cells #[.nilIface] 37) := ⟨_, rfl⟩
  have HB := Lib.hid (show Below w.heap.size w W1 by rw [hW1]; exact (below_new _ _).alloc (by simp) _)
  have HSZ := Lib.hid (show W1.heap.size = w.heap.size + 2 by rw [hW1]; simp)
  have HA := Lib.hid (show At1 W1 w.heap.size u by rw [hW1]; exact (At1.new w _ _).below (below_new _ _))
  have HR := Lib.hid (show At1 W1 (w.heap.size + 1) .nilIface by rw [hW1]; have := At1.new (w.alloc (.cells #[u] 37)) .nilIface 37; simpa using this)
  have HU := Lib.hid (show IsV W1 (fun b => ok b ∧ b < w.heap.size) u V from hu.lt.grow HB.out)
  have HT := Lib.hid (show TabAt W1 from fun j hj => keep_below HB.out _ _ (hT j hj))
  have HOK := Lib.hid hok
  have HN := Lib.hid hn
  have HW1 := Lib.hid (Below.refl W1.heap.size W1)
  obtain ⟨R, hRR⟩ : ∃ R, R = appV f V := ⟨_, rfl⟩
  obtain ⟨E, hEE⟩ : ∃ E, E = appE f V := ⟨_, rfl⟩
  rw [← hRR, ← hEE]
  have HRR := Lib.hid hRR
  have HEE := Lib.hid hEE
  have hfold := hW1.symm
  clear hu hT hok hn hW1 hRR hEE
  have cHA0 := HA.out.2.1
  have cHR0 := HR.out.2.1
  have zHR0 := HR.out.2.2 0
  have hRRs := HR.out.1
  clear hRRs
  by_cases hf : 1 ≤ f ∧ f ≤ 8
  rotate_left
  · have HD := Lib.hid (decide_eq_false hf)
    have HE0 := Lib.hid (show appE f V = 1 by unfold appE; rw [if_neg hf])
    have HR0 := Lib.hid (show R = .none by rw [HRR.out]; exact appV_none (by rw [HE0.out]; decide))
    clear hf
    go_enter Tryd.func14, Tryd.ntmps14
    go_wp2_with (refine (known_calls _ _).mono ?_; rintro e w' ⟨rfl, rfl⟩; rw [HD.out])
    refine bodyPost_ret (v := .tuple #[.agg #[.nilIface], .int .i64 1]) (by simp [results, Tryd.results14, go_sem, cHR0]) rfl ⟨.nilIface, by rw [HEE.out, HE0.out], ?_, HB.out.setCell (Nat.le_succ _) _⟩
    rw [HR0.out]; exact .none
  have HD := Lib.hid (decide_eq_true hf)
  have HF := Lib.hid hf
  clear hf
  by_cases hc : V.cls = 0
  rotate_left
  · have HE0 := Lib.hid (show appE f V = 24 by unfold appE; rw [if_pos HF.out, if_neg hc])
    have HR0 := Lib.hid (show R = .none by rw [HRR.out]; exact appV_none (by rw [HE0.out]; decide))
    have hcb : (V.cls != 0) = true := by simp [hc]
    clear hc
    go_enter Tryd.func14, Tryd.ntmps14
    go_wp2_with (refine (known_calls _ _).mono ?_; rintro e w' ⟨rfl, rfl⟩; rw [HD.out])
    clear hfold
    refine (class_calls _ V _ HU.out).mono ?_
    rintro e W11 ⟨rfl, hB⟩
    clear cHA0 cHR0 zHR0
    replace HA := Lib.hid (HA.out.below hB)
    replace HR := Lib.hid (HR.out.below hB)
    replace HB := Lib.hid (HB.out.trans (hB.mono HB.out.size))
    replace HW1 := Lib.hid (HW1.out.trans (hB.mono HW1.out.size))
    replace HU := Lib.hid (HU.out.grow hB)
    replace HT := Lib.hid (fun j hj => keep_below hB _ _ (HT.out j hj))
    clear hB
    have cHA0 := HA.out.2.1
    have cHR0 := HR.out.2.1
    have zHR0 := HR.out.2.2 0
    go_wp2_with fail
    refine bodyPost_ret (v := .tuple #[.agg #[.nilIface], .int .i64 24]) (by simp [results, Tryd.results14, go_sem, cHR0]) rfl ⟨.nilIface, by rw [HEE.out, HE0.out], ?_, HB.out.setCell (Nat.le_succ _) _⟩
    rw [HR0.out]; exact .none
  have HC := Lib.hid hc
  clear hc
  go_enter Tryd.func14, Tryd.ntmps14
  go_wp2_with (refine (known_calls _ _).mono ?_; rintro e w' ⟨rfl, rfl⟩; rw [HD.out])
  clear hfold
  refine (class_calls _ V _ HU.out).mono ?_
  rintro e W11 ⟨rfl, hB⟩
  clear cHA0 cHR0 zHR0
  replace HA := Lib.hid (HA.out.below hB)
  replace HR := Lib.hid (HR.out.below hB)
  replace HB := Lib.hid (HB.out.trans (hB.mono HB.out.size))
  replace HW1 := Lib.hid (HW1.out.trans (hB.mono HW1.out.size))
  replace HU := Lib.hid (HU.out.grow hB)
  replace HT := Lib.hid (fun j hj => keep_below hB _ _ (HT.out j hj))
  rw [HC.out]
  clear hB
  have cHA0 := HA.out.2.1
  have cHR0 := HR.out.2.1
  go_wp2_with fail
  refine (packed_x _ V _ HU.out).mono ?_
  rintro e W12 ⟨vb, rfl, hbt, hB⟩
  clear cHA0 cHR0
  replace HA := Lib.hid (HA.out.below hB)
  replace HR := Lib.hid (HR.out.below hB)
  replace HB := Lib.hid (HB.out.trans (hB.mono HB.out.size))
  replace HW1 := Lib.hid (HW1.out.trans (hB.mono HW1.out.size))
  replace HU := Lib.hid (HU.out.grow hB)
  replace HT := Lib.hid (fun j hj => keep_below hB _ _ (HT.out j hj))
  obtain ⟨so9, rfl, hs9⟩ := hbt
  have HBT := Lib.hid (show IsBitsX W12 (fun b => ok b ∧ b < w.heap.size) _ V.packed from ⟨_, rfl, hs9⟩)
  obtain ⟨_, so, sc, rfl, _⟩ := hs9
  clear hB
  have hmf : ∀ (fn : Fn) (first cap : Array Value) (w : World), (Instr.makeFunc fn first cap).run Tryd.prog w = .ok (.func fn first cap) w := fun _ _ _ _ => rfl
  obtain ⟨W13, hWn⟩ : ∃ xw9, W12.alloc (.cells #[.int .i64 (V.packed.length : Int), .slice so ((V.packed.length + 63) / 64) sc] 64) = xw9 := ⟨_, rfl⟩
  have hB : Below W12.heap.size W12 W13 := by rw [← hWn]; exact below_new _ _
  have hNB : At2 W13 W12.heap.size (.int .i64 (V.packed.length : Int)) (.slice so ((V.packed.length + 63) / 64) sc) := by rw [← hWn]; exact At2.new _ _ _ _
  replace HA := Lib.hid (HA.out.below hB)
  replace HR := Lib.hid (HR.out.below hB)
  replace HB := Lib.hid (HB.out.trans (hB.mono HB.out.size))
  replace HW1 := Lib.hid (HW1.out.trans (hB.mono HW1.out.size))
  replace HU := Lib.hid (HU.out.grow hB)
  replace HT := Lib.hid (fun j hj => keep_below hB _ _ (HT.out j hj))
  replace HBT := Lib.hid (HBT.out.keep (Kept.below hB) (fun _ _ h => h))
  have HVB := Lib.hid hNB
  clear hNB hB
  by_cases hbk : V.isBit = true ∧ keepF f
  · have HBI := Lib.hid hbk.1
    have HKE := Lib.hid (decide_eq_true hbk.2)
    rw [hbk.1]
    have HRE := Lib.hid (show R = if appE f V = 0 then .bits (if f = 8 then V.packed.map (fun b => !b) else V.packed) else .none by rw [HRR.out]; unfold appV; rw [if_pos (show V.isBit = true ∧ keepF f from hbk)])
    have HKF := Lib.hid hbk.2
    have HBL := Lib.hid (show V.packed.length ≤ 1048576 by have h9 := HOK.out; have hb9 := hbk.1; cases V <;> simp [VV.isBit] at hb9; exact h9)
    have HLM := Lib.hid (show (if f = 8 then V.packed.map (fun b => !b) else V.packed).length ≤ 1048576 by have := HBL.out; split <;> simpa using this)
    have HE0 := Lib.hid (show appE f V = 0 by
      have hb9 := hbk.1
      have hc9 := HC.out
      unfold appE; rw [if_pos HF.out, if_pos hc9]
      cases V <;> simp [VV.isBit] at hb9
      refine errL_all fun x hx => ?_
      obtain ⟨b, _, rfl⟩ := List.mem_map.1 hx
      rw [oneW_flag HF.out.1 HF.out.2 hbk.2])
    replace HRE := Lib.hid (HRE.out.trans (if_pos HE0.out))
    clear hbk
    have cHA0 := HA.out.2.1
    have cHR0 := HR.out.2.1
    have zHR0 := HR.out.2.2 0
    have cHVB0 := HVB.out.2.1
    have cHVB1 := HVB.out.2.2.1
    go_wp2_with (refine (keeps_calls _ _).mono ?_; rintro e w' ⟨rfl, rfl⟩; rw [HKE.out])
    clear hWn
    have HO := HW1.out.size
    refine (offlags_calls f _ V.packed _ HBT.out HBL.out).mono ?_
    rintro e W14 ⟨vp, rfl, hvp, hB⟩
    clear cHA0 cHR0 zHR0 cHVB0 cHVB1
    replace HA := Lib.hid (HA.out.below hB)
    replace HR := Lib.hid (HR.out.below hB)
    replace HB := Lib.hid (HB.out.trans (hB.mono HB.out.size))
    replace HW1 := Lib.hid (HW1.out.trans (hB.mono HW1.out.size))
    replace HU := Lib.hid (HU.out.grow hB)
    replace HT := Lib.hid (fun j hj => keep_below hB _ _ (HT.out j hj))
    replace HBT := Lib.hid (HBT.out.keep (Kept.below hB) (fun _ _ h => h))
    replace HVB := Lib.hid (HVB.out.below hB)
    obtain ⟨LB, hLB⟩ : ∃ LB, LB = (if f = 8 then V.packed.map (fun b => !b) else V.packed) := ⟨_, rfl⟩
    rw [← hLB] at hvp HLM HRE
    have HLB := Lib.hid hLB
    clear hLB
    have HVP := Lib.hid (show IsBitsX W14 (fun b => (ok b ∧ b < w.heap.size) ∨ w.heap.size + 2 ≤ b) _ LB from hvp.keep (Kept.refl _ _) (fun b _ h => h.elim (fun h => Or.inl h.1) (fun (h : W13.heap.size ≤ b) => Or.inr (by have := HSZ.out; omega))))
    clear hvp HO
    clear hB
    go_wp2_with fail
    refine (vbits_ok _ LB _ HVP.out HLM.out).mono ?_
    rintro e W15 ⟨uq, rfl, huq, hB⟩
    replace HA := Lib.hid (HA.out.below hB)
    replace HR := Lib.hid (HR.out.below hB)
    replace HB := Lib.hid (HB.out.trans (hB.mono HB.out.size))
    replace HW1 := Lib.hid (HW1.out.trans (hB.mono HW1.out.size))
    replace HU := Lib.hid (HU.out.grow hB)
    replace HT := Lib.hid (fun j hj => keep_below hB _ _ (HT.out j hj))
    replace HBT := Lib.hid (HBT.out.keep (Kept.below hB) (fun _ _ h => h))
    replace HVB := Lib.hid (HVB.out.below hB)
    replace HVP := Lib.hid (HVP.out.keep (Kept.below hB) (fun _ _ h => h))
    have HQ := Lib.hid huq
    have hsq := huq.store
    clear huq
    clear hB
    have cHA0 := HA.out.2.1
    have cHR0 := HR.out.2.1
    have zHR0 := HR.out.2.2 0
    have cHVB0 := HVB.out.2.1
    have cHVB1 := HVB.out.2.2.1
    go_wp2_with fail
    refine bodyPost_ret (v := .tuple #[.agg #[uq], .int .i64 0]) (by simp [results, Tryd.results14, go_sem, cHR0]) rfl ⟨uq, by rw [HEE.out, HE0.out], ?_, HB.out.setCell (Nat.le_succ _) _⟩
    rw [HRE.out]
    exact HQ.out.keep (Kept.setCell _ _ _ (by simp <;> omega)) (fun b _ h => h.imp id (fun h => by omega))
  · have HE0 := Lib.hid (show appE f V = errL f V.nums by unfold appE; rw [if_pos HF.out, if_pos HC.out])
    have HRE := Lib.hid (show R = if errL f V.nums = 0 then (VV.floats (outL f V.nums)).sq else .none by rw [HRR.out]; unfold appV; rw [if_neg hbk, HE0.out])
    have HNN := Lib.hid (VV.nums_num HOK.out HN.out)
    have HNL := Lib.hid (show V.nums.length ≤ 1048576 by have := VV.ok_len HOK.out; have := VV.nums_lenle (V := V); omega)
    have HNB := Lib.hid hbk
    have cHA0 := HA.out.2.1
    have cHR0 := HR.out.2.1
    have zHR0 := HR.out.2.2 0
    have cHVB0 := HVB.out.2.1
    have cHVB1 := HVB.out.2.2.1
    rcases Classical.em (V.isBit = true) with hbit | hbit
    · have hk : ¬ keepF f := fun h => hbk ⟨hbit, h⟩
      have HKE := Lib.hid (decide_eq_false hk)
      rw [hbit]
      clear hk hbit hbk
      go_wp2_with (refine (keeps_calls _ _).mono ?_; rintro e w' ⟨rfl, rfl⟩; rw [HKE.out])
      clear hWn
      have HO := HW1.out.size
      refine (vnums_calls _ V _ HU.out HOK.out HT.out).mono ?_
      rintro e W14 ⟨vn, rfl, hvn, hB⟩
      clear cHA0 cHR0 zHR0 cHVB0 cHVB1
      replace HA := Lib.hid (HA.out.below hB)
      replace HR := Lib.hid (HR.out.below hB)
      replace HB := Lib.hid (HB.out.trans (hB.mono HB.out.size))
      replace HW1 := Lib.hid (HW1.out.trans (hB.mono HW1.out.size))
      replace HU := Lib.hid (HU.out.grow hB)
      replace HT := Lib.hid (fun j hj => keep_below hB _ _ (HT.out j hj))
      replace HBT := Lib.hid (HBT.out.keep (Kept.below hB) (fun _ _ h => h))
      replace HVB := Lib.hid (HVB.out.below hB)
      have HVN := Lib.hid hvn
      clear hvn HO
      clear hB
      have cHA0 := HA.out.2.1
      have cHR0 := HR.out.2.1
      have cHVB0 := HVB.out.2.1
      have cHVB1 := HVB.out.2.2.1
      go_wp2_with fail
      have HO := HW1.out.size
      refine (ofnumbers_calls f _ V.nums _ HVN.out HNL.out HNN.out HT.out).mono ?_
      rintro e W15 ⟨uq, rfl, huq, hB⟩
      clear cHA0 cHR0 cHVB0 cHVB1
      replace HA := Lib.hid (HA.out.below hB)
      replace HR := Lib.hid (HR.out.below hB)
      replace HB := Lib.hid (HB.out.trans (hB.mono HB.out.size))
      replace HW1 := Lib.hid (HW1.out.trans (hB.mono HW1.out.size))
      replace HU := Lib.hid (HU.out.grow hB)
      replace HT := Lib.hid (fun j hj => keep_below hB _ _ (HT.out j hj))
      replace HBT := Lib.hid (HBT.out.keep (Kept.below hB) (fun _ _ h => h))
      replace HVB := Lib.hid (HVB.out.below hB)
      replace HVN := Lib.hid (HVN.out.below hB)
      have HQ := Lib.hid (show IsV W15 (fun b => w.heap.size + 2 ≤ b) uq _ from huq.wide (fun b _ (h : _ ≤ b) => Nat.le_trans (by have := HSZ.out; omega) h))
      rw [← HRE.out] at HQ
      have hsq := huq.store
      clear huq HO
      clear hB
      have cHA0 := HA.out.2.1
      have cHR0 := HR.out.2.1
      have zHR0 := HR.out.2.2 0
      have cHVB0 := HVB.out.2.1
      have cHVB1 := HVB.out.2.2.1
      go_wp2_with fail
      refine bodyPost_ret (v := .tuple #[.agg #[uq], .int .i64 (errL f V.nums)]) (by simp [results, Tryd.results14, go_sem, cHR0]) rfl ⟨uq, by rw [HEE.out, HE0.out], ?_, HB.out.setCell (Nat.le_succ _) _⟩
      exact HQ.out.keep (Kept.setCell _ _ _ (by simp <;> omega)) (fun b _ (h : _ ≤ b) => Or.inr (by omega))
    
    · rw [show V.isBit = false by simpa using hbit]
      clear hbit hbk
      go_wp2_with fail
      clear hWn
      have HO := HW1.out.size
      refine (vnums_calls _ V _ HU.out HOK.out HT.out).mono ?_
      rintro e W14 ⟨vn, rfl, hvn, hB⟩
      clear cHA0 cHR0 zHR0 cHVB0 cHVB1
      replace HA := Lib.hid (HA.out.below hB)
      replace HR := Lib.hid (HR.out.below hB)
      replace HB := Lib.hid (HB.out.trans (hB.mono HB.out.size))
      replace HW1 := Lib.hid (HW1.out.trans (hB.mono HW1.out.size))
      replace HU := Lib.hid (HU.out.grow hB)
      replace HT := Lib.hid (fun j hj => keep_below hB _ _ (HT.out j hj))
      replace HBT := Lib.hid (HBT.out.keep (Kept.below hB) (fun _ _ h => h))
      replace HVB := Lib.hid (HVB.out.below hB)
      have HVN := Lib.hid hvn
      clear hvn HO
      clear hB
      have cHA0 := HA.out.2.1
      have cHR0 := HR.out.2.1
      have cHVB0 := HVB.out.2.1
      have cHVB1 := HVB.out.2.2.1
      go_wp2_with fail
      have HO := HW1.out.size
      refine (ofnumbers_calls f _ V.nums _ HVN.out HNL.out HNN.out HT.out).mono ?_
      rintro e W15 ⟨uq, rfl, huq, hB⟩
      clear cHA0 cHR0 cHVB0 cHVB1
      replace HA := Lib.hid (HA.out.below hB)
      replace HR := Lib.hid (HR.out.below hB)
      replace HB := Lib.hid (HB.out.trans (hB.mono HB.out.size))
      replace HW1 := Lib.hid (HW1.out.trans (hB.mono HW1.out.size))
      replace HU := Lib.hid (HU.out.grow hB)
      replace HT := Lib.hid (fun j hj => keep_below hB _ _ (HT.out j hj))
      replace HBT := Lib.hid (HBT.out.keep (Kept.below hB) (fun _ _ h => h))
      replace HVB := Lib.hid (HVB.out.below hB)
      replace HVN := Lib.hid (HVN.out.below hB)
      have HQ := Lib.hid (show IsV W15 (fun b => w.heap.size + 2 ≤ b) uq _ from huq.wide (fun b _ (h : _ ≤ b) => Nat.le_trans (by have := HSZ.out; omega) h))
      rw [← HRE.out] at HQ
      have hsq := huq.store
      clear huq HO
      clear hB
      have cHA0 := HA.out.2.1
      have cHR0 := HR.out.2.1
      have zHR0 := HR.out.2.2 0
      have cHVB0 := HVB.out.2.1
      have cHVB1 := HVB.out.2.2.1
      go_wp2_with fail
      refine bodyPost_ret (v := .tuple #[.agg #[uq], .int .i64 (errL f V.nums)]) (by simp [results, Tryd.results14, go_sem, cHR0]) rfl ⟨uq, by rw [HEE.out, HE0.out], ?_, HB.out.setCell (Nat.le_succ _) _⟩
      exact HQ.out.keep (Kept.setCell _ _ _ (by simp <;> omega)) (fun b _ (h : _ ≤ b) => Or.inr (by omega))
end Go.Proofs.YtohkohnihaockaaDoor

/- Layer 9: the reference's Apply, walked. -/
namespace Go.Proofs.YtohkohnihaockaaDoor
set_option maxRecDepth 100000
open Go.RowKit Fl
set_option linter.unusedVariables false

end Go.Proofs.YtohkohnihaockaaDoor

/- Layer 9's laws: awake, MonoOne. -/
namespace Go.Proofs.YtohkohnihaockaaDoor
set_option maxRecDepth 100000
open Go.RowKit Fl
set_option linter.unusedVariables false

def Yes (w : World) (e : Ending) (w' : World) : Prop := e = .returned (.bool true) ∧ Below w.heap.size w w'
theorem aw9_ze : ([4607182418800017408, 0, 4611686018427387904] : List Nat).map ze = [4607182418800017408, 0, 4611686018427387904] := by decide +kernel
theorem aw9_fin : ∀ x ∈ ([4607182418800017408, 0, 4611686018427387904] : List Nat), Fnt x := by
  intro x hx
  simp only [List.mem_cons, List.not_mem_nil, or_false] at hx
  rcases hx with rfl | rfl | rfl
  · exact one_fin
  · exact fin_zero
  · exact ⟨by decide, by decide⟩
theorem aw9_num : ∀ x ∈ ([4607182418800017408, 0, 4611686018427387904] : List Nat), Num x := by
  intro x hx
  simp only [List.mem_cons, List.not_mem_nil, or_false] at hx
  rcases hx with rfl | rfl | rfl
  · exact num_one
  · exact num_zero
  · exact ⟨⟨by decide, by decide⟩, by decide⟩
theorem aw9_num2 : ∀ x ∈ ([13830554455654793216, 0, 13835058055282163712] : List Nat), Num x := by
  intro x hx
  simp only [List.mem_cons, List.not_mem_nil, or_false] at hx
  rcases hx with rfl | rfl | rfl
  · exact ⟨neg_fin, by decide⟩
  · exact num_zero
  · exact ⟨⟨by decide, by decide⟩, by decide⟩
theorem aw9_neg : negw 4607182418800017408 = 13830554455654793216 ∧ negw 0 = 0 ∧ negw 4611686018427387904 = 13835058055282163712 := by decide +kernel
theorem aw9 {V : VV} (hV : V = (VV.floats (([4607182418800017408, 0, 4611686018427387904] : List Nat).map ze)).sq) :
    V.ok ∧ V.nm ∧ appE 2 V = 0 ∧ (appV 2 V).nums = [13830554455654793216, 0, 13835058055282163712] ∧ (appV 2 V).ok ∧ (appV 2 V).nm ∧ appE 8 V = 24 ∧ appV 8 V = .none := by
  subst hV
  rw [aw9_ze]
  have hok : (VV.floats ([4607182418800017408, 0, 4611686018427387904] : List Nat)).ok := by show (3 : Nat) ≤ 1048576; decide
  obtain ⟨_, s2, s3, s4, s5, _⟩ := VV.sq_spec hok (show (VV.floats _).nm from aw9_num)
  have h2 : appE 2 (VV.floats ([4607182418800017408, 0, 4611686018427387904] : List Nat)).sq = 0 := by
    unfold appE; rw [if_pos (by decide), if_pos (show (VV.floats ([4607182418800017408, 0, 4611686018427387904] : List Nat)).sq.cls = 0 from s3), s2]; rfl
  have h8 : appE 8 (VV.floats ([4607182418800017408, 0, 4611686018427387904] : List Nat)).sq = 24 := by
    unfold appE; rw [if_pos (by decide), if_pos (show (VV.floats ([4607182418800017408, 0, 4611686018427387904] : List Nat)).sq.cls = 0 from s3), s2]
    have hp := pw_pos 1074
    have v2 : V 4611686018427387904 = 2 * (pw 1074 : Int) := (wh_ofInt (n := 2) (c := 4611686018427387904) (by decide) (by decide +kernel)).2.2
    have e1 : oneW 8 4607182418800017408 = (0, 0) := by unfold oneW; simp only [V_one]; simp [show ¬ pw 1074 = 0 by omega]
    have e2 : oneW 8 0 = (4607182418800017408, 0) := by unfold oneW; simp [V_zero]
    have e3 : oneW 8 4611686018427387904 = (0, 24) := by
      unfold oneW
      rw [if_neg (by decide), if_neg (by decide), if_neg (by decide), if_neg (by decide), if_neg (by decide), if_neg (by decide), if_neg (by decide), if_pos rfl, v2, if_neg (by omega), if_neg (by omega)]
    show errL 8 [_, _, _] = 24
    simp [errL, e1, e2, e3]
  obtain ⟨a1, a2, a3, _, _⟩ := appV_spec s4 s5 h2
  refine ⟨s4, s5, h2, ?_, a2, a3, h8, appV_none (by rw [h8]; decide)⟩
  rw [a1, s2]
  show [(oneW 2 _).1, (oneW 2 _).1, (oneW 2 _).1] = _
  simp [oneW, aw9_neg.1, aw9_neg.2.1, aw9_neg.2.2]

set_option maxHeartbeats 8000000 in
theorem awake9_calls (w : World) (hT : TabAt w) : Calls Tryd.prog 7 #[] w (Yes w) := by
  obtain ⟨W1, hW1⟩ : ∃ W1, W1 = w.alloc (.cells #[.float .f64 4607182418800017408, .float .f64 0, .float .f64 4611686018427387904] 22) := ⟨_, rfl⟩
  have HB := Lib.hid (show Below w.heap.size w W1 by rw [hW1]; exact below_new _ _)
  have HV := Lib.hid (show Slc W1 (fun _ => True) (.slice (some ⟨w.heap.size, 0, none⟩) 3 3) [4607182418800017408, 0, 4611686018427387904].length (f64s [4607182418800017408, 0, 4611686018427387904]) by
    rw [hW1]; exact (Slc.owned (World.ownsRow_lit (base := 0) (e := 22) (size := 1) w #[.float .f64 4607182418800017408, .float .f64 0, .float .f64 4611686018427387904] 3 (Nat.zero_le _) (by unfold maxLen; omega) rfl)).keep (Kept.refl _ _) (fun _ _ _ => trivial))
  have HT := Lib.hid (show TabAt W1 from fun j hj => keep_below HB.out _ _ (hT j hj))
  have hfold := hW1.symm
  clear hW1 hT
  go_enter Tryd.func7, Tryd.ntmps7
  go_wp2_with fail
  clear hfold
  refine (numbers_yes _ [4607182418800017408, 0, 4611686018427387904] _ HV.out (by decide) aw9_fin HT.out).mono ?_
  rintro e W11 ⟨u0, rfl, hu0, hB⟩
  replace HB := Lib.hid (HB.out.trans (hB.mono HB.out.size))
  replace HT := Lib.hid (fun j hj => keep_below hB _ _ (HT.out j hj))
  replace HV := Lib.hid (HV.out.below hB)
  obtain ⟨V0, hV0⟩ : ∃ V0, V0 = (VV.floats (([4607182418800017408, 0, 4611686018427387904] : List Nat).map ze)).sq := ⟨_, rfl⟩
  have HA := Lib.hid (aw9 hV0)
  have HU := Lib.hid (show IsV W11 (fun _ => True) u0 V0 from by rw [hV0]; exact IsV.any hu0)
  have hs0 := HU.out.store
  clear hu0 hV0
  clear hB
  obtain ⟨W12, hWn⟩ : ∃ xw9, W11.alloc (.cells #[u0] 37) = xw9 := ⟨_, rfl⟩
  have hB : Below W11.heap.size W11 W12 := by rw [← hWn]; exact below_new _ _
  have hNB : At1 W12 W11.heap.size (u0) := by rw [← hWn]; exact At1.new _ _ _
  replace HB := Lib.hid (HB.out.trans (hB.mono HB.out.size))
  replace HT := Lib.hid (fun j hj => keep_below hB _ _ (HT.out j hj))
  replace HV := Lib.hid (HV.out.below hB)
  replace HU := Lib.hid (HU.out.grow hB)
  have H0 := Lib.hid hNB
  clear hNB hB
  have cH00 := H0.out.2.1
  go_wp2_with fail
  clear hWn
  refine (mapply_calls 2 _ V0 _ HU.out HA.out.1 HA.out.2.1 HT.out).mono ?_
  rintro e W13 ⟨u1, rfl, hu1, hB⟩
  clear cH00
  replace HB := Lib.hid (HB.out.trans (hB.mono HB.out.size))
  replace HT := Lib.hid (fun j hj => keep_below hB _ _ (HT.out j hj))
  replace HV := Lib.hid (HV.out.below hB)
  replace HU := Lib.hid (HU.out.grow hB)
  replace H0 := Lib.hid (H0.out.below hB)
  rw [HA.out.2.2.1]
  have HU1 := Lib.hid (IsV.any hu1)
  have hs1 := HU1.out.store
  clear hu1
  clear hB
  obtain ⟨W14, hWn⟩ : ∃ xw9, W13.alloc (.cells #[u1] 37) = xw9 := ⟨_, rfl⟩
  have hB : Below W13.heap.size W13 W14 := by rw [← hWn]; exact below_new _ _
  have hNB : At1 W14 W13.heap.size (u1) := by rw [← hWn]; exact At1.new _ _ _
  replace HB := Lib.hid (HB.out.trans (hB.mono HB.out.size))
  replace HT := Lib.hid (fun j hj => keep_below hB _ _ (HT.out j hj))
  replace HV := Lib.hid (HV.out.below hB)
  replace HU := Lib.hid (HU.out.grow hB)
  replace H0 := Lib.hid (H0.out.below hB)
  replace HU1 := Lib.hid (HU1.out.grow hB)
  have H1 := Lib.hid hNB
  clear hNB hB
  have cH00 := H0.out.2.1
  have cH10 := H1.out.2.1
  go_wp2_with fail
  clear hWn
  refine (mapply_calls 8 _ V0 _ HU.out HA.out.1 HA.out.2.1 HT.out).mono ?_
  rintro e W15 ⟨u2, rfl, hu2, hB⟩
  clear cH00 cH10
  replace HB := Lib.hid (HB.out.trans (hB.mono HB.out.size))
  replace HT := Lib.hid (fun j hj => keep_below hB _ _ (HT.out j hj))
  replace HV := Lib.hid (HV.out.below hB)
  replace HU := Lib.hid (HU.out.grow hB)
  replace H0 := Lib.hid (H0.out.below hB)
  replace HU1 := Lib.hid (HU1.out.grow hB)
  replace H1 := Lib.hid (H1.out.below hB)
  rw [HA.out.2.2.2.2.2.2.1]
  have HU2 := Lib.hid (IsV.any hu2)
  have hs2 := HU2.out.store
  clear hu2
  clear hB
  obtain ⟨W16, hWn⟩ : ∃ xw9, W15.alloc (.cells #[u2] 37) = xw9 := ⟨_, rfl⟩
  have hB : Below W15.heap.size W15 W16 := by rw [← hWn]; exact below_new _ _
  have hNB : At1 W16 W15.heap.size (u2) := by rw [← hWn]; exact At1.new _ _ _
  replace HB := Lib.hid (HB.out.trans (hB.mono HB.out.size))
  replace HT := Lib.hid (fun j hj => keep_below hB _ _ (HT.out j hj))
  replace HV := Lib.hid (HV.out.below hB)
  replace HU := Lib.hid (HU.out.grow hB)
  replace H0 := Lib.hid (H0.out.below hB)
  replace HU1 := Lib.hid (HU1.out.grow hB)
  replace H1 := Lib.hid (H1.out.below hB)
  replace HU2 := Lib.hid (HU2.out.grow hB)
  have H2 := Lib.hid hNB
  clear hNB hB
  have cH00 := H0.out.2.1
  have cH10 := H1.out.2.1
  have cH20 := H2.out.2.1
  go_wp2_with fail
  clear hWn
  refine (vnums_calls _ (appV 2 V0) _ HU1.out HA.out.2.2.2.2.1 HT.out).mono ?_
  rintro e W17 ⟨vn, rfl, hvn, hB⟩
  clear cH00 cH10 cH20
  replace HB := Lib.hid (HB.out.trans (hB.mono HB.out.size))
  replace HT := Lib.hid (fun j hj => keep_below hB _ _ (HT.out j hj))
  replace HV := Lib.hid (HV.out.below hB)
  replace HU := Lib.hid (HU.out.grow hB)
  replace H0 := Lib.hid (H0.out.below hB)
  replace HU1 := Lib.hid (HU1.out.grow hB)
  replace H1 := Lib.hid (H1.out.below hB)
  replace HU2 := Lib.hid (HU2.out.grow hB)
  replace H2 := Lib.hid (H2.out.below hB)
  rw [HA.out.2.2.2.1] at hvn
  have HVN := Lib.hid (show Slc W17 (fun _ => True) vn 3 (f64s [13830554455654793216, 0, 13835058055282163712]) from hvn.any)
  clear hvn
  clear hB
  have cH00 := H0.out.2.1
  have cH10 := H1.out.2.1
  have cH20 := H2.out.2.1
  go_wp2_with fail
  obtain ⟨W18, hWn⟩ : ∃ xw9, W17.alloc (.cells #[.float .f64 13830554455654793216, .float .f64 0, .float .f64 13835058055282163712] 22) = xw9 := ⟨_, rfl⟩
  have hB : Below W17.heap.size W17 W18 := by rw [← hWn]; exact below_new _ _
  have hNB : Slc W18 (fun _ => True) (.slice (some ⟨W17.heap.size, 0, none⟩) 3 3) 3 (f64s [13830554455654793216, 0, 13835058055282163712]) := by
    rw [← hWn]; exact (Slc.owned (World.ownsRow_lit (base := 0) (e := 22) (size := 1) W17 #[.float .f64 13830554455654793216, .float .f64 0, .float .f64 13835058055282163712] 3 (Nat.zero_le _) (by unfold maxLen; omega) rfl)).keep (Kept.refl _ _) (fun _ _ _ => trivial)
  rw [hWn]
  clear hWn
  clear cH00 cH10 cH20
  replace HB := Lib.hid (HB.out.trans (hB.mono HB.out.size))
  replace HT := Lib.hid (fun j hj => keep_below hB _ _ (HT.out j hj))
  replace HV := Lib.hid (HV.out.below hB)
  replace HU := Lib.hid (HU.out.grow hB)
  replace H0 := Lib.hid (H0.out.below hB)
  replace HU1 := Lib.hid (HU1.out.grow hB)
  replace H1 := Lib.hid (H1.out.below hB)
  replace HU2 := Lib.hid (HU2.out.grow hB)
  replace H2 := Lib.hid (H2.out.below hB)
  replace HVN := Lib.hid (HVN.out.below hB)
  have HSL := Lib.hid hNB
  clear hNB hB
  refine (floats_same _ _ [13830554455654793216, 0, 13835058055282163712] _ HVN.out HSL.out (by decide) aw9_num2).mono ?_
  rintro e W19 ⟨rfl, hB⟩
  replace HB := Lib.hid (HB.out.trans (hB.mono HB.out.size))
  replace HT := Lib.hid (fun j hj => keep_below hB _ _ (HT.out j hj))
  replace HV := Lib.hid (HV.out.below hB)
  replace HU := Lib.hid (HU.out.grow hB)
  replace H0 := Lib.hid (H0.out.below hB)
  replace HU1 := Lib.hid (HU1.out.grow hB)
  replace H1 := Lib.hid (H1.out.below hB)
  replace HU2 := Lib.hid (HU2.out.grow hB)
  replace H2 := Lib.hid (H2.out.below hB)
  replace HVN := Lib.hid (HVN.out.below hB)
  replace HSL := Lib.hid (HSL.out.below hB)
  clear hB
  have cH00 := H0.out.2.1
  have cH10 := H1.out.2.1
  have cH20 := H2.out.2.1
  go_wp2_with fail
  go_ret
  exact ⟨rfl, HB.out⟩

end Go.Proofs.YtohkohnihaockaaDoor

/- Layer 9's law: MonoOthers. -/
namespace Go.Proofs.YtohkohnihaockaaDoor
set_option maxRecDepth 100000
open Go.RowKit Fl
set_option linter.unusedVariables false

theorem app_other {f : Int} {V : VV} (hc : V.cls ≠ 0) : appE f V = (if 1 ≤ f ∧ f ≤ 8 then 24 else 1) ∧ appV f V = .none := by
  have e : appE f V = (if 1 ≤ f ∧ f ≤ 8 then 24 else 1) := by unfold appE; rw [if_neg hc]
  refine ⟨e, appV_none ?_⟩
  rw [e]; split <;> decide

set_option maxHeartbeats 16000000 in
theorem monoOthers_walk (f : Int) (v : Value) (l : List Int) (w : World) (hv : Slc w (fun _ => True) v l.length (i32s l)) (hm : l.length ≤ maxLen) (hT : TabAt w) :
    Calls Tryd.prog 5 #[.int .i64 f, v] w (Yes w) := by
  have HV := Lib.hid hv
  have HT := Lib.hid hT
  have HB := Lib.hid (Below.refl w.heap.size w)
  obtain ⟨ao, cap, rfl, _⟩ := hv.opened
  clear hv hT
  by_cases hlg : 200 < l.length
  · go_enter Tryd.func5, Tryd.ntmps5
    go_wp2_with fail
    refine (awake9_calls _ HT.out).mono ?_
    rintro e W11 ⟨rfl, hB⟩
    replace HB := Lib.hid (HB.out.trans (hB.mono HB.out.size))
    replace HT := Lib.hid (fun j hj => keep_below hB _ _ (HT.out j hj))
    replace HV := Lib.hid (HV.out.below hB)
    clear hB
    go_wp2_with fail
    go_ret
    exact ⟨rfl, HB.out⟩
  have HLL := Lib.hid (show l.length ≤ 200 by omega)
  have HL2 := Lib.hid (show l.length ≤ 2000000 by omega)
  have HOC := Lib.hid (app_other (f := f) (V := .chars l) (fun h => by cases h))
  have HOB := Lib.hid (app_other (f := f) (V := .boxes []) (fun h => by cases h))
  obtain ⟨E, hE⟩ : ∃ E : Int, E = (if 1 ≤ f ∧ f ≤ 8 then 24 else 1) := ⟨_, rfl⟩
  rw [← hE] at HOC HOB
  have HEE := Lib.hid hE
  clear hE
  go_enter Tryd.func5, Tryd.ntmps5
  go_wp2_with fail
  refine (vchars_calls _ l _ HV.out HL2.out).mono ?_
  rintro e W11 ⟨uc, rfl, huc, hB⟩
  replace HB := Lib.hid (HB.out.trans (hB.mono HB.out.size))
  replace HT := Lib.hid (fun j hj => keep_below hB _ _ (HT.out j hj))
  replace HV := Lib.hid (HV.out.below hB)
  have HC := Lib.hid huc
  clear huc
  clear hB
  go_wp2_with fail
  refine (mapply_calls f _ (.chars l) _ HC.out (show l.length ≤ 1048576 by have := HLL.out; omega) trivial HT.out).mono ?_
  rintro e W12 ⟨u1, rfl, hu1, hB⟩
  replace HB := Lib.hid (HB.out.trans (hB.mono HB.out.size))
  replace HT := Lib.hid (fun j hj => keep_below hB _ _ (HT.out j hj))
  replace HV := Lib.hid (HV.out.below hB)
  replace HC := Lib.hid (HC.out.grow hB)
  rw [HOC.out.1]
  rw [HOC.out.2] at hu1
  have HU1 := Lib.hid hu1.any
  have hs1 := HU1.out.store
  clear hu1
  clear hB
  obtain ⟨W13, hWn⟩ : ∃ xw9, W12.alloc (.cells #[u1] 37) = xw9 := ⟨_, rfl⟩
  have hB : Below W12.heap.size W12 W13 := by rw [← hWn]; exact below_new _ _
  have hNB : At1 W13 W12.heap.size (u1) := by rw [← hWn]; exact At1.new _ _ _
  replace HB := Lib.hid (HB.out.trans (hB.mono HB.out.size))
  replace HT := Lib.hid (fun j hj => keep_below hB _ _ (HT.out j hj))
  replace HV := Lib.hid (HV.out.below hB)
  replace HC := Lib.hid (HC.out.grow hB)
  replace HU1 := Lib.hid (HU1.out.grow hB)
  have H1 := Lib.hid hNB
  clear hNB hB
  have cH10 := H1.out.2.1
  go_wp2_with fail
  clear hWn
  refine (vboxes_calls _ [] _ (Arrs.nil _ (fun _ => True)) (by decide) (fun p hp => by cases hp)).mono ?_
  rintro e W14 ⟨ub, rfl, hub, hB⟩
  clear cH10
  replace HB := Lib.hid (HB.out.trans (hB.mono HB.out.size))
  replace HT := Lib.hid (fun j hj => keep_below hB _ _ (HT.out j hj))
  replace HV := Lib.hid (HV.out.below hB)
  replace HC := Lib.hid (HC.out.grow hB)
  replace HU1 := Lib.hid (HU1.out.grow hB)
  replace H1 := Lib.hid (H1.out.below hB)
  have HBX := Lib.hid hub
  clear hub
  clear hB
  have cH10 := H1.out.2.1
  go_wp2_with fail
  refine (mapply_calls f _ (.boxes []) _ HBX.out ⟨by decide, fun p hp => by cases hp⟩ trivial HT.out).mono ?_
  rintro e W15 ⟨u2, rfl, hu2, hB⟩
  clear cH10
  replace HB := Lib.hid (HB.out.trans (hB.mono HB.out.size))
  replace HT := Lib.hid (fun j hj => keep_below hB _ _ (HT.out j hj))
  replace HV := Lib.hid (HV.out.below hB)
  replace HC := Lib.hid (HC.out.grow hB)
  replace HU1 := Lib.hid (HU1.out.grow hB)
  replace H1 := Lib.hid (H1.out.below hB)
  replace HBX := Lib.hid (HBX.out.grow hB)
  rw [HOB.out.1]
  rw [HOB.out.2] at hu2
  have HU2 := Lib.hid hu2.any
  have hs2 := HU2.out.store
  clear hu2
  clear hB
  have hEE : (E == E) = true := by simp
  by_cases hf : 1 ≤ f ∧ f ≤ 8
  rotate_left
  · have hE1 : E = 1 := by rw [HEE.out, if_neg hf]
    subst hE1
    by_cases hf1 : f < 1
    · clear hf
      obtain ⟨W16, hWn⟩ : ∃ xw9, W15.alloc (.cells #[u2] 37) = xw9 := ⟨_, rfl⟩
      have hB : Below W15.heap.size W15 W16 := by rw [← hWn]; exact below_new _ _
      have hNB : At1 W16 W15.heap.size (u2) := by rw [← hWn]; exact At1.new _ _ _
      replace HB := Lib.hid (HB.out.trans (hB.mono HB.out.size))
      replace HT := Lib.hid (fun j hj => keep_below hB _ _ (HT.out j hj))
      replace HV := Lib.hid (HV.out.below hB)
      replace HC := Lib.hid (HC.out.grow hB)
      replace HU1 := Lib.hid (HU1.out.grow hB)
      replace H1 := Lib.hid (H1.out.below hB)
      replace HBX := Lib.hid (HBX.out.grow hB)
      replace HU2 := Lib.hid (HU2.out.grow hB)
      have H2 := Lib.hid hNB
      clear hNB hB
      have cH10 := H1.out.2.1
      have cH20 := H2.out.2.1
      go_wp2_with fail
      clear hWn
      refine (kind_calls _ .none _ HU1.out).mono ?_
      rintro e W17 ⟨rfl, hB⟩
      clear cH10 cH20
      replace HB := Lib.hid (HB.out.trans (hB.mono HB.out.size))
      replace HT := Lib.hid (fun j hj => keep_below hB _ _ (HT.out j hj))
      replace HV := Lib.hid (HV.out.below hB)
      replace HC := Lib.hid (HC.out.grow hB)
      replace HU1 := Lib.hid (HU1.out.grow hB)
      replace H1 := Lib.hid (H1.out.below hB)
      replace HBX := Lib.hid (HBX.out.grow hB)
      replace HU2 := Lib.hid (HU2.out.grow hB)
      replace H2 := Lib.hid (H2.out.below hB)
      clear hB
      have cH10 := H1.out.2.1
      have cH20 := H2.out.2.1
      go_wp2_with fail
      refine (kind_calls _ .none _ HU2.out).mono ?_
      rintro e W18 ⟨rfl, hB⟩
      clear cH10 cH20
      replace HB := Lib.hid (HB.out.trans (hB.mono HB.out.size))
      replace HT := Lib.hid (fun j hj => keep_below hB _ _ (HT.out j hj))
      replace HV := Lib.hid (HV.out.below hB)
      replace HC := Lib.hid (HC.out.grow hB)
      replace HU1 := Lib.hid (HU1.out.grow hB)
      replace H1 := Lib.hid (H1.out.below hB)
      replace HBX := Lib.hid (HBX.out.grow hB)
      replace HU2 := Lib.hid (HU2.out.grow hB)
      replace H2 := Lib.hid (H2.out.below hB)
      clear hB
      have cH10 := H1.out.2.1
      have cH20 := H2.out.2.1
      go_wp2_with fail
      refine (awake9_calls _ HT.out).mono ?_
      rintro e W19 ⟨rfl, hB⟩
      clear cH10 cH20
      replace HB := Lib.hid (HB.out.trans (hB.mono HB.out.size))
      replace HT := Lib.hid (fun j hj => keep_below hB _ _ (HT.out j hj))
      replace HV := Lib.hid (HV.out.below hB)
      replace HC := Lib.hid (HC.out.grow hB)
      replace HU1 := Lib.hid (HU1.out.grow hB)
      replace H1 := Lib.hid (H1.out.below hB)
      replace HBX := Lib.hid (HBX.out.grow hB)
      replace HU2 := Lib.hid (HU2.out.grow hB)
      replace H2 := Lib.hid (H2.out.below hB)
      clear hB
      have cH10 := H1.out.2.1
      have cH20 := H2.out.2.1
      go_wp2_with fail
      go_ret
      exact ⟨rfl, HB.out⟩
    · have hf8 : 8 < f := by omega
      clear hf
      obtain ⟨W16, hWn⟩ : ∃ xw9, W15.alloc (.cells #[u2] 37) = xw9 := ⟨_, rfl⟩
      have hB : Below W15.heap.size W15 W16 := by rw [← hWn]; exact below_new _ _
      have hNB : At1 W16 W15.heap.size (u2) := by rw [← hWn]; exact At1.new _ _ _
      replace HB := Lib.hid (HB.out.trans (hB.mono HB.out.size))
      replace HT := Lib.hid (fun j hj => keep_below hB _ _ (HT.out j hj))
      replace HV := Lib.hid (HV.out.below hB)
      replace HC := Lib.hid (HC.out.grow hB)
      replace HU1 := Lib.hid (HU1.out.grow hB)
      replace H1 := Lib.hid (H1.out.below hB)
      replace HBX := Lib.hid (HBX.out.grow hB)
      replace HU2 := Lib.hid (HU2.out.grow hB)
      have H2 := Lib.hid hNB
      clear hNB hB
      have cH10 := H1.out.2.1
      have cH20 := H2.out.2.1
      go_wp2_with fail
      clear hWn
      refine (kind_calls _ .none _ HU1.out).mono ?_
      rintro e W17 ⟨rfl, hB⟩
      clear cH10 cH20
      replace HB := Lib.hid (HB.out.trans (hB.mono HB.out.size))
      replace HT := Lib.hid (fun j hj => keep_below hB _ _ (HT.out j hj))
      replace HV := Lib.hid (HV.out.below hB)
      replace HC := Lib.hid (HC.out.grow hB)
      replace HU1 := Lib.hid (HU1.out.grow hB)
      replace H1 := Lib.hid (H1.out.below hB)
      replace HBX := Lib.hid (HBX.out.grow hB)
      replace HU2 := Lib.hid (HU2.out.grow hB)
      replace H2 := Lib.hid (H2.out.below hB)
      clear hB
      have cH10 := H1.out.2.1
      have cH20 := H2.out.2.1
      go_wp2_with fail
      refine (kind_calls _ .none _ HU2.out).mono ?_
      rintro e W18 ⟨rfl, hB⟩
      clear cH10 cH20
      replace HB := Lib.hid (HB.out.trans (hB.mono HB.out.size))
      replace HT := Lib.hid (fun j hj => keep_below hB _ _ (HT.out j hj))
      replace HV := Lib.hid (HV.out.below hB)
      replace HC := Lib.hid (HC.out.grow hB)
      replace HU1 := Lib.hid (HU1.out.grow hB)
      replace H1 := Lib.hid (H1.out.below hB)
      replace HBX := Lib.hid (HBX.out.grow hB)
      replace HU2 := Lib.hid (HU2.out.grow hB)
      replace H2 := Lib.hid (H2.out.below hB)
      clear hB
      have cH10 := H1.out.2.1
      have cH20 := H2.out.2.1
      go_wp2_with fail
      refine (awake9_calls _ HT.out).mono ?_
      rintro e W19 ⟨rfl, hB⟩
      clear cH10 cH20
      replace HB := Lib.hid (HB.out.trans (hB.mono HB.out.size))
      replace HT := Lib.hid (fun j hj => keep_below hB _ _ (HT.out j hj))
      replace HV := Lib.hid (HV.out.below hB)
      replace HC := Lib.hid (HC.out.grow hB)
      replace HU1 := Lib.hid (HU1.out.grow hB)
      replace H1 := Lib.hid (H1.out.below hB)
      replace HBX := Lib.hid (HBX.out.grow hB)
      replace HU2 := Lib.hid (HU2.out.grow hB)
      replace H2 := Lib.hid (H2.out.below hB)
      clear hB
      have cH10 := H1.out.2.1
      have cH20 := H2.out.2.1
      go_wp2_with fail
      go_ret
      exact ⟨rfl, HB.out⟩
  · have hE1 : E = 24 := by rw [HEE.out, if_pos hf]
    subst hE1
    have hf1 : ¬ f < 1 := by omega
    have hf8 : ¬ 8 < f := by omega
    clear hf
    obtain ⟨W16, hWn⟩ : ∃ xw9, W15.alloc (.cells #[u2] 37) = xw9 := ⟨_, rfl⟩
    have hB : Below W15.heap.size W15 W16 := by rw [← hWn]; exact below_new _ _
    have hNB : At1 W16 W15.heap.size (u2) := by rw [← hWn]; exact At1.new _ _ _
    replace HB := Lib.hid (HB.out.trans (hB.mono HB.out.size))
    replace HT := Lib.hid (fun j hj => keep_below hB _ _ (HT.out j hj))
    replace HV := Lib.hid (HV.out.below hB)
    replace HC := Lib.hid (HC.out.grow hB)
    replace HU1 := Lib.hid (HU1.out.grow hB)
    replace H1 := Lib.hid (H1.out.below hB)
    replace HBX := Lib.hid (HBX.out.grow hB)
    replace HU2 := Lib.hid (HU2.out.grow hB)
    have H2 := Lib.hid hNB
    clear hNB hB
    have cH10 := H1.out.2.1
    have cH20 := H2.out.2.1
    go_wp2_with fail
    clear hWn
    refine (kind_calls _ .none _ HU1.out).mono ?_
    rintro e W17 ⟨rfl, hB⟩
    clear cH10 cH20
    replace HB := Lib.hid (HB.out.trans (hB.mono HB.out.size))
    replace HT := Lib.hid (fun j hj => keep_below hB _ _ (HT.out j hj))
    replace HV := Lib.hid (HV.out.below hB)
    replace HC := Lib.hid (HC.out.grow hB)
    replace HU1 := Lib.hid (HU1.out.grow hB)
    replace H1 := Lib.hid (H1.out.below hB)
    replace HBX := Lib.hid (HBX.out.grow hB)
    replace HU2 := Lib.hid (HU2.out.grow hB)
    replace H2 := Lib.hid (H2.out.below hB)
    clear hB
    have cH10 := H1.out.2.1
    have cH20 := H2.out.2.1
    go_wp2_with fail
    refine (kind_calls _ .none _ HU2.out).mono ?_
    rintro e W18 ⟨rfl, hB⟩
    clear cH10 cH20
    replace HB := Lib.hid (HB.out.trans (hB.mono HB.out.size))
    replace HT := Lib.hid (fun j hj => keep_below hB _ _ (HT.out j hj))
    replace HV := Lib.hid (HV.out.below hB)
    replace HC := Lib.hid (HC.out.grow hB)
    replace HU1 := Lib.hid (HU1.out.grow hB)
    replace H1 := Lib.hid (H1.out.below hB)
    replace HBX := Lib.hid (HBX.out.grow hB)
    replace HU2 := Lib.hid (HU2.out.grow hB)
    replace H2 := Lib.hid (H2.out.below hB)
    clear hB
    have cH10 := H1.out.2.1
    have cH20 := H2.out.2.1
    go_wp2_with fail
    refine (awake9_calls _ HT.out).mono ?_
    rintro e W19 ⟨rfl, hB⟩
    clear cH10 cH20
    replace HB := Lib.hid (HB.out.trans (hB.mono HB.out.size))
    replace HT := Lib.hid (fun j hj => keep_below hB _ _ (HT.out j hj))
    replace HV := Lib.hid (HV.out.below hB)
    replace HC := Lib.hid (HC.out.grow hB)
    replace HU1 := Lib.hid (HU1.out.grow hB)
    replace H1 := Lib.hid (H1.out.below hB)
    replace HBX := Lib.hid (HBX.out.grow hB)
    replace HU2 := Lib.hid (HU2.out.grow hB)
    replace H2 := Lib.hid (H2.out.below hB)
    clear hB
    have cH10 := H1.out.2.1
    have cH20 := H2.out.2.1
    go_wp2_with fail
    go_ret
    exact ⟨rfl, HB.out⟩

theorem monoOthers_frame (w : World) (f : Int) (_ : (Lit.int .i64 f).wf = true) (v : Value) (l : List Int) (hr : RowC w v (l.map (Value.int .i32))) (_ : ∀ z ∈ l, (Lit.int .i32 z).wf = true) (hm : l.length ≤ maxLen) (hT : TabAt w) :
    Calls Tryd.prog 5 #[.int .i64 f, v] w fun e w' => e = .returned (.bool true) ∧ Below w.heap.size w w' :=
  monoOthers_walk f v l w (by have := hr.slc; rw [List.length_map] at this; exact this) hm hT
end Go.Proofs.YtohkohnihaockaaDoor

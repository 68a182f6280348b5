/- Merged: SqM, SqA, SqB, SqC, SqD, Walk2, SqE, SqF, SqO. -/
import Derived.Deep.RegionHeld3
import Derived.Test.YtnicoddkbcfijaaDoorMgNu1
import Derived.Test.YtnicoddkbcfijaaDoorMgVe1
import Derived.Test.YtnicoddkbcfijaaDoorMgBv1
/- Numbers and the least store that they fit: plain. -/
namespace Go.Proofs.YtnicoddkbcfijaaDoor
open Go.RowKit Fl
set_option linter.unusedVariables false

/-- The whole number of a word that is one. -/
def wnOf (x : Nat) : Int := V x / pw 1074
theorem wnOf_wh {x : Nat} {n : Int} (h : Wh x n) : wnOf x = n := by
  unfold wnOf
  rw [h.2.2]
  exact Int.mul_ediv_cancel _ (by have := pw_pos 1074; omega)
theorem wh_unique {x : Nat} {n m : Int} (h : Wh x n) (k : Wh x m) : n = m := (wnOf_wh h).symm.trans (wnOf_wh k)
theorem num_of_wh {x : Nat} {n : Int} (hx : Num x) (h : Wh x n) : x = floatOfInt .f64 n := by
  have h1 : Num (floatOfInt .f64 n) := by
    refine ⟨ofInt_fin n (by have := h.2.1; omega), fun hz => ?_⟩
    have hv := ofInt_val n h.2.1
    rw [V_eq_zero.2 hz] at hv
    have hp := pw_pos 1074
    have hn : n = 0 := by
      rcases Int.mul_eq_zero.1 hv.symm with h | h
      · exact h
      · omega
    subst hn
    decide +kernel
  exact V_inj hx h1 (h.2.2.trans (ofInt_val n h.2.1).symm)
/-- The least kind of a whole number; of a number. -/
def kindZ (n : Int) : Nat := if n = 0 ∨ n = 1 then 1 else if -128 ≤ n ∧ n ≤ 127 then 2 else 3
open Classical in
noncomputable def kindW (x : Nat) : Nat := if ∃ n, Wh x n then kindZ (wnOf x) else 4
theorem kindW_wh {x : Nat} {n : Int} (h : Wh x n) : kindW x = kindZ n := by unfold kindW; rw [if_pos ⟨n, h⟩, wnOf_wh h]
theorem kindW_no {x : Nat} (h : ∀ n, ¬ Wh x n) : kindW x = 4 := by unfold kindW; rw [if_neg (fun ⟨n, hn⟩ => h n hn)]
theorem kindZ_le (n : Int) : 1 ≤ kindZ n ∧ kindZ n ≤ 3 := by unfold kindZ; split <;> (try split) <;> omega
theorem kindW_le (x : Nat) : 1 ≤ kindW x ∧ kindW x ≤ 4 := by
  by_cases h : ∃ n, Wh x n
  · obtain ⟨n, hn⟩ := h
    rw [kindW_wh hn]
    have := kindZ_le n
    omega
  · rw [kindW_no (fun n hn => h ⟨n, hn⟩)]; omega
theorem kindW_lt {x : Nat} (h : kindW x < 4) : ∃ n, Wh x n ∧ kindW x = kindZ n := by
  by_cases hw : ∃ n, Wh x n
  · obtain ⟨n, hn⟩ := hw; exact ⟨n, hn, kindW_wh hn⟩
  · rw [kindW_no (fun n hn => hw ⟨n, hn⟩)] at h; omega
/-- The least kind of numbers. -/
noncomputable def leastW (l : List Nat) : Nat := l.foldl (fun k x => max k (kindW x)) 1
theorem leastW_nil : leastW [] = 1 := rfl
theorem foldl_max (l : List Nat) : ∀ a, l.foldl (fun k x => max k (kindW x)) a = max a (l.foldl (fun k x => max k (kindW x)) 0) := by
  induction l with
  | nil => intro a; simp
  | cons x l ih => intro a; rw [List.foldl_cons, List.foldl_cons, ih, ih (max 0 (kindW x))]; omega
theorem leastW_append (l m : List Nat) : leastW (l ++ m) = max (leastW l) (leastW m) := by
  unfold leastW
  rw [List.foldl_append, foldl_max m (List.foldl _ 1 l), foldl_max m 1, foldl_max l 1]
  omega
theorem leastW_one (x : Nat) : leastW [x] = kindW x := by unfold leastW; have := kindW_le x; simp; omega
theorem leastW_cons (x : Nat) (l : List Nat) : leastW (x :: l) = max (kindW x) (leastW l) := by
  have := leastW_append [x] l
  rwa [leastW_one] at this
theorem leastW_take {l : List Nat} {k : Nat} {x : Nat} (h : l[k]? = some x) : leastW (l.take (k + 1)) = max (leastW (l.take k)) (kindW x) := by
  obtain ⟨hk, e⟩ := List.getElem?_eq_some_iff.1 h
  rw [List.take_succ_eq_append_getElem hk, leastW_append, e, leastW_one]
theorem leastW_le (l : List Nat) : 1 ≤ leastW l ∧ leastW l ≤ 4 := by
  induction l with
  | nil => rw [leastW_nil]; omega
  | cons x l ih => rw [leastW_cons]; have := kindW_le x; omega
theorem leastW_mem {l : List Nat} {x : Nat} (h : x ∈ l) : kindW x ≤ leastW l := by
  induction l with
  | nil => cases h
  | cons y l ih =>
    rw [leastW_cons]
    rcases List.mem_cons.1 h with rfl | h
    · omega
    · have := ih h; omega
theorem leastW_all {l : List Nat} {k : Nat} (h1 : 1 ≤ k) (h : ∀ x ∈ l, kindW x ≤ k) : leastW l ≤ k := by
  induction l with
  | nil => rw [leastW_nil]; exact h1
  | cons y l ih =>
    rw [leastW_cons]
    have a := h y List.mem_cons_self
    have b := ih (fun x hx => h x (List.mem_cons_of_mem _ hx))
    omega
theorem leastW_le_iff {l : List Nat} {k : Nat} (h1 : 1 ≤ k) : leastW l ≤ k ↔ ∀ x ∈ l, kindW x ≤ k := ⟨fun h x hx => Nat.le_trans (leastW_mem hx) h, leastW_all h1⟩
theorem leastW_four {l : List Nat} {x : Nat} (h : x ∈ l) (hx : kindW x = 4) : leastW l = 4 := by have a := leastW_mem h; have b := (leastW_le l).2; omega
/-- Numbers of a kind below 4 are whole numbers. -/
theorem whole_list {l : List Nat} (hN : ∀ x ∈ l, Num x) (h : leastW l < 4) : l = (l.map wnOf).map (floatOfInt .f64) ∧ ∀ n ∈ l.map wnOf, n.natAbs ≤ 9007199254740992 ∧ kindZ n ≤ leastW l := by
  constructor
  · rw [List.map_map]
    apply List.ext_getElem (by simp)
    intro i h1 h2
    have hm := List.getElem_mem h1
    have hk := leastW_mem hm
    obtain ⟨n, hn, _⟩ := kindW_lt (x := l[i]) (by omega)
    simp only [List.getElem_map, Function.comp]
    rw [wnOf_wh hn]
    exact num_of_wh (hN _ hm) hn
  · intro n hn
    obtain ⟨x, hx, rfl⟩ := List.mem_map.1 hn
    have hk := leastW_mem hx
    obtain ⟨m, hm, e⟩ := kindW_lt (x := x) (by omega)
    rw [wnOf_wh hm]
    exact ⟨hm.2.1, by omega⟩
end Go.Proofs.YtnicoddkbcfijaaDoor

/- The reference's kinds of numbers, walked: Least, Fits. -/
namespace Go.Proofs.YtnicoddkbcfijaaDoor
open Go.RowKit Fl
set_option linter.unusedVariables false
set_option maxRecDepth 8000

theorem ord_int {x c : Nat} {n m : Int} (h : Wh x n) (hm : m.natAbs ≤ 9007199254740992) (hc : floatOfInt .f64 m = c) :
    (n < m ∧ FloatKind.f64.format.order x c = some .lt) ∨ (n = m ∧ FloatKind.f64.format.order x c = some .eq) ∨ (m < n ∧ FloatKind.f64.format.order x c = some .gt) := by
  subst hc
  have := wh_lt h (ofInt_fin m (by omega)) (ofInt_val m hm)
  rcases Int.lt_trichotomy n m with hlt | heq | hgt
  · exact .inl ⟨hlt, this.1 hlt⟩
  · exact .inr (.inl ⟨heq, this.2.1 heq⟩)
  · exact .inr (.inr ⟨hgt, this.2.2 hgt⟩)
theorem c_m128 : floatOfInt .f64 (-128) = 13862079653046386688 := by decide +kernel
theorem c_127 : floatOfInt .f64 127 = 4638637247447433216 := by decide +kernel
theorem c_0 : floatOfInt .f64 0 = 0 := by decide +kernel
theorem c_1 : floatOfInt .f64 1 = 4607182418800017408 := by decide +kernel
theorem kz3 {n : Int} (h : n < -128 ∨ 127 < n) : kindZ n = 3 := by unfold kindZ; rw [if_neg (by omega), if_neg (by omega)]
theorem kz2 {n : Int} (h1 : -128 ≤ n) (h2 : n ≤ 127) (h3 : n ≠ 0) (h4 : n ≠ 1) : kindZ n = 2 := by unfold kindZ; rw [if_neg (by omega), if_pos ⟨h1, h2⟩]
theorem kz1 {n : Int} (h : n = 0 ∨ n = 1) : kindZ n = 1 := by unfold kindZ; rw [if_pos h]

set_option maxHeartbeats 4000000 in
theorem rleast_calls {ok : Nat → Prop} (v : Value) (l : List Nat) (w : World) (hv : Slc w ok v l.length (f64s l)) (hm : l.length ≤ 9223372036854775807) (hN : ∀ x ∈ l, Num x) :
    Calls Tryd.prog 14 #[v] w fun e w' => e = .returned (.int .i64 (leastW l : Int)) ∧ w = w' := by
  have HV := Lib.hid hv
  have HNu := Lib.hid hN
  obtain ⟨ao, cap, rfl, _⟩ := hv.opened
  clear hv hN
  have z1 : (some Ordering.lt != some Ordering.eq) = true := by decide
  have z2 : (some Ordering.gt != some Ordering.eq) = true := by decide
  have z3 : (some Ordering.eq != some Ordering.eq) = false := by decide
  go_enter Tryd.func14, Tryd.ntmps14
  go_wp2
  go_loopw [3, 4] (fun q i wr => ∃ k : Nat, k ≤ l.length ∧ i = .int .i64 k ∧ q = .int .i64 (leastW (l.take k) : Int) ∧ wr = w ∧ leastW (l.take k) ≤ 3) (fun _ i _ => l.length - (intOf i).toNat)
  case atStart => exact ⟨0, by omega, rfl, by rw [List.take_zero, leastW_nil]; rfl, rfl, by rw [List.take_zero, leastW_nil]; omega⟩
  case round =>
    obtain ⟨k, hk, rfl, rfl, rfl, h3⟩ := hrel
    have hge := (leastW_le (l.take k)).1
    obtain ⟨q, hq⟩ : ∃ q, q = leastW (l.take k) := ⟨_, rfl⟩
    have HQ := Lib.hid hq
    rw [← hq] at h3 hge ⊢
    clear hq
    by_cases hlt : k < l.length
    · obtain ⟨b, off, cap', x, e1, hx, hcx⟩ := Slc.at_map (Value.float .f64) (show Slc _ ok (.slice ao l.length cap) l.length (l.map (Value.float .f64)) from HV.out) k hlt
      obtain ⟨e1a, e1b⟩ : ao = some ⟨b, off, none⟩ ∧ cap = cap' := by cases e1; exact ⟨rfl, rfl⟩
      subst e1a
      have HX := Lib.hid hx
      have HNx := Lib.hid (HNu.out x (List.mem_of_getElem? hx))
      have HTK := Lib.hid (leastW_take hx)
      rw [← HQ.out] at HTK
      clear hx e1 e1b
      by_cases hw : ∃ n, Wh x n
      · obtain ⟨n, hn⟩ := hw
        have HWn := Lib.hid hn
        rw [kindW_wh hn] at HTK
        have o1 := ord_int hn (m := -128) (by decide) c_m128
        have o2 := ord_int hn (m := 127) (by decide) c_127
        have o3 := ord_int hn (m := 0) (by decide) c_0
        have o4 := ord_int hn (m := 1) (by decide) c_1
        clear hn
        rcases o1 with ⟨g1, o1⟩ | ⟨g1, o1⟩ | ⟨g1, o1⟩
        · have HK := Lib.hid (show leastW (l.take (k + 1)) = 3 by rw [HTK.out, kz3 (.inl g1)]; omega)
          rcases o3 with ⟨g3, o3⟩ | ⟨g3, o3⟩ | ⟨g3, o3⟩
          · rcases o4 with ⟨g4, o4⟩ | ⟨g4, o4⟩ | ⟨g4, o4⟩
            · clear o2
              go_wp2_with fail
              refine (rwhole_yes x n _ HWn.out).mono ?_
              rintro e w' ⟨rfl, rfl⟩
              go_wp2
              go_roundw
              case rel => exact ⟨k + 1, by omega, by go_num, by rw [HK.out]; rfl, by trivial, by rw [HK.out]; omega⟩
              case measure => simp [intOf]; omega
            · omega
            · omega
          · omega
          · omega
        · rcases o2 with ⟨g2, o2⟩ | ⟨g2, o2⟩ | ⟨g2, o2⟩
          · rcases o3 with ⟨g3, o3⟩ | ⟨g3, o3⟩ | ⟨g3, o3⟩
            · rcases o4 with ⟨g4, o4⟩ | ⟨g4, o4⟩ | ⟨g4, o4⟩
              · by_cases hq2 : q < 2
                · have HK := Lib.hid (show leastW (l.take (k + 1)) = 2 by rw [HTK.out, kz2 (by omega) (by omega) (by omega) (by omega)]; omega)
                  go_wp2_with fail
                  refine (rwhole_yes x n _ HWn.out).mono ?_
                  rintro e w' ⟨rfl, rfl⟩
                  go_wp2
                  go_roundw
                  case rel => exact ⟨k + 1, by omega, by go_num, by rw [HK.out]; rfl, by trivial, by rw [HK.out]; omega⟩
                  case measure => simp [intOf]; omega
                · have HK := Lib.hid (show leastW (l.take (k + 1)) = q by rw [HTK.out, kz2 (by omega) (by omega) (by omega) (by omega)]; omega)
                  go_wp2_with fail
                  refine (rwhole_yes x n _ HWn.out).mono ?_
                  rintro e w' ⟨rfl, rfl⟩
                  go_wp2
                  go_roundw
                  case rel => exact ⟨k + 1, by omega, by go_num, by rw [HK.out], by trivial, by rw [HK.out]; omega⟩
                  case measure => simp [intOf]; omega
              · omega
              · omega
            · omega
            · omega
          · omega
          · omega
        · rcases o2 with ⟨g2, o2⟩ | ⟨g2, o2⟩ | ⟨g2, o2⟩
          · rcases o3 with ⟨g3, o3⟩ | ⟨g3, o3⟩ | ⟨g3, o3⟩
            · rcases o4 with ⟨g4, o4⟩ | ⟨g4, o4⟩ | ⟨g4, o4⟩
              · by_cases hq2 : q < 2
                · have HK := Lib.hid (show leastW (l.take (k + 1)) = 2 by rw [HTK.out, kz2 (by omega) (by omega) (by omega) (by omega)]; omega)
                  go_wp2_with fail
                  refine (rwhole_yes x n _ HWn.out).mono ?_
                  rintro e w' ⟨rfl, rfl⟩
                  go_wp2
                  go_roundw
                  case rel => exact ⟨k + 1, by omega, by go_num, by rw [HK.out]; rfl, by trivial, by rw [HK.out]; omega⟩
                  case measure => simp [intOf]; omega
                · have HK := Lib.hid (show leastW (l.take (k + 1)) = q by rw [HTK.out, kz2 (by omega) (by omega) (by omega) (by omega)]; omega)
                  go_wp2_with fail
                  refine (rwhole_yes x n _ HWn.out).mono ?_
                  rintro e w' ⟨rfl, rfl⟩
                  go_wp2
                  go_roundw
                  case rel => exact ⟨k + 1, by omega, by go_num, by rw [HK.out], by trivial, by rw [HK.out]; omega⟩
                  case measure => simp [intOf]; omega
              · omega
              · omega
            · have HK := Lib.hid (show leastW (l.take (k + 1)) = q by rw [HTK.out, kz1 (.inl g3)]; omega)
              clear o4
              go_wp2_with fail
              refine (rwhole_yes x n _ HWn.out).mono ?_
              rintro e w' ⟨rfl, rfl⟩
              go_wp2
              go_roundw
              case rel => exact ⟨k + 1, by omega, by go_num, by rw [HK.out], by trivial, by rw [HK.out]; omega⟩
              case measure => simp [intOf]; omega
            · rcases o4 with ⟨g4, o4⟩ | ⟨g4, o4⟩ | ⟨g4, o4⟩
              · omega
              · have HK := Lib.hid (show leastW (l.take (k + 1)) = q by rw [HTK.out, kz1 (.inr g4)]; omega)
                go_wp2_with fail
                refine (rwhole_yes x n _ HWn.out).mono ?_
                rintro e w' ⟨rfl, rfl⟩
                go_wp2
                go_roundw
                case rel => exact ⟨k + 1, by omega, by go_num, by rw [HK.out], by trivial, by rw [HK.out]; omega⟩
                case measure => simp [intOf]; omega
              · by_cases hq2 : q < 2
                · have HK := Lib.hid (show leastW (l.take (k + 1)) = 2 by rw [HTK.out, kz2 (by omega) (by omega) (by omega) (by omega)]; omega)
                  go_wp2_with fail
                  refine (rwhole_yes x n _ HWn.out).mono ?_
                  rintro e w' ⟨rfl, rfl⟩
                  go_wp2
                  go_roundw
                  case rel => exact ⟨k + 1, by omega, by go_num, by rw [HK.out]; rfl, by trivial, by rw [HK.out]; omega⟩
                  case measure => simp [intOf]; omega
                · have HK := Lib.hid (show leastW (l.take (k + 1)) = q by rw [HTK.out, kz2 (by omega) (by omega) (by omega) (by omega)]; omega)
                  go_wp2_with fail
                  refine (rwhole_yes x n _ HWn.out).mono ?_
                  rintro e w' ⟨rfl, rfl⟩
                  go_wp2
                  go_roundw
                  case rel => exact ⟨k + 1, by omega, by go_num, by rw [HK.out], by trivial, by rw [HK.out]; omega⟩
                  case measure => simp [intOf]; omega
          · have HK := Lib.hid (show leastW (l.take (k + 1)) = max q 2 by rw [HTK.out, kz2 (by omega) (by omega) (by omega) (by omega)])
            rcases o3 with ⟨g3, o3⟩ | ⟨g3, o3⟩ | ⟨g3, o3⟩
            · omega
            · omega
            · rcases o4 with ⟨g4, o4⟩ | ⟨g4, o4⟩ | ⟨g4, o4⟩
              · omega
              · omega
              · by_cases hq2 : q < 2
                · have HK2 := Lib.hid (show leastW (l.take (k + 1)) = 2 by rw [HK.out]; omega)
                  go_wp2_with fail
                  refine (rwhole_yes x n _ HWn.out).mono ?_
                  rintro e w' ⟨rfl, rfl⟩
                  go_wp2
                  go_roundw
                  case rel => exact ⟨k + 1, by omega, by go_num, by rw [HK2.out]; rfl, by trivial, by rw [HK2.out]; omega⟩
                  case measure => simp [intOf]; omega
                · have HK2 := Lib.hid (show leastW (l.take (k + 1)) = q by rw [HK.out]; omega)
                  go_wp2_with fail
                  refine (rwhole_yes x n _ HWn.out).mono ?_
                  rintro e w' ⟨rfl, rfl⟩
                  go_wp2
                  go_roundw
                  case rel => exact ⟨k + 1, by omega, by go_num, by rw [HK2.out], by trivial, by rw [HK2.out]; omega⟩
                  case measure => simp [intOf]; omega
          · have HK := Lib.hid (show leastW (l.take (k + 1)) = 3 by rw [HTK.out, kz3 (.inr g2)]; omega)
            rcases o3 with ⟨g3, o3⟩ | ⟨g3, o3⟩ | ⟨g3, o3⟩
            · omega
            · omega
            · rcases o4 with ⟨g4, o4⟩ | ⟨g4, o4⟩ | ⟨g4, o4⟩
              · omega
              · omega
              · go_wp2_with fail
                refine (rwhole_yes x n _ HWn.out).mono ?_
                rintro e w' ⟨rfl, rfl⟩
                go_wp2
                go_roundw
                case rel => exact ⟨k + 1, by omega, by go_num, by rw [HK.out]; rfl, by trivial, by rw [HK.out]; omega⟩
                case measure => simp [intOf]; omega
      · have HW0 := Lib.hid (show ∀ n, ¬ Wh x n from fun n hn => hw ⟨n, hn⟩)
        have H4 := Lib.hid (leastW_four (List.mem_of_getElem? HX.out) (kindW_no HW0.out))
        clear hw
        go_wp2_with fail
        refine (rwhole_no x _ HNx.out.1.1 HW0.out).mono ?_
        rintro e w' ⟨rfl, rfl⟩
        go_wp2
        go_ret
        exact ⟨ret_i (by rw [H4.out]; rfl), rfl⟩
    · have hkl : k = l.length := by omega
      have HE := Lib.hid (show leastW l = q by have := HQ.out; rw [hkl, List.take_length] at this; exact this.symm)
      clear hkl
      go_wp2
      go_ret
      exact ⟨ret_i (by rw [HE.out]), rfl⟩
theorem rfits_calls {ok : Nat → Prop} (v : Value) (l : List Nat) (kind : Int) (w : World) (hv : Slc w ok v l.length (f64s l)) (hm : l.length ≤ 9223372036854775807) (hN : ∀ x ∈ l, Num x) :
    Calls Tryd.prog 18 #[v, .int .i64 kind] w fun e w' => e = .returned (.bool (decide ((leastW l : Int) ≤ kind) && decide (kind ≤ 4))) ∧ w = w' := by
  have HV := Lib.hid hv
  have HNu := Lib.hid hN
  clear hv hN
  by_cases h1 : (leastW l : Int) ≤ kind
  · have hd : decide ((leastW l : Int) ≤ kind) = true := decide_eq_true h1
    have HD := Lib.hid hd
    by_cases h2 : kind ≤ 4
    · go_enter Tryd.func18, Tryd.ntmps18
      go_wp2_with fail
      refine (rleast_calls _ l _ HV.out hm HNu.out).mono ?_
      rintro e w1 ⟨rfl, rfl⟩
      go_wp2
      go_ret
      exact ⟨ret_b (by rw [HD.out, decide_eq_true h2]; rfl), rfl⟩
    · go_enter Tryd.func18, Tryd.ntmps18
      go_wp2_with fail
      refine (rleast_calls _ l _ HV.out hm HNu.out).mono ?_
      rintro e w1 ⟨rfl, rfl⟩
      go_wp2
      go_ret
      exact ⟨ret_b (by rw [HD.out, Bool.true_and]), rfl⟩
  · have hd : decide ((leastW l : Int) ≤ kind) = false := decide_eq_false h1
    have HD := Lib.hid hd
    go_enter Tryd.func18, Tryd.ntmps18
    go_wp2_with fail
    refine (rleast_calls _ l _ HV.out hm HNu.out).mono ?_
    rintro e w1 ⟨rfl, rfl⟩
    go_wp2
    go_ret
    exact ⟨ret_b (by rw [HD.out]; rfl), rfl⟩
end Go.Proofs.YtnicoddkbcfijaaDoor

/- Package squeeze, walked: numeric, Common, leastOf, packed, whole. -/
namespace Go.Proofs.YtnicoddkbcfijaaDoor
open Go.RowKit Fl
set_option linter.unusedVariables false
set_option maxRecDepth 8000

theorem numeric_calls (k : Int) (w : World) : Calls Tryd.prog 36 #[.int .i64 k] w fun e w' => e = .returned (.bool (decide (1 ≤ k ∧ k ≤ 4))) ∧ w = w' := by
  by_cases h1 : (1 : Int) ≤ k
  · by_cases h2 : k ≤ (4 : Int)
    · have HD := Lib.hid (decide_eq_true (show 1 ≤ k ∧ k ≤ 4 from ⟨h1, h2⟩))
      go_enter Tryd.func36, Tryd.ntmps36
      go_wp2
      go_ret
      exact ⟨ret_b (by first | rfl | (rw [HD.out]; done) | (rw [HD.out]; rfl) | (simp; omega)), rfl⟩
    · have HD := Lib.hid (decide_eq_false (show ¬ (1 ≤ k ∧ k ≤ 4) from fun h => h2 h.2))
      go_enter Tryd.func36, Tryd.ntmps36
      go_wp2
      go_ret
      exact ⟨ret_b (by first | (simp; omega) | (simp; done) | (rw [HD.out]; rfl)), rfl⟩
  · have HD := Lib.hid (decide_eq_false (show ¬ (1 ≤ k ∧ k ≤ 4) from fun h => h1 h.1))
    go_enter Tryd.func36, Tryd.ntmps36
    go_wp2
    go_ret
    exact ⟨ret_b (by first | (simp; omega) | (simp; done) | (rw [HD.out]; rfl)), rfl⟩
/-- The least kind that holds what two kinds hold. -/
def commonK (a b : Int) : Int := if a = b then a else if (1 ≤ a ∧ a ≤ 4) ∧ (1 ≤ b ∧ b ≤ 4) then max a b else 0
theorem kind_one {x : Nat} (h : Num x) (h1 : V x = 0 ∨ V x = pw 1074) : kindW x = 1 := by
  have hp := pw_pos 1074
  rcases h1 with h1 | h1
  · rw [kindW_wh (x := x) (n := 0) ⟨h.1, by decide, by rw [h1]; simp⟩]; rfl
  · rw [kindW_wh (x := x) (n := 1) ⟨h.1, by decide, by rw [h1]; simp⟩]; rfl
theorem kind_one' {x : Nat} (h : Num x) (h1 : kindW x = 1) : V x = 0 ∨ V x = pw 1074 := by
  obtain ⟨n, hn, e⟩ := kindW_lt (x := x) (by omega)
  rw [h1] at e
  have : n = 0 ∨ n = 1 := by unfold kindZ at e; split at e; assumption; split at e <;> omega
  have hv := hn.2.2
  rcases this with rfl | rfl
  · left; rw [hv]; simp
  · right; rw [hv]; simp
theorem truth_yes (x : Nat) (w : World) (h : Num x) (h1 : kindW x = 1) : Calls Tryd.prog 50 #[.float .f64 x] w fun e w' => e = .returned (.tuple #[.bool (decide (V x = pw 1074)), .bool true]) ∧ w = w' := by
  refine (truth_calls x w h.1).mono ?_
  rintro e w' ⟨rfl, rfl⟩
  have : (decide (V x = 0) || decide (V x = (pw 1074 : Int))) = true := by rcases kind_one' h h1 with h | h <;> simp [h]
  rw [this]; exact ⟨rfl, rfl⟩
theorem truth_no (x : Nat) (w : World) (h : Num x) (h1 : kindW x ≠ 1) : Calls Tryd.prog 50 #[.float .f64 x] w fun e w' => e = .returned (.tuple #[.bool false, .bool false]) ∧ w = w' := by
  refine (truth_calls x w h.1).mono ?_
  rintro e w' ⟨rfl, rfl⟩
  have e1 : decide (V x = (pw 1074 : Int)) = false := decide_eq_false fun hh => h1 (kind_one h (.inr hh))
  have e2 : decide (V x = 0) = false := decide_eq_false fun hh => h1 (kind_one h (.inl hh))
  rw [e1, e2]; exact ⟨rfl, rfl⟩
theorem leastof_calls (x : Nat) (w : World) (h : Num x) : Calls Tryd.prog 29 #[.float .f64 x] w fun e w' => e = .returned (.int .i64 (kindW x : Int)) ∧ w = w' := by
  have H := Lib.hid h
  clear h
  by_cases h1 : kindW x = 1
  · have H1 := Lib.hid h1
    rw [h1]
    clear h1
    go_enter Tryd.func29, Tryd.ntmps29
    go_wp2_with fail
    refine (truth_yes _ _ H.out H1.out).mono ?_
    rintro e w1 ⟨rfl, rfl⟩
    go_wp2
    go_ret
    exact ⟨rfl, rfl⟩
  · have H1 := Lib.hid h1
    by_cases hw : ∃ n, Wh x n
    · obtain ⟨n, hn⟩ := hw
      have HN := Lib.hid hn
      have hk := kindW_wh hn
      rw [hk] at h1 ⊢
      have HB := Lib.hid hn.2.1
      clear hn hk
      by_cases h2 : -128 ≤ n
      · by_cases h3 : n ≤ 127
        · have HZ := Lib.hid (show kindZ n = 2 by unfold kindZ at h1 ⊢; split; rename_i hh; rw [if_pos hh] at h1; exact absurd rfl h1; rw [if_pos ⟨h2, h3⟩])
          rw [HZ.out]
          clear h1
          go_enter Tryd.func29, Tryd.ntmps29
          go_wp2_with fail
          refine (truth_no _ _ H.out H1.out).mono ?_
          rintro e w1 ⟨rfl, rfl⟩
          go_wp2_with fail
          refine (whole_yes _ _ _ HN.out).mono ?_
          rintro e w1 ⟨rfl, rfl⟩
          go_wp2
          go_ret
          exact ⟨rfl, rfl⟩
        · have HZ := Lib.hid (kz3 (n := n) (.inr (by omega)))
          rw [HZ.out]
          clear h1
          go_enter Tryd.func29, Tryd.ntmps29
          go_wp2_with fail
          refine (truth_no _ _ H.out H1.out).mono ?_
          rintro e w1 ⟨rfl, rfl⟩
          go_wp2_with fail
          refine (whole_yes _ _ _ HN.out).mono ?_
          rintro e w1 ⟨rfl, rfl⟩
          go_wp2
          go_ret
          exact ⟨rfl, rfl⟩
      · have HZ := Lib.hid (kz3 (n := n) (.inl (by omega)))
        rw [HZ.out]
        clear h1
        go_enter Tryd.func29, Tryd.ntmps29
        go_wp2_with fail
        refine (truth_no _ _ H.out H1.out).mono ?_
        rintro e w1 ⟨rfl, rfl⟩
        go_wp2_with fail
        refine (whole_yes _ _ _ HN.out).mono ?_
        rintro e w1 ⟨rfl, rfl⟩
        go_wp2
        go_ret
        exact ⟨rfl, rfl⟩
    · have HW := Lib.hid (show ∀ n, ¬ Wh x n from fun n hn => hw ⟨n, hn⟩)
      have HK := Lib.hid (kindW_no HW.out)
      rw [HK.out]
      clear h1 hw
      go_enter Tryd.func29, Tryd.ntmps29
      go_wp2_with fail
      refine (truth_no _ _ H.out H1.out).mono ?_
      rintro e w1 ⟨rfl, rfl⟩
      go_wp2_with fail
      refine (whole_no _ _ H.out.1.1 HW.out).mono ?_
      rintro e w1 ⟨rfl, rfl⟩
      go_wp2
      go_ret
      exact ⟨rfl, rfl⟩
theorem common_calls (a b : Int) (w : World) : Calls Tryd.prog 25 #[.int .i64 a, .int .i64 b] w fun e w' => e = .returned (.int .i64 (commonK a b)) ∧ w = w' := by
  by_cases h : a = b
  · have HE := Lib.hid (show commonK a b = a by unfold commonK; rw [if_pos h])
    rw [HE.out]
    subst h
    go_enter Tryd.func25, Tryd.ntmps25
    go_wp2
    go_ret
    exact ⟨rfl, rfl⟩
  · by_cases h1 : 1 ≤ a ∧ a ≤ 4
    · have H1 := Lib.hid (decide_eq_true h1)
      by_cases h2 : 1 ≤ b ∧ b ≤ 4
      · have H2 := Lib.hid (decide_eq_true h2)
        have HE0 := (show commonK a b = max a b by unfold commonK; rw [if_neg h, if_pos ⟨h1, h2⟩])
        by_cases hgt : a < b
        · have HE := Lib.hid (show commonK a b = b by omega)
          rw [HE.out]
          clear h1 h2 HE0
          go_enter Tryd.func25, Tryd.ntmps25
          go_wp2_with fail
          refine (numeric_calls _ _).mono ?_
          rintro e w1 ⟨rfl, rfl⟩
          rw [H1.out]
          go_wp2_with fail
          refine (numeric_calls _ _).mono ?_
          rintro e w1 ⟨rfl, rfl⟩
          rw [H2.out]
          go_wp2
          go_ret
          exact ⟨rfl, rfl⟩
        · have HE := Lib.hid (show commonK a b = a by omega)
          rw [HE.out]
          clear h1 h2 HE0
          go_enter Tryd.func25, Tryd.ntmps25
          go_wp2_with fail
          refine (numeric_calls _ _).mono ?_
          rintro e w1 ⟨rfl, rfl⟩
          rw [H1.out]
          go_wp2_with fail
          refine (numeric_calls _ _).mono ?_
          rintro e w1 ⟨rfl, rfl⟩
          rw [H2.out]
          go_wp2
          go_ret
          exact ⟨rfl, rfl⟩
      · have H2 := Lib.hid (decide_eq_false h2)
        have HE := Lib.hid (show commonK a b = 0 by unfold commonK; rw [if_neg h, if_neg (fun hh => h2 hh.2)])
        rw [HE.out]
        clear h1 h2
        go_enter Tryd.func25, Tryd.ntmps25
        go_wp2_with fail
        refine (numeric_calls _ _).mono ?_
        rintro e w1 ⟨rfl, rfl⟩
        rw [H1.out]
        go_wp2_with fail
        refine (numeric_calls _ _).mono ?_
        rintro e w1 ⟨rfl, rfl⟩
        rw [H2.out]
        go_wp2
        go_ret
        exact ⟨rfl, rfl⟩
    · have H1 := Lib.hid (decide_eq_false h1)
      have HE := Lib.hid (show commonK a b = 0 by unfold commonK; rw [if_neg h, if_neg (fun hh => h1 hh.1)])
      rw [HE.out]
      clear h1
      go_enter Tryd.func25, Tryd.ntmps25
      go_wp2_with fail
      refine (numeric_calls _ _).mono ?_
      rintro e w1 ⟨rfl, rfl⟩
      rw [H1.out]
      go_wp2
      go_ret
      exact ⟨rfl, rfl⟩
/-- A number of the least kind as a truth. -/
def bitW (x : Nat) : Bool := decide (V x = pw 1074)
theorem mkB1 (n : Nat) (hn : n ≤ 2000000) (w : World) : (Instr.makeSlice 86 (.int .i64 (n : Int)) (.int .i64 (n : Int))).run Tryd.prog w = .ok (.slice (some ⟨w.heap.size, 0, none⟩) n n) (w.alloc (.cells (zerosV (.bool false) n) 4)) := by
  obtain ⟨i0, hi, hz0, hz1, hz2⟩ := info_parts info_bool
  have hr := run_make (P := Tryd.prog) w 86 4 i0 _ Tryd.underlying86 hi hz0 .i64 .i64 n n (by omega) (Int.le_refl _) (by rw [hz2]; omega) (by omega)
  simp only [Int.toNat_natCast, hz1] at hr
  exact hr
theorem mkI8 (n : Nat) (hn : n ≤ 2000000) (w : World) : (Instr.makeSlice 59 (.int .i64 (n : Int)) (.int .i64 (n : Int))).run Tryd.prog w = .ok (.slice (some ⟨w.heap.size, 0, none⟩) n n) (w.alloc (.cells (zerosV (.int .i8 0) n) 66)) := by
  obtain ⟨i0, hi, hz0, hz1, hz2⟩ := info_parts info_i8
  have hr := run_make (P := Tryd.prog) w 59 66 i0 _ Tryd.underlying59 hi hz0 .i64 .i64 n n (by omega) (Int.le_refl _) (by rw [hz2]; omega) (by omega)
  simp only [Int.toNat_natCast, hz1] at hr
  exact hr
theorem wh_i8 {x : Nat} {n : Int} (h : Wh x n) (h1 : -128 ≤ n) (h2 : n ≤ 127) : floatToIntVal .f64 x .i8 = some n := by
  have h0 := wh_int x n h
  unfold floatToIntVal at h0 ⊢
  cases ht : (FloatKind.f64.decode x).toInt .zero with
  | none => rw [ht] at h0; cases h0
  | some m =>
    rw [ht] at h0
    simp only at h0 ⊢
    split at h0
    · cases h0
      have hm : IntKind.i8.min = -128 ∧ IntKind.i8.max = 127 := by decide
      rw [if_pos ⟨by omega, by omega⟩]
    · cases h0

set_option maxHeartbeats 1000000 in
theorem packed_calls {ok : Nat → Prop} (v : Value) (l : List Nat) (w : World) (hv : Slc w ok v l.length (f64s l)) (hm : l.length ≤ 1048576) (hN : ∀ x ∈ l, Num x ∧ kindW x = 1) :
    Calls Tryd.prog 38 #[v] w fun e w' => ∃ v, e = .returned v ∧ IsBits w' v (l.map bitW) ∧ Below w.heap.size w w' := by
  obtain ⟨ao, cap, rfl, _, _, _, hc⟩ := hv.opened
  have HC := Lib.hid hc
  have HM := Lib.hid hm
  clear hv hc
  have HN := Lib.hid hN
  clear hN
  obtain ⟨xs, hxs⟩ : ∃ xs : List Value, xs = l.map (fun x => .bool (bitW x)) := ⟨_, rfl⟩
  have HXS := Lib.hid hxs
  have hxl : xs.length = l.length := by rw [hxs]; simp
  have hget : ∀ k (h : k < xs.length) (h2 : k < l.length), ∃ x : Nat, x = l[k]'h2 ∧ xs[k]'h = .bool (bitW x) := by intro k h h2; refine ⟨_, rfl, ?_⟩; simp [hxs]
  have HX := Lib.hid hget
  have HXL := Lib.hid hxl
  have hmk := mkB1 l.length (by omega) (w.alloc (.cells #[.int .i64 0, .slice none 0 0] 58))
  clear hxs hget hxl
  obtain ⟨W0, hW0⟩ : ∃ W0, W0 = (w.alloc (.cells #[.int .i64 0, .slice none 0 0] 58)).alloc (.cells (zerosV (.bool false) l.length) 4) := ⟨_, rfl⟩
  have HO0 : Hid (W0.ownsRow (w.heap.size + 1) 4 1 (.slice (some ⟨w.heap.size + 1, 0, none⟩) l.length l.length) l.length (List.replicate l.length (.bool false))) := Lib.hid (by have := own_make1 (.bool false) 4 l.length (by omega) (w.alloc (.cells #[.int .i64 0, .slice none 0 0] 58)) (w.heap.size + 1) (by simp); rw [hW0]; simpa using this)
  have HA := Lib.hid (show At2 W0 w.heap.size (.int .i64 0) (.slice none 0 0) by rw [hW0]; exact (At2.new _ _ _ _).alloc _)
  have HW := Lib.hid (show Below w.heap.size w W0 by rw [hW0]; exact (below_new _ _).alloc (by simp) _)
  go_enter Tryd.func38, Tryd.ntmps38
  go_wp2
  rw [← hW0]
  clear hW0 hmk
  go_loopw [11] (fun i wr => ∃ k : Nat, k ≤ l.length ∧ i = .int .i64 k ∧ wr.ownsRow (w.heap.size + 1) 4 1 (.slice (some ⟨w.heap.size + 1, 0, none⟩) l.length l.length) l.length (fillTo xs (.bool false) k) ∧ W0.grownBy wr (some (w.heap.size + 1))) (fun i _ => l.length - (intOf i).toNat)
  case atStart => exact ⟨0, by omega, rfl, by rw [fillTo_zero, HXL.out]; exact HO0.out, grown_refl _ _⟩
  case round =>
    obtain ⟨k, hk, rfl, hown, hgr⟩ := hrel
    have HO := Lib.hid hown
    have HG := Lib.hid hgr
    have HB := Lib.hid (HW.out.grown hgr HW.out.size (fun j hj => by cases hj; omega))
    have hA2 := Lib.hid (HA.out.grown hgr (by simp))
    by_cases hlt : k < l.length
    · obtain ⟨b, off, rfl, _, hcl0⟩ := HC.out k (by rw [f64s_len]; exact hlt)
      have hcl := keep_below HB.out _ _ hcl0
      rw [f64s_get] at hcl
      obtain ⟨x, hx, hxk⟩ := HX.out k (by rw [HXL.out]; exact hlt) hlt
      have hcw := owns_cell HO.out k (by rw [fillTo_len _ _ _ (by rw [HXL.out]; exact hk), HXL.out]; exact hlt)
      have hfr := World.ownsRow.frozenAt HO.out k
      rw [← hx] at hcl
      have HNX := Lib.hid (HN.out x (by rw [hx]; exact List.getElem_mem hlt))
      have HXK := Lib.hid hxk
      clear hown hgr hcl0 hx hxk
      go_wp2_with fail
      refine (truth_yes _ _ HNX.out.1 HNX.out.2).mono ?_
      rintro e w2 ⟨rfl, rfl⟩
      rw [show decide (V x = (pw 1074 : Int)) = bitW x from rfl]
      go_wp2
      go_roundw
      case rel =>
        refine ⟨k + 1, by omega, by go_num, ?_, grown_trans HG.out (grown_setCell _ ⟨w.heap.size + 1, k, none⟩ _)⟩
        have := (World.ownsRow.stored HO.out k (.bool (bitW x))).1
        rw [← HXK.out, fillTo_set] at this
        rw [← HXK.out]
        exact this
      case measure => simp [intOf]; omega
    · have hkl : k = l.length := by omega
      have HK := Lib.hid hkl
      have HOW := Lib.hid (show wr.ownsRow (w.heap.size + 1) 4 1 (.slice (some ⟨w.heap.size + 1, 0, none⟩) l.length l.length) l.length xs by
        have := HO.out
        rw [HK.out, ← HXL.out, fillTo_all, HXL.out] at this
        exact this)
      clear hown hgr hkl
      have HXB := Lib.hid (show xs = bools (l.map bitW) by rw [HXS.out]; simp [bools])
      have HLM := Lib.hid (show (l.map bitW).length = l.length by simp)
      have HS := Lib.hid (show Sl wr (.slice (some ⟨w.heap.size + 1, 0, none⟩) l.length l.length) (l.map bitW).length (bools (l.map bitW)) by rw [HLM.out, ← HXB.out]; exact Sl.owned HOW.out)
      go_wp2_with fail
      refine (pack_calls _ (l.map bitW) _ HS.out (by rw [HLM.out]; exact HM.out)).mono ?_
      rintro e w2 ⟨v, rfl, hb, hB2⟩
      have HV := Lib.hid hb
      have HB3 := Lib.hid (HB.out.trans (hB2.mono HB.out.size))
      have hA3 := hA2.out.below hB2
      have HA3 := Lib.hid hA3
      obtain ⟨ao', cap', rfl, _⟩ := hb.opened
      clear hb
      obtain ⟨_, a0, a1, af⟩ := hA3
      have af0 := af 0
      have af1 := af 1
      clear hB2 af
      go_wp2
      refine bodyPost_ret (v := .agg #[.int .i64 ((l.map bitW).length : Int), .slice ao' (((l.map bitW).length + 63) / 64 : Nat) cap']) (by simp [results, Tryd.results38, go_sem, a0, a1]) rfl ⟨_, rfl, HV.out.set2 HA3.out _ _, below_set2 _ _ HB3.out (Nat.le_refl _)⟩

set_option maxHeartbeats 1000000 in
theorem whole8_calls {ok : Nat → Prop} (v : Value) (l : List Nat) (w : World) (hv : Slc w ok v l.length (f64s l)) (hm : l.length ≤ 2000000) (hN : ∀ x ∈ l, ∃ n, Wh x n ∧ -128 ≤ n ∧ n ≤ 127) :
    Calls Tryd.prog 40 #[v] w fun e w' => ∃ v, e = .returned v ∧ Slc w' (fun b => w.heap.size ≤ b) v l.length (i8s (l.map wnOf)) ∧ Below w.heap.size w w' := by
  obtain ⟨ao, cap, rfl, _, _, _, hc⟩ := hv.opened
  have HC := Lib.hid hc
  have HM := Lib.hid hm
  clear hv hc
  have HN := Lib.hid hN
  clear hN
  obtain ⟨xs, hxs⟩ : ∃ xs : List Value, xs = l.map (fun x => .int .i8 (wnOf x)) := ⟨_, rfl⟩
  have HXS := Lib.hid hxs
  have hxl : xs.length = l.length := by rw [hxs]; simp
  have hget : ∀ k (h : k < xs.length) (h2 : k < l.length), ∃ x : Nat, x = l[k]'h2 ∧ xs[k]'h = .int .i8 (wnOf x) := by intro k h h2; refine ⟨_, rfl, ?_⟩; simp [hxs]
  have HX := Lib.hid hget
  have HXL := Lib.hid hxl
  have hmk := mkI8 l.length (by omega) w
  clear hxs hget hxl
  obtain ⟨W0, hW0⟩ : ∃ W0, W0 = w.alloc (.cells (zerosV (.int .i8 0) l.length) 66) := ⟨_, rfl⟩
  have HO0 : Hid (W0.ownsRow w.heap.size 66 1 (.slice (some ⟨w.heap.size, 0, none⟩) l.length l.length) l.length (List.replicate l.length (.int .i8 0))) := Lib.hid (by rw [hW0]; exact own_make1 _ _ _ (by omega) _ _ (Nat.le_refl _))
  have HW := Lib.hid (show Below w.heap.size w W0 by rw [hW0]; exact below_new _ _)
  go_enter Tryd.func40, Tryd.ntmps40
  go_wp2
  rw [← hW0]
  clear hW0 hmk
  go_loopw [11] (fun i wr => ∃ k : Nat, k ≤ l.length ∧ i = .int .i64 k ∧ wr.ownsRow w.heap.size 66 1 (.slice (some ⟨w.heap.size, 0, none⟩) l.length l.length) l.length (fillTo xs (.int .i8 0) k) ∧ W0.grownBy wr (some w.heap.size)) (fun i _ => l.length - (intOf i).toNat)
  case atStart => exact ⟨0, by omega, rfl, by rw [fillTo_zero, HXL.out]; exact HO0.out, grown_refl _ _⟩
  case round =>
    obtain ⟨k, hk, rfl, hown, hgr⟩ := hrel
    have HO := Lib.hid hown
    have HG := Lib.hid hgr
    have HB := Lib.hid (HW.out.grown hgr HW.out.size (fun j hj => by cases hj; omega))
    by_cases hlt : k < l.length
    · obtain ⟨b, off, rfl, _, hcl0⟩ := HC.out k (by rw [f64s_len]; exact hlt)
      have hcl := keep_below HB.out _ _ hcl0
      rw [f64s_get] at hcl
      obtain ⟨x, hx, hxk⟩ := HX.out k (by rw [HXL.out]; exact hlt) hlt
      have hcw := owns_cell HO.out k (by rw [fillTo_len _ _ _ (by rw [HXL.out]; exact hk), HXL.out]; exact hlt)
      have hfr := World.ownsRow.frozenAt HO.out k
      rw [← hx] at hcl
      have HNX := Lib.hid (HN.out x (by rw [hx]; exact List.getElem_mem hlt))
      have HXK := Lib.hid hxk
      clear hown hgr hcl0 hx hxk
      obtain ⟨n, hn, hi⟩ := HNX.out
      have HNI := Lib.hid hi
      have HNN := Lib.hid hn
      have HWN := Lib.hid (wnOf_wh hn)
      clear hn hi
      have hc : ∀ w, (convert 53 66 (.float .f64 x)).run Tryd.prog w = .ok (.int .i8 (wnOf x)) w := fun w => by rw [HWN.out]; exact run_convert_float_int w 53 66 .f64 .i8 x n (by kernel_rfl) (by kernel_rfl) (wh_i8 HNN.out HNI.out.1 HNI.out.2)
      go_wp2
      go_roundw
      case rel =>
        refine ⟨k + 1, by omega, by go_num, ?_, grown_trans HG.out (grown_setCell _ ⟨w.heap.size, k, none⟩ _)⟩
        have := (World.ownsRow.stored HO.out k (.int .i8 (wnOf x))).1
        rw [← HXK.out, fillTo_set] at this
        rw [← HXK.out]
        exact this
      case measure => simp [intOf]; omega
    · have hkl : k = l.length := by omega
      have HK := Lib.hid hkl
      have HOW := Lib.hid (show wr.ownsRow w.heap.size 66 1 (.slice (some ⟨w.heap.size, 0, none⟩) l.length l.length) l.length xs by
        have := HO.out
        rw [HK.out, ← HXL.out, fillTo_all, HXL.out] at this
        exact this)
      clear hown hgr hkl
      go_wp2
      go_ret
      refine ⟨_, rfl, ?_, HB.out⟩
      have := Slc.owned HOW.out
      rw [show xs = i8s (l.map wnOf) by rw [HXS.out]; simp [i8s]] at this
      exact this

set_option maxHeartbeats 1000000 in
theorem whole64_calls {ok : Nat → Prop} (v : Value) (l : List Nat) (w : World) (hv : Slc w ok v l.length (f64s l)) (hm : l.length ≤ 2000000) (hN : ∀ x ∈ l, ∃ n, Wh x n) :
    Calls Tryd.prog 42 #[v] w fun e w' => ∃ v, e = .returned v ∧ Slc w' (fun b => w.heap.size ≤ b) v l.length (ints (l.map wnOf)) ∧ Below w.heap.size w w' := by
  obtain ⟨ao, cap, rfl, _, _, _, hc⟩ := hv.opened
  have HC := Lib.hid hc
  have HM := Lib.hid hm
  clear hv hc
  have HN := Lib.hid hN
  clear hN
  obtain ⟨xs, hxs⟩ : ∃ xs : List Value, xs = l.map (fun x => .int .i64 (wnOf x)) := ⟨_, rfl⟩
  have HXS := Lib.hid hxs
  have hxl : xs.length = l.length := by rw [hxs]; simp
  have hget : ∀ k (h : k < xs.length) (h2 : k < l.length), ∃ x : Nat, x = l[k]'h2 ∧ xs[k]'h = .int .i64 (wnOf x) := by intro k h h2; refine ⟨_, rfl, ?_⟩; simp [hxs]
  have HX := Lib.hid hget
  have HXL := Lib.hid hxl
  have hmk := run_mkI1 l.length (by omega) w
  clear hxs hget hxl
  obtain ⟨W0, hW0⟩ : ∃ W0, W0 = w.alloc (.cells (zerosV (.int .i64 0) l.length) 2) := ⟨_, rfl⟩
  have HO0 : Hid (W0.ownsRow w.heap.size 2 1 (.slice (some ⟨w.heap.size, 0, none⟩) l.length l.length) l.length (List.replicate l.length (.int .i64 0))) := Lib.hid (by rw [hW0]; exact own_make1 _ _ _ (by omega) _ _ (Nat.le_refl _))
  have HW := Lib.hid (show Below w.heap.size w W0 by rw [hW0]; exact below_new _ _)
  go_enter Tryd.func42, Tryd.ntmps42
  go_wp2
  rw [← hW0]
  clear hW0 hmk
  go_loopw [11] (fun i wr => ∃ k : Nat, k ≤ l.length ∧ i = .int .i64 k ∧ wr.ownsRow w.heap.size 2 1 (.slice (some ⟨w.heap.size, 0, none⟩) l.length l.length) l.length (fillTo xs (.int .i64 0) k) ∧ W0.grownBy wr (some w.heap.size)) (fun i _ => l.length - (intOf i).toNat)
  case atStart => exact ⟨0, by omega, rfl, by rw [fillTo_zero, HXL.out]; exact HO0.out, grown_refl _ _⟩
  case round =>
    obtain ⟨k, hk, rfl, hown, hgr⟩ := hrel
    have HO := Lib.hid hown
    have HG := Lib.hid hgr
    have HB := Lib.hid (HW.out.grown hgr HW.out.size (fun j hj => by cases hj; omega))
    by_cases hlt : k < l.length
    · obtain ⟨b, off, rfl, _, hcl0⟩ := HC.out k (by rw [f64s_len]; exact hlt)
      have hcl := keep_below HB.out _ _ hcl0
      rw [f64s_get] at hcl
      obtain ⟨x, hx, hxk⟩ := HX.out k (by rw [HXL.out]; exact hlt) hlt
      have hcw := owns_cell HO.out k (by rw [fillTo_len _ _ _ (by rw [HXL.out]; exact hk), HXL.out]; exact hlt)
      have hfr := World.ownsRow.frozenAt HO.out k
      rw [← hx] at hcl
      have HNX := Lib.hid (HN.out x (by rw [hx]; exact List.getElem_mem hlt))
      have HXK := Lib.hid hxk
      clear hown hgr hcl0 hx hxk
      obtain ⟨n, hn⟩ := HNX.out
      have HNN := Lib.hid hn
      have HWN := Lib.hid (wnOf_wh hn)
      clear hn
      have hc : ∀ w, (convert 53 2 (.float .f64 x)).run Tryd.prog w = .ok (.int .i64 (wnOf x)) w := fun w => by rw [HWN.out]; exact run_convert_float_int w 53 2 .f64 .i64 x n (by kernel_rfl) (by kernel_rfl) (wh_int _ _ HNN.out)
      go_wp2
      go_roundw
      case rel =>
        refine ⟨k + 1, by omega, by go_num, ?_, grown_trans HG.out (grown_setCell _ ⟨w.heap.size, k, none⟩ _)⟩
        have := (World.ownsRow.stored HO.out k (.int .i64 (wnOf x))).1
        rw [← HXK.out, fillTo_set] at this
        rw [← HXK.out]
        exact this
      case measure => simp [intOf]; omega
    · have hkl : k = l.length := by omega
      have HK := Lib.hid hkl
      have HOW := Lib.hid (show wr.ownsRow w.heap.size 2 1 (.slice (some ⟨w.heap.size, 0, none⟩) l.length l.length) l.length xs by
        have := HO.out
        rw [HK.out, ← HXL.out, fillTo_all, HXL.out] at this
        exact this)
      clear hown hgr hkl
      go_wp2
      go_ret
      refine ⟨_, rfl, ?_, HB.out⟩
      have := Slc.owned HOW.out
      rw [show xs = ints (l.map wnOf) by rw [HXS.out]; simp [ints]] at this
      exact this
end Go.Proofs.YtnicoddkbcfijaaDoor

/- Package squeeze, walked: Least, Tight. -/
namespace Go.Proofs.YtnicoddkbcfijaaDoor
open Go.RowKit Fl
set_option linter.unusedVariables false
set_option maxRecDepth 8000

/-- Its numbers are numbers of the document. -/
def VV.nm : VV → Prop
  | .ints l => ∀ z ∈ l, sm z = true | .floats l => ∀ x ∈ l, Num x | _ => True
theorem VV.nums_num {V : VV} (h : V.ok) (hn : V.nm) : ∀ x ∈ V.nums, Num x := by
  intro x hx
  cases V with
  | bits l => simp only [VV.nums, List.mem_map] at hx; obtain ⟨b, _, rfl⟩ := hx; exact num_flag b
  | smalls l => simp only [VV.nums, List.mem_map] at hx; obtain ⟨z, hz, rfl⟩ := hx; exact num_ofInt z (sm_i8 (h.2 z hz).1 (h.2 z hz).2)
  | ints l => simp only [VV.nums, List.mem_map] at hx; obtain ⟨z, hz, rfl⟩ := hx; exact num_ofInt z (hn z hz)
  | floats l => exact hn x hx
  | none => simp [VV.nums] at hx
  | chars l => simp [VV.nums] at hx
  | boxes l => simp [VV.nums] at hx
/-- The least kind of a vector. -/
noncomputable def VV.least (V : VV) : Nat := match V with | .bits _ => 1 | .chars _ => 5 | .boxes _ => 6 | V => leastW V.nums
theorem VV.least_num {V : VV} (h1 : V.kind ≠ 1) (h2 : V.cls = 0) : V.least = leastW V.nums := by
  cases V <;> first | rfl | exact absurd rfl h1 | (simp [VV.cls] at h2)
theorem VV.least_oth {V : VV} (h : V.kind = 1 ∨ V.cls ≠ 0) : (V.least : Int) = V.kind := by
  cases V <;> simp [VV.kind, VV.cls] at h <;> rfl
theorem VV.nums_lenle {V : VV} : V.nums.length ≤ V.len := by cases V <;> simp [VV.nums, VV.len]

set_option maxHeartbeats 4000000 in
theorem least_calls {ok : Nat → Prop} (u : Value) (V : VV) (w : World) (h : IsV w ok u V) (hok : V.ok) (hn : V.nm) (hT : TabAt w) : Calls Tryd.prog 13 #[.agg #[u]] w fun e w' => e = .returned (.int .i64 (V.least : Int)) ∧ Below w.heap.size w w' := by
  have H := Lib.hid h
  have HOK := Lib.hid hok
  have HNU := Lib.hid (VV.nums_num hok hn)
  have HT := Lib.hid hT
  have HB := Lib.hid (Below.refl w.heap.size w)
  have hst := h.store
  clear h hok hn hT
  by_cases hk : V.kind = 1
  · have HK := Lib.hid hk
    have HL := Lib.hid (VV.least_oth (.inl hk))
    rw [HL.out, HK.out]
    clear hk
    obtain ⟨W1, hWn⟩ : ∃ W1, (w.alloc (.cells #[u] 27)) = W1 := ⟨_, rfl⟩
    have hB : Below w.heap.size w W1 := by rw [← hWn]; exact (below_new _ _)
    replace H := Lib.hid (H.out.grow hB)
    replace HT := Lib.hid (fun j hj => keep_below hB _ _ (HT.out j hj))
    replace HB := Lib.hid (HB.out.trans (hB.mono HB.out.size))
    have HA := Lib.hid (show At1 W1 w.heap.size (u) by rw [← hWn]; exact At1.new w (u) 27)
    clear hB
    have cHA := HA.out.2.1
    go_enter Tryd.func13, Tryd.ntmps13
    go_wp2_with fail
    clear hWn
    refine (kind_calls _ _ _ H.out).mono ?_
    clear cHA
    rintro e W2 ⟨rfl, hB⟩
    replace H := Lib.hid (H.out.grow hB)
    replace HT := Lib.hid (fun j hj => keep_below hB _ _ (HT.out j hj))
    replace HA := Lib.hid (HA.out.below hB)
    replace HB := Lib.hid (HB.out.trans (hB.mono HB.out.size))
    rw [HK.out]
    clear hB
    have cHA := HA.out.2.1
    go_wp2_with fail
    refine (kind_calls _ _ _ H.out).mono ?_
    clear cHA
    rintro e W3 ⟨rfl, hB⟩
    replace H := Lib.hid (H.out.grow hB)
    replace HT := Lib.hid (fun j hj => keep_below hB _ _ (HT.out j hj))
    replace HA := Lib.hid (HA.out.below hB)
    replace HB := Lib.hid (HB.out.trans (hB.mono HB.out.size))
    rw [HK.out]
    clear hB
    have cHA := HA.out.2.1
    go_wp2
    go_ret
    exact ⟨rfl, HB.out⟩
  · have hkb : (V.kind == 1) = false := by simpa using hk
    obtain ⟨K, hK⟩ : ∃ K, V.kind = K := ⟨_, rfl⟩
    have HK := Lib.hid hK
    rw [hK] at hkb
    by_cases hc : V.cls = 0
    · have HC := Lib.hid hc
      have HL := Lib.hid (VV.least_num hk hc)
      rw [HL.out]
      have HLN := Lib.hid (show V.nums.length ≤ 2000000 from Nat.le_trans VV.nums_lenle (Nat.le_trans (VV.ok_len HOK.out) (by omega)))
      have HVL := Lib.hid (VV.ok_len HOK.out)
      clear hk hc hK
      obtain ⟨l, hl⟩ : ∃ l, V.nums = l := ⟨_, rfl⟩
      have HN := Lib.hid hl
      rw [hl] at HNU HLN ⊢
      clear hl HL
      obtain ⟨W1, hWn⟩ : ∃ W1, (w.alloc (.cells #[u] 27)) = W1 := ⟨_, rfl⟩
      have hB : Below w.heap.size w W1 := by rw [← hWn]; exact (below_new _ _)
      replace H := Lib.hid (H.out.grow hB)
      replace HT := Lib.hid (fun j hj => keep_below hB _ _ (HT.out j hj))
      replace HB := Lib.hid (HB.out.trans (hB.mono HB.out.size))
      have HA := Lib.hid (show At1 W1 w.heap.size (u) by rw [← hWn]; exact At1.new w (u) 27)
      clear hB
      have cHA := HA.out.2.1
      go_enter Tryd.func13, Tryd.ntmps13
      go_wp2_with fail
      clear hWn
      refine (kind_calls _ _ _ H.out).mono ?_
      clear cHA
      rintro e W2 ⟨rfl, hB⟩
      replace H := Lib.hid (H.out.grow hB)
      replace HT := Lib.hid (fun j hj => keep_below hB _ _ (HT.out j hj))
      replace HA := Lib.hid (HA.out.below hB)
      replace HB := Lib.hid (HB.out.trans (hB.mono HB.out.size))
      rw [HK.out]
      clear hB
      have cHA := HA.out.2.1
      go_wp2_with fail
      refine (class_calls _ _ _ H.out).mono ?_
      clear cHA
      rintro e W3 ⟨rfl, hB⟩
      replace H := Lib.hid (H.out.grow hB)
      replace HT := Lib.hid (fun j hj => keep_below hB _ _ (HT.out j hj))
      replace HA := Lib.hid (HA.out.below hB)
      replace HB := Lib.hid (HB.out.trans (hB.mono HB.out.size))
      rw [HC.out]
      clear hB
      have cHA := HA.out.2.1
      go_wp2_with fail
      refine (vnums_calls _ _ _ H.out HOK.out HT.out).mono ?_
      clear cHA
      rintro e W4 ⟨v, rfl, hs, hB⟩
      replace H := Lib.hid (H.out.grow hB)
      replace HT := Lib.hid (fun j hj => keep_below hB _ _ (HT.out j hj))
      replace HA := Lib.hid (HA.out.below hB)
      replace HB := Lib.hid (HB.out.trans (hB.mono HB.out.size))
      have HV := Lib.hid (show Slc W4 _ v l.length (f64s l) by have := hs.any; rw [HN.out] at this; exact this)
      clear hs
      clear hB
      have cHA := HA.out.2.1
      obtain ⟨ao, cap, rfl, _⟩ := HV.out.opened
      go_wp2
      have hll := HLN.out
      go_loopw [3, 19] (fun q i wr => ∃ k : Nat, k ≤ l.length ∧ i = .int .i64 k ∧ q = .int .i64 (leastW (l.take k) : Int) ∧ wr = W4) (fun _ i _ => l.length - (intOf i).toNat)
      case atStart => exact ⟨0, by omega, rfl, by rw [List.take_zero, leastW_nil]; rfl, rfl⟩
      case round =>
        obtain ⟨k, hk, rfl, rfl, rfl⟩ := hrel
        obtain ⟨q, hq⟩ : ∃ q, q = leastW (l.take k) := ⟨_, rfl⟩
        have HQ := Lib.hid hq
        rw [← hq]
        clear hq
        by_cases hlt : k < l.length
        · obtain ⟨b, off, cap', x, e1, hx, hcx⟩ := Slc.at_map (Value.float .f64) (show Slc _ _ (.slice ao l.length cap) l.length (l.map (Value.float .f64)) from HV.out) k hlt
          obtain ⟨e1a, e1b⟩ : ao = some ⟨b, off, none⟩ ∧ cap = cap' := by cases e1; exact ⟨rfl, rfl⟩
          subst e1a
          have HNx := Lib.hid (HNU.out x (List.mem_of_getElem? hx))
          have HTK := Lib.hid (leastW_take hx)
          rw [← HQ.out] at HTK
          clear hx e1 e1b
          by_cases hgt : q < kindW x
          · have HK2 := Lib.hid (show leastW (l.take (k + 1)) = kindW x by rw [HTK.out]; omega)
            obtain ⟨m, hm⟩ : ∃ m, kindW x = m := ⟨_, rfl⟩
            have HKM := Lib.hid hm
            rw [hm] at hgt
            clear hm
            go_wp2_with fail
            refine (leastof_calls _ _ HNx.out).mono ?_
            rintro e w' ⟨rfl, rfl⟩
            rw [HKM.out]
            go_wp2
            go_roundw
            case rel => exact ⟨k + 1, by omega, by go_num, by rw [HK2.out, HKM.out], by trivial⟩
            case measure => simp [intOf]; omega
          · have HK2 := Lib.hid (show leastW (l.take (k + 1)) = q by rw [HTK.out]; omega)
            obtain ⟨m, hm⟩ : ∃ m, kindW x = m := ⟨_, rfl⟩
            have HKM := Lib.hid hm
            rw [hm] at hgt
            clear hm
            go_wp2_with fail
            refine (leastof_calls _ _ HNx.out).mono ?_
            rintro e w' ⟨rfl, rfl⟩
            rw [HKM.out]
            go_wp2
            go_roundw
            case rel => exact ⟨k + 1, by omega, by go_num, by rw [HK2.out], by trivial⟩
            case measure => simp [intOf]; omega
        · have hkl : k = l.length := by omega
          have HE := Lib.hid (show leastW l = q by have := HQ.out; rw [hkl, List.take_length] at this; exact this.symm)
          clear hkl
          have hnl := HVL.out
          have cHA := HA.out.2.1
          by_cases hq1 : q = 1
          · subst hq1
            go_wp2_with fail
            refine (vlen_calls _ _ _ H.out).mono ?_
            rintro e w' ⟨rfl, hB⟩
            replace HB := Lib.hid (HB.out.trans (hB.mono HB.out.size))
            clear hB
            go_wp2
            go_ret
            exact ⟨ret_i (by rw [HE.out]; rfl), HB.out⟩
          · go_wp2
            go_ret
            exact ⟨ret_i (by rw [HE.out]), HB.out⟩
    · have HL := Lib.hid (VV.least_oth (.inr hc))
      rw [HL.out]
      have hcb : (V.cls != 0) = true := by simpa using hc
      obtain ⟨C, hC⟩ : ∃ C, V.cls = C := ⟨_, rfl⟩
      have HC := Lib.hid hC
      rw [hC] at hcb
      rw [hK]
      clear hk hc hK hC
      obtain ⟨W1, hWn⟩ : ∃ W1, (w.alloc (.cells #[u] 27)) = W1 := ⟨_, rfl⟩
      have hB : Below w.heap.size w W1 := by rw [← hWn]; exact (below_new _ _)
      replace H := Lib.hid (H.out.grow hB)
      replace HT := Lib.hid (fun j hj => keep_below hB _ _ (HT.out j hj))
      replace HB := Lib.hid (HB.out.trans (hB.mono HB.out.size))
      have HA := Lib.hid (show At1 W1 w.heap.size (u) by rw [← hWn]; exact At1.new w (u) 27)
      clear hB
      have cHA := HA.out.2.1
      go_enter Tryd.func13, Tryd.ntmps13
      go_wp2_with fail
      clear hWn
      refine (kind_calls _ _ _ H.out).mono ?_
      clear cHA
      rintro e W2 ⟨rfl, hB⟩
      replace H := Lib.hid (H.out.grow hB)
      replace HT := Lib.hid (fun j hj => keep_below hB _ _ (HT.out j hj))
      replace HA := Lib.hid (HA.out.below hB)
      replace HB := Lib.hid (HB.out.trans (hB.mono HB.out.size))
      rw [HK.out]
      clear hB
      have cHA := HA.out.2.1
      go_wp2_with fail
      refine (class_calls _ _ _ H.out).mono ?_
      clear cHA
      rintro e W3 ⟨rfl, hB⟩
      replace H := Lib.hid (H.out.grow hB)
      replace HT := Lib.hid (fun j hj => keep_below hB _ _ (HT.out j hj))
      replace HA := Lib.hid (HA.out.below hB)
      replace HB := Lib.hid (HB.out.trans (hB.mono HB.out.size))
      rw [HC.out]
      clear hB
      have cHA := HA.out.2.1
      go_wp2_with fail
      refine (kind_calls _ _ _ H.out).mono ?_
      clear cHA
      rintro e W4 ⟨rfl, hB⟩
      replace H := Lib.hid (H.out.grow hB)
      replace HT := Lib.hid (fun j hj => keep_below hB _ _ (HT.out j hj))
      replace HA := Lib.hid (HA.out.below hB)
      replace HB := Lib.hid (HB.out.trans (hB.mono HB.out.size))
      rw [HK.out]
      clear hB
      have cHA := HA.out.2.1
      go_wp2
      go_ret
      exact ⟨rfl, HB.out⟩

set_option maxHeartbeats 2000000 in
theorem tight_calls {ok : Nat → Prop} (u : Value) (V : VV) (w : World) (h : IsV w ok u V) (hok : V.ok) (hn : V.nm) (hT : TabAt w) : Calls Tryd.prog 17 #[.agg #[u]] w fun e w' => e = .returned (.bool (decide (V.kind = V.least))) ∧ Below w.heap.size w w' := by
  have H := Lib.hid h
  have HOK := Lib.hid hok
  have HN := Lib.hid hn
  have HT := Lib.hid hT
  have HB := Lib.hid (Below.refl w.heap.size w)
  have hst := h.store
  clear h hok hn hT
  obtain ⟨W1, hWn⟩ : ∃ W1, (w.alloc (.cells #[u] 27)) = W1 := ⟨_, rfl⟩
  have hB : Below w.heap.size w W1 := by rw [← hWn]; exact (below_new _ _)
  replace H := Lib.hid (H.out.grow hB)
  replace HT := Lib.hid (fun j hj => keep_below hB _ _ (HT.out j hj))
  replace HB := Lib.hid (HB.out.trans (hB.mono HB.out.size))
  have HA := Lib.hid (show At1 W1 w.heap.size (u) by rw [← hWn]; exact At1.new w (u) 27)
  clear hB
  have cHA := HA.out.2.1
  have HK := Lib.hid (show ∀ wx, Below W1.heap.size W1 wx → Calls Tryd.prog 11 #[.agg #[u]] wx fun e w' => e = .returned (.int .i64 V.kind) ∧ Below wx.heap.size wx w' from fun wx hx => kind_calls u V wx (H.out.grow hx))
  have HL := Lib.hid (show ∀ wx, Below W1.heap.size W1 wx → Calls Tryd.prog 13 #[.agg #[u]] wx fun e w' => e = .returned (.int .i64 (V.least : Int)) ∧ Below wx.heap.size wx w' from fun wx hx => least_calls u V wx (H.out.grow hx) HOK.out HN.out (fun j hj => keep_below hx _ _ (HT.out j hj)))
  obtain ⟨K, hK⟩ : ∃ K, V.kind = K := ⟨_, rfl⟩
  obtain ⟨L, hL⟩ : ∃ L : Int, (V.least : Int) = L := ⟨_, rfl⟩
  rw [hK] at HK ⊢
  rw [hL] at HL ⊢
  clear hK hL
  go_enter Tryd.func17, Tryd.ntmps17
  go_wp2_with fail
  clear hWn
  refine region_grow W1 (by kernel_rfl) (by kernel_rfl) (Below.refl _ _) ?_
  intro Ω _ WW hW hI
  have HW' := Lib.hid hW
  have HI' := Lib.hid hI
  have qHA := fun y => ((HA.out.below (hW y)).2.1)
  clear cHA
  clear hW hI
  repeat (go_big_quiet_step ((first | (go_at_call 11; exact Calls.quiet_grow HW'.out HI'.out (HK.out _ (HW'.out _))) | (go_at_call 13; exact Calls.quiet_grow HW'.out HI'.out (HL.out _ (HW'.out _))))))
  refine wpQuiet_nil ?_
  rintro W2 ⟨yy, rfl⟩
  obtain ⟨W2, hWn⟩ : ∃ X, WW yy = X := ⟨_, rfl⟩
  have hB : Below W1.heap.size W1 W2 := by rw [← hWn]; exact HW'.out yy
  rw [hWn]
  clear qHA hWn
  replace H := Lib.hid (H.out.grow hB)
  replace HT := Lib.hid (fun j hj => keep_below hB _ _ (HT.out j hj))
  replace HA := Lib.hid (HA.out.below hB)
  replace HB := Lib.hid (HB.out.trans (hB.mono HB.out.size))
  clear hB
  have cHA := HA.out.2.1
  go_wp2
  go_ret
  exact ⟨ret_b (by first | rfl | simp), HB.out⟩
end Go.Proofs.YtnicoddkbcfijaaDoor

/- Package squeeze, walked: Into, Squeeze, Numbers. -/
namespace Go.Proofs.YtnicoddkbcfijaaDoor
open Go.RowKit Fl
set_option linter.unusedVariables false
set_option maxRecDepth 8000

/-- Does it fit a kind? -/
noncomputable def VV.fit (V : VV) (k : Int) : Bool := decide (V.kind = k) || (decide (V.cls = 0) && decide (1 ≤ k ∧ k ≤ 4) && decide ((V.least : Int) ≤ k))
/-- .. brought there. -/
noncomputable def VV.into (V : VV) (k : Int) : VV :=
  if V.kind = k then V else if V.fit k = false then .none else if k = 1 then .bits (V.nums.map bitW) else if k = 2 then .smalls (V.nums.map wnOf) else if k = 3 then .ints (V.nums.map wnOf) else .floats V.nums
theorem ze_same {x : Nat} (h : Num x) : ze x = x := by
  unfold ze
  split
  · rename_i hv; exact (h.2 hv).symm
  · rfl
theorem map_ze {l : List Nat} (h : ∀ x ∈ l, Num x) : l.map ze = l := by
  conv => rhs; rw [← List.map_id l]
  exact List.map_congr_left (fun x hx => ze_same (h x hx))
theorem map_back {α β : Type} {f : β → α} {g : α → β} {l : List α} (h : ∀ x ∈ l, f (g x) = x) : (l.map g).map f = l := by
  rw [List.map_map]
  conv => rhs; rw [← List.map_id l]
  exact List.map_congr_left (fun x hx => h x hx)
theorem flag_bit {x : Nat} (h : Num x) (h1 : kindW x = 1) : flagW (bitW x) = x := by
  unfold flagW bitW
  rcases kind_one' h h1 with hv | hv
  · have hp := pw_pos 1074
    rw [if_neg (by rw [decide_eq_true_eq]; omega)]
    exact (h.2 (V_eq_zero.1 hv)).symm
  · rw [if_pos (decide_eq_true hv)]
    exact V_inj num_one h (V_one.trans hv.symm)
theorem VV.fit_own (V : VV) : V.fit V.kind = true := by simp [VV.fit]
theorem VV.into_own (V : VV) : V.into V.kind = V := by simp [VV.into]
theorem VV.into_no {V : VV} {k : Int} (h : V.fit k = false) : V.into k = .none := by
  unfold VV.into
  rw [if_neg (fun e => by rw [← e, VV.fit_own] at h; cases h), if_pos h]
theorem VV.least_le {V : VV} {k : Int} (h0 : V.kind ≠ k) (h : V.fit k = true) : V.cls = 0 ∧ (1 ≤ k ∧ k ≤ 4) ∧ (V.least : Int) ≤ k := by
  simp only [VV.fit, Bool.or_eq_true, Bool.and_eq_true, decide_eq_true_eq] at h
  rcases h with h | ⟨⟨h1, h2⟩, h3⟩
  · exact absurd h h0
  · exact ⟨h1, h2, h3⟩
theorem VV.leastW_le {V : VV} (hok : V.ok) (hn : V.nm) (h : V.cls = 0) : leastW V.nums ≤ V.least := by
  cases V with
  | bits l =>
    refine leastW_all (Nat.le_refl _) (fun x hx => ?_)
    simp only [VV.nums, List.mem_map] at hx
    obtain ⟨b, _, rfl⟩ := hx
    cases b
    · have : kindW 0 = 1 := kind_one num_zero (.inl V_zero)
      exact Nat.le_of_eq this
    · have : kindW 4607182418800017408 = 1 := kind_one num_one (.inr V_one)
      exact Nat.le_of_eq this
  | chars l => simp [VV.cls] at h
  | boxes l => simp [VV.cls] at h
  | none => exact Nat.le_refl _
  | smalls l => exact Nat.le_refl _
  | ints l => exact Nat.le_refl _
  | floats l => exact Nat.le_refl _
/-- What is brought into a kind that it fits keeps its numbers. -/
theorem VV.into_spec {V : VV} {k : Int} (hok : V.ok) (hn : V.nm) (h : V.fit k = true) : (V.into k).kind = k ∧ (V.into k).nums = V.nums ∧ (V.into k).cls = V.cls ∧ (V.into k).ok ∧ (V.into k).nm ∧ (V.into k).len = V.len := by
  by_cases h0 : V.kind = k
  · subst h0; rw [VV.into_own]; exact ⟨rfl, rfl, rfl, hok, hn, rfl⟩
  · obtain ⟨h1, h2, h3⟩ := VV.least_le h0 h
    have hN := VV.nums_num hok hn
    have hL := VV.leastW_le hok hn h1
    have hlen := VV.ok_len hok
    have hnl : V.nums.length = V.len := by cases V <;> simp [VV.nums, VV.len, VV.cls] at h1 ⊢
    have hnl2 : V.nums.length ≤ 1048576 := by omega
    unfold VV.into
    rw [if_neg h0, if_neg (by rw [h]; decide)]
    by_cases k1 : k = 1
    · subst k1
      rw [if_pos rfl]
      have hk : ∀ x ∈ V.nums, kindW x = 1 := fun x hx => by have := leastW_mem hx; have := kindW_le x; omega
      refine ⟨rfl, ?_, h1.symm, by simpa [VV.ok] using hnl2, trivial, by simpa [VV.len] using hnl⟩
      exact map_back (fun x hx => flag_bit (hN x hx) (hk x hx))
    · rw [if_neg k1]
      by_cases k4 : k = 4
      · subst k4
        rw [if_neg (by decide), if_neg (by decide)]
        exact ⟨rfl, rfl, h1.symm, hnl2, hN, hnl⟩
      · obtain ⟨w1, w2⟩ := whole_list hN (by omega)
        by_cases k2 : k = 2
        · subst k2
          rw [if_pos rfl]
          refine ⟨rfl, w1.symm, h1.symm, ⟨by simpa using hnl2, fun z hz => ?_⟩, trivial, by simpa [VV.len] using hnl⟩
          have := (w2 z hz).2
          unfold kindZ at this
          split at this
          · omega
          · split at this
            · assumption
            · omega
        · rw [if_neg k2, if_pos (by omega)]
          refine ⟨by show (3 : Int) = k; omega, w1.symm, h1.symm, by simpa [VV.ok] using hnl2, fun z hz => ?_, by simpa [VV.len] using hnl⟩
          have := (w2 z hz).1
          exact sm_yes (by omega) (by omega)
theorem VV.into_ok {V : VV} {k : Int} (hok : V.ok) (hn : V.nm) : (V.into k).ok ∧ (V.into k).nm := by
  by_cases h : V.fit k = true
  · have := VV.into_spec hok hn h; exact ⟨this.2.2.2.1, this.2.2.2.2.1⟩
  · rw [VV.into_no (by simpa using h)]; exact ⟨trivial, trivial⟩
theorem Slx.setn {w : World} {ok : Nat → Prop} {s : Value} {n : Nat} {xs : List Value} (h : Slx w ok s n xs) {p : Addr} {u : Value} (hp : w.cell? p = some u) (hu : ∀ y ∈ xs, y ≠ u) (x : Value) : Slx (w.setCell p x) ok s n xs := by
  obtain ⟨hl, ao, cap, rfl, hc⟩ := h
  refine ⟨hl, ao, cap, rfl, fun i hi => ?_⟩
  obtain ⟨b, off, e, hb, hcell⟩ := hc i hi
  refine ⟨b, off, e, hb, ?_⟩
  rw [World.cell?_setCell_other _ _ _ _ (fun ep => ?_)]
  · exact hcell
  · rw [← ep] at hcell
    exact hu _ (List.getElem_mem hi) (Option.some.inj (hcell.symm.trans hp))
/-- A cell that holds no interface is none of a vector's, but of boxes. -/
theorem IsV.setn {w : World} {ok : Nat → Prop} {u : Value} {V : VV} (h : IsV w ok u V) (hV : V.kind ≠ 6) {p : Addr} (hp : w.cell? p = some .nilIface) (x : Value) : IsV (w.setCell p x) ok u V := by
  cases h with
  | none => exact .none
  | bits h hm => exact .bits (h.setn hp (fun y hy => by simp only [u64s, List.mem_map] at hy; obtain ⟨z, _, rfl⟩ := hy; intro e; cases e) x) hm
  | smalls h => exact .smalls ⟨h.1.setn hp (fun y hy => by simp only [i8s, List.mem_map] at hy; obtain ⟨z, _, rfl⟩ := hy; intro e; cases e) x, h.2⟩
  | ints h => exact .ints ⟨h.1.setn hp (fun y hy => by simp only [Go.Proofs.YtnicoddkbcfijaaDoor.ints, List.mem_map] at hy; obtain ⟨z, _, rfl⟩ := hy; intro e; cases e) x, h.2⟩
  | floats h => exact .floats ⟨h.1.setn hp (fun y hy => by simp only [f64s, List.mem_map] at hy; obtain ⟨z, _, rfl⟩ := hy; intro e; cases e) x, h.2⟩
  | chars h => exact .chars ⟨h.1.setn hp (fun y hy => by simp only [i32s, List.mem_map] at hy; obtain ⟨z, _, rfl⟩ := hy; intro e; cases e) x, h.2⟩
  | boxes f g h1 h2 hc hs hv => exact absurd rfl hV
theorem IsV.setb {w : World} {ok : Nat → Prop} {u : Value} {V : VV} (h : IsV w ok u V) {p : Addr} (hp : ¬ ok p.block) (x : Value) : IsV (w.setCell p x) ok u V := h.keep (Kept.setCell w p x hp) (fun _ _ h => h)
/-- What a vector's cells may lie in: of boxes alone it matters. -/
def VV.nb (V : VV) (ok : Nat → Prop) : Nat → Prop := fun b => V.kind ≠ 6 ∨ ok b
theorem IsV.nbk {w : World} {ok : Nat → Prop} {u : Value} {V : VV} (h : IsV w ok u V) {ok' : Nat → Prop} (hm : ∀ b, b < w.heap.size → ok b → ok' b) : IsV w (V.nb ok') u V := h.wide (fun b hb ho => .inr (hm b hb ho))
theorem IsV.nbn {w : World} {ok : Nat → Prop} {u : Value} {V : VV} (h : IsV w ok u V) (hV : V.kind ≠ 6) (ok' : Nat → Prop) : IsV w (V.nb ok') u V := h.wide (fun b hb ho => .inl hV)
theorem IsV.nbw {w : World} {ok : Nat → Prop} {u : Value} {V : VV} (h : IsV w (V.nb ok) u V) {ok' : Nat → Prop} (hm : ∀ b, b < w.heap.size → ok b → ok' b) : IsV w (V.nb ok') u V := h.wide (fun b hb ho => ho.imp id (hm b hb))
theorem IsV.setv {w : World} {ok : Nat → Prop} {u : Value} {V : VV} (h : IsV w (V.nb ok) u V) {p : Addr} (hp : w.cell? p = some .nilIface) (ho : ¬ ok p.block) (x : Value) : IsV (w.setCell p x) (V.nb ok) u V := by
  by_cases hV : V.kind = 6
  · exact h.setb (fun hn => hn.elim (fun e => e hV) ho) x
  · exact h.setn hV hp x
theorem leastW_i8 {l : List Nat} (h : leastW l ≤ 2) : ∀ x ∈ l, ∃ n, Wh x n ∧ -128 ≤ n ∧ n ≤ 127 := by
  intro x hx
  have := leastW_mem hx
  obtain ⟨n, hn, e⟩ := kindW_lt (x := x) (by omega)
  refine ⟨n, hn, ?_⟩
  unfold kindZ at e
  split at e
  · omega
  · split at e
    · assumption
    · omega
theorem leastW_wh {l : List Nat} (h : leastW l ≤ 3) : ∀ x ∈ l, ∃ n, Wh x n := by
  intro x hx
  have := leastW_mem hx
  obtain ⟨n, hn, e⟩ := kindW_lt (x := x) (by omega)
  exact ⟨n, hn⟩

set_option maxHeartbeats 4000000 in
theorem sinto_calls {ok : Nat → Prop} (u : Value) (V : VV) (k : Int) (w : World) (h : IsV w (V.nb ok) u V) (hok : V.ok) (hn : V.nm) (hT : TabAt w) :
    Calls Tryd.prog 19 #[.agg #[u], .int .i64 k] w fun e w' => ∃ u', e = .returned (.tuple #[.agg #[u'], .bool (V.fit k)]) ∧ IsV w' ((V.into k).nb (fun b => ok b ∨ w.heap.size ≤ b)) u' (V.into k) ∧ Below w.heap.size w w' := by
  have H := Lib.hid h.lt
  have HOK := Lib.hid hok
  have HN := Lib.hid hn
  have HNU := Lib.hid (VV.nums_num hok hn)
  have HT := Lib.hid hT
  have HB := Lib.hid (Below.refl w.heap.size w)
  have hst := h.store
  clear h hok hn hT
  obtain ⟨K, hK⟩ : ∃ K, V.kind = K := ⟨_, rfl⟩
  have HK := Lib.hid hK
  by_cases h0 : V.kind = k
  · have HF := Lib.hid (show V.fit k = true by rw [← h0]; exact VV.fit_own V)
    have HI := Lib.hid (show V.into k = V by rw [← h0]; exact VV.into_own V)
    rw [HF.out, HI.out]
    have hb : (K == k) = true := by rw [← hK, h0]; simp
    have HE := Lib.hid (show V.kind = K from hK)
    clear h0 hK
    obtain ⟨W1, hWn⟩ : ∃ W1, ((w.alloc (.cells #[u] 27)).alloc (.cells #[.nilIface] 27)) = W1 := ⟨_, rfl⟩
    have hB : Below w.heap.size w W1 := by rw [← hWn]; exact ((below_new _ _).alloc (by simp <;> omega) _)
    replace H := Lib.hid (H.out.grow hB)
    replace HT := Lib.hid (fun j hj => keep_below hB _ _ (HT.out j hj))
    replace HB := Lib.hid (HB.out.trans (hB.mono HB.out.size))
    have HA := Lib.hid (show At1 W1 w.heap.size (u) by rw [← hWn]; exact (At1.new w (u) 27).below (below_new _ _))
    have HR := Lib.hid (show At1 W1 (w.heap.size + 1) (.nilIface) by rw [← hWn]; have := At1.new (w.alloc (.cells #[u] 27)) (.nilIface) 27; simpa using this)
    clear hB
    have cHA := HA.out.2.1
    have cHR := HR.out.2.1
    go_enter Tryd.func19, Tryd.ntmps19
    go_wp2_with fail
    clear hWn
    refine (kind_calls _ _ _ H.out).mono ?_
    clear cHA cHR
    rintro e W2 ⟨rfl, hB⟩
    replace H := Lib.hid (H.out.grow hB)
    replace HT := Lib.hid (fun j hj => keep_below hB _ _ (HT.out j hj))
    replace HA := Lib.hid (HA.out.below hB)
    replace HR := Lib.hid (HR.out.below hB)
    replace HB := Lib.hid (HB.out.trans (hB.mono HB.out.size))
    rw [HK.out]
    clear hB
    have cHA := HA.out.2.1
    have cHR := HR.out.2.1
    have fHR := HR.out.2.2 0
    go_wp2
    refine bodyPost_ret (v := .tuple #[.agg #[u], .bool true]) (by simp [results, Tryd.results19, go_sem, cHR]) rfl ⟨_, rfl, (H.out.setb (fun h => absurd h.2 (by show ¬ (_ + 1 < _); omega)) _).wide (fun b _ h => h.1.imp id .inl), below_set1 _ HB.out (by omega)⟩
  · have hb : (K == k) = false := by rw [← hK]; simpa using h0
    obtain ⟨C, hC⟩ : ∃ C, V.cls = C := ⟨_, rfl⟩
    have HC := Lib.hid hC
    by_cases hc : V.cls = 0
    · by_cases hnm : 1 ≤ k ∧ k ≤ 4
      · obtain ⟨L, hL⟩ : ∃ L : Int, (V.least : Int) = L := ⟨_, rfl⟩
        have HL := Lib.hid hL
        have HD := Lib.hid (decide_eq_true hnm)
        by_cases hle : (V.least : Int) ≤ k
        · have HF := Lib.hid (show V.fit k = true by unfold VV.fit; rw [decide_eq_true hc, decide_eq_true hnm, decide_eq_true hle]; simp)
          have hnl : V.nums.length ≤ 1048576 := Nat.le_trans VV.nums_lenle (VV.ok_len HOK.out)
          have HNL := Lib.hid hnl
          have HLW := Lib.hid (VV.leastW_le HOK.out HN.out hc)
          rw [HF.out]
          have HE := Lib.hid (show V.into k = if k = 1 then .bits (V.nums.map bitW) else if k = 2 then .smalls (V.nums.map wnOf) else if k = 3 then .ints (V.nums.map wnOf) else .floats V.nums by unfold VV.into; rw [if_neg h0, if_neg (by rw [HF.out]; decide)])
          have hcC : (C != 0) = false := by rw [← hC, hc]; rfl
          have hLk : ¬ k < L := by omega
          rw [HE.out]
          have HNM := Lib.hid hnm
          obtain ⟨l, hl⟩ : ∃ l, V.nums = l := ⟨_, rfl⟩
          rw [hl] at HNU HNL HLW HE ⊢
          have HV := Lib.hid hl
          clear h0 hc hK hC hL hl hle hnl
          have hk4 : k = 1 ∨ k = 2 ∨ k = 3 ∨ k = 4 := by omega
          clear hnm
          rcases hk4 with rfl | rfl | rfl | rfl
          · obtain ⟨W1, hWn⟩ : ∃ W1, ((w.alloc (.cells #[u] 27)).alloc (.cells #[.nilIface] 27)) = W1 := ⟨_, rfl⟩
            have hB : Below w.heap.size w W1 := by rw [← hWn]; exact ((below_new _ _).alloc (by simp <;> omega) _)
            replace H := Lib.hid (H.out.grow hB)
            replace HT := Lib.hid (fun j hj => keep_below hB _ _ (HT.out j hj))
            replace HB := Lib.hid (HB.out.trans (hB.mono HB.out.size))
            have HA := Lib.hid (show At1 W1 w.heap.size (u) by rw [← hWn]; exact (At1.new w (u) 27).below (below_new _ _))
            have HR := Lib.hid (show At1 W1 (w.heap.size + 1) (.nilIface) by rw [← hWn]; have := At1.new (w.alloc (.cells #[u] 27)) (.nilIface) 27; simpa using this)
            clear hB
            have cHA := HA.out.2.1
            have cHR := HR.out.2.1
            go_enter Tryd.func19, Tryd.ntmps19
            go_wp2_with fail
            clear hWn
            refine (kind_calls _ _ _ H.out).mono ?_
            clear cHA cHR
            rintro e W2 ⟨rfl, hB⟩
            replace H := Lib.hid (H.out.grow hB)
            replace HT := Lib.hid (fun j hj => keep_below hB _ _ (HT.out j hj))
            replace HA := Lib.hid (HA.out.below hB)
            replace HR := Lib.hid (HR.out.below hB)
            replace HB := Lib.hid (HB.out.trans (hB.mono HB.out.size))
            rw [HK.out]
            clear hB
            have cHA := HA.out.2.1
            have cHR := HR.out.2.1
            go_wp2_with fail
            refine (class_calls _ _ _ H.out).mono ?_
            clear cHA cHR
            rintro e W3 ⟨rfl, hB⟩
            replace H := Lib.hid (H.out.grow hB)
            replace HT := Lib.hid (fun j hj => keep_below hB _ _ (HT.out j hj))
            replace HA := Lib.hid (HA.out.below hB)
            replace HR := Lib.hid (HR.out.below hB)
            replace HB := Lib.hid (HB.out.trans (hB.mono HB.out.size))
            rw [HC.out]
            clear hB
            have cHA := HA.out.2.1
            have cHR := HR.out.2.1
            go_wp2_with fail
            refine (Calls.grow_same (numeric_calls _ _)).mono ?_
            clear cHA cHR
            rintro e W4 ⟨rfl, hB⟩
            replace H := Lib.hid (H.out.grow hB)
            replace HT := Lib.hid (fun j hj => keep_below hB _ _ (HT.out j hj))
            replace HA := Lib.hid (HA.out.below hB)
            replace HR := Lib.hid (HR.out.below hB)
            replace HB := Lib.hid (HB.out.trans (hB.mono HB.out.size))
            rw [HD.out]
            clear hB
            have cHA := HA.out.2.1
            have cHR := HR.out.2.1
            go_wp2_with fail
            refine (least_calls _ _ _ H.out HOK.out HN.out HT.out).mono ?_
            clear cHA cHR
            rintro e W5 ⟨rfl, hB⟩
            replace H := Lib.hid (H.out.grow hB)
            replace HT := Lib.hid (fun j hj => keep_below hB _ _ (HT.out j hj))
            replace HA := Lib.hid (HA.out.below hB)
            replace HR := Lib.hid (HR.out.below hB)
            replace HB := Lib.hid (HB.out.trans (hB.mono HB.out.size))
            rw [HL.out]
            clear hB
            have cHA := HA.out.2.1
            have cHR := HR.out.2.1
            go_wp2_with fail
            refine (vnums_calls _ _ _ H.out HOK.out HT.out).mono ?_
            clear cHA cHR
            rintro e W6 ⟨v, rfl, hs, hB⟩
            replace H := Lib.hid (H.out.grow hB)
            replace HT := Lib.hid (fun j hj => keep_below hB _ _ (HT.out j hj))
            replace HA := Lib.hid (HA.out.below hB)
            replace HR := Lib.hid (HR.out.below hB)
            replace HB := Lib.hid (HB.out.trans (hB.mono HB.out.size))
            have HS := Lib.hid (show Slc W6 _ v l.length (f64s l) by have := hs.any; rw [HV.out] at this; exact this)
            clear hs
            clear hB
            have cHA := HA.out.2.1
            have cHR := HR.out.2.1
            go_wp2_with fail
            have HK1 := Lib.hid (show ∀ x ∈ l, Num x ∧ kindW x = 1 from fun x hx => ⟨HNU.out x hx, by have h1 := leastW_mem hx; have h2 := kindW_le x; have h3 := HLW.out; have h4 := HL.out; omega⟩)
            refine (packed_calls _ l _ HS.out HNL.out HK1.out).mono ?_
            clear cHA cHR
            rintro e W7 ⟨b, rfl, hb2, hB⟩
            replace H := Lib.hid (H.out.grow hB)
            replace HT := Lib.hid (fun j hj => keep_below hB _ _ (HT.out j hj))
            replace HA := Lib.hid (HA.out.below hB)
            replace HR := Lib.hid (HR.out.below hB)
            replace HS := Lib.hid (HS.out.below hB)
            replace HB := Lib.hid (HB.out.trans (hB.mono HB.out.size))
            have HBI := Lib.hid hb2
            clear hb2
            clear hB
            have cHA := HA.out.2.1
            have cHR := HR.out.2.1
            go_wp2_with fail
            refine (vbits_calls _ _ _ HBI.out (by rw [List.length_map]; exact HNL.out)).mono ?_
            clear cHA cHR
            rintro e W8 ⟨x, rfl, hu, hB⟩
            replace H := Lib.hid (H.out.grow hB)
            replace HT := Lib.hid (fun j hj => keep_below hB _ _ (HT.out j hj))
            replace HA := Lib.hid (HA.out.below hB)
            replace HR := Lib.hid (HR.out.below hB)
            replace HS := Lib.hid (HS.out.below hB)
            replace HBI := Lib.hid (HBI.out.keep (keep_below hB))
            replace HB := Lib.hid (HB.out.trans (hB.mono HB.out.size))
            have hsx := hu.store
            have HX := Lib.hid hu.any
            clear hu
            clear hB
            have cHA := HA.out.2.1
            have cHR := HR.out.2.1
            have fHR := HR.out.2.2 0
            go_wp2
            refine bodyPost_ret (v := .tuple #[.agg #[x], .bool true]) (by simp [results, Tryd.results19, go_sem, cHR]) rfl ⟨_, rfl, (HX.out.setn (by simp [VV.kind]) HR.out.2.1 _).nbn (by simp [VV.kind]) _, below_set1 _ HB.out (by omega)⟩
          · obtain ⟨W1, hWn⟩ : ∃ W1, ((w.alloc (.cells #[u] 27)).alloc (.cells #[.nilIface] 27)) = W1 := ⟨_, rfl⟩
            have hB : Below w.heap.size w W1 := by rw [← hWn]; exact ((below_new _ _).alloc (by simp <;> omega) _)
            replace H := Lib.hid (H.out.grow hB)
            replace HT := Lib.hid (fun j hj => keep_below hB _ _ (HT.out j hj))
            replace HB := Lib.hid (HB.out.trans (hB.mono HB.out.size))
            have HA := Lib.hid (show At1 W1 w.heap.size (u) by rw [← hWn]; exact (At1.new w (u) 27).below (below_new _ _))
            have HR := Lib.hid (show At1 W1 (w.heap.size + 1) (.nilIface) by rw [← hWn]; have := At1.new (w.alloc (.cells #[u] 27)) (.nilIface) 27; simpa using this)
            clear hB
            have cHA := HA.out.2.1
            have cHR := HR.out.2.1
            go_enter Tryd.func19, Tryd.ntmps19
            go_wp2_with fail
            clear hWn
            refine (kind_calls _ _ _ H.out).mono ?_
            clear cHA cHR
            rintro e W2 ⟨rfl, hB⟩
            replace H := Lib.hid (H.out.grow hB)
            replace HT := Lib.hid (fun j hj => keep_below hB _ _ (HT.out j hj))
            replace HA := Lib.hid (HA.out.below hB)
            replace HR := Lib.hid (HR.out.below hB)
            replace HB := Lib.hid (HB.out.trans (hB.mono HB.out.size))
            rw [HK.out]
            clear hB
            have cHA := HA.out.2.1
            have cHR := HR.out.2.1
            go_wp2_with fail
            refine (class_calls _ _ _ H.out).mono ?_
            clear cHA cHR
            rintro e W3 ⟨rfl, hB⟩
            replace H := Lib.hid (H.out.grow hB)
            replace HT := Lib.hid (fun j hj => keep_below hB _ _ (HT.out j hj))
            replace HA := Lib.hid (HA.out.below hB)
            replace HR := Lib.hid (HR.out.below hB)
            replace HB := Lib.hid (HB.out.trans (hB.mono HB.out.size))
            rw [HC.out]
            clear hB
            have cHA := HA.out.2.1
            have cHR := HR.out.2.1
            go_wp2_with fail
            refine (Calls.grow_same (numeric_calls _ _)).mono ?_
            clear cHA cHR
            rintro e W4 ⟨rfl, hB⟩
            replace H := Lib.hid (H.out.grow hB)
            replace HT := Lib.hid (fun j hj => keep_below hB _ _ (HT.out j hj))
            replace HA := Lib.hid (HA.out.below hB)
            replace HR := Lib.hid (HR.out.below hB)
            replace HB := Lib.hid (HB.out.trans (hB.mono HB.out.size))
            rw [HD.out]
            clear hB
            have cHA := HA.out.2.1
            have cHR := HR.out.2.1
            go_wp2_with fail
            refine (least_calls _ _ _ H.out HOK.out HN.out HT.out).mono ?_
            clear cHA cHR
            rintro e W5 ⟨rfl, hB⟩
            replace H := Lib.hid (H.out.grow hB)
            replace HT := Lib.hid (fun j hj => keep_below hB _ _ (HT.out j hj))
            replace HA := Lib.hid (HA.out.below hB)
            replace HR := Lib.hid (HR.out.below hB)
            replace HB := Lib.hid (HB.out.trans (hB.mono HB.out.size))
            rw [HL.out]
            clear hB
            have cHA := HA.out.2.1
            have cHR := HR.out.2.1
            go_wp2_with fail
            refine (vnums_calls _ _ _ H.out HOK.out HT.out).mono ?_
            clear cHA cHR
            rintro e W6 ⟨v, rfl, hs, hB⟩
            replace H := Lib.hid (H.out.grow hB)
            replace HT := Lib.hid (fun j hj => keep_below hB _ _ (HT.out j hj))
            replace HA := Lib.hid (HA.out.below hB)
            replace HR := Lib.hid (HR.out.below hB)
            replace HB := Lib.hid (HB.out.trans (hB.mono HB.out.size))
            have HS := Lib.hid (show Slc W6 _ v l.length (f64s l) by have := hs.any; rw [HV.out] at this; exact this)
            clear hs
            clear hB
            have cHA := HA.out.2.1
            have cHR := HR.out.2.1
            go_wp2_with fail
            have HK1 := Lib.hid (leastW_i8 (l := l) (by have h3 := HLW.out; have h4 := HL.out; omega))
            have HNL2 := Lib.hid (show (l.map wnOf).length ≤ 2000000 by rw [List.length_map]; have := HNL.out; omega)
            refine (whole8_calls _ l _ HS.out (by have := HNL.out; omega) HK1.out).mono ?_
            clear cHA cHR
            rintro e W7 ⟨b, rfl, hb2, hB⟩
            replace H := Lib.hid (H.out.grow hB)
            replace HT := Lib.hid (fun j hj => keep_below hB _ _ (HT.out j hj))
            replace HA := Lib.hid (HA.out.below hB)
            replace HR := Lib.hid (HR.out.below hB)
            replace HS := Lib.hid (HS.out.below hB)
            replace HB := Lib.hid (HB.out.trans (hB.mono HB.out.size))
            have HBI := Lib.hid (show Slc W7 _ b (l.map wnOf).length (i8s (l.map wnOf)) by rw [List.length_map]; exact hb2)
            clear hb2
            clear hB
            have cHA := HA.out.2.1
            have cHR := HR.out.2.1
            go_wp2_with fail
            refine (vsmalls_calls _ _ _ HBI.out HNL2.out).mono ?_
            clear cHA cHR
            rintro e W8 ⟨x, rfl, hu, hB⟩
            replace H := Lib.hid (H.out.grow hB)
            replace HT := Lib.hid (fun j hj => keep_below hB _ _ (HT.out j hj))
            replace HA := Lib.hid (HA.out.below hB)
            replace HR := Lib.hid (HR.out.below hB)
            replace HS := Lib.hid (HS.out.below hB)
            replace HBI := Lib.hid (HBI.out.below hB)
            replace HB := Lib.hid (HB.out.trans (hB.mono HB.out.size))
            have hsx := hu.store
            have HX := Lib.hid hu.any
            clear hu
            clear hB
            have cHA := HA.out.2.1
            have cHR := HR.out.2.1
            have fHR := HR.out.2.2 0
            go_wp2
            refine bodyPost_ret (v := .tuple #[.agg #[x], .bool true]) (by simp [results, Tryd.results19, go_sem, cHR]) rfl ⟨_, rfl, (HX.out.setn (by simp [VV.kind]) HR.out.2.1 _).nbn (by simp [VV.kind]) _, below_set1 _ HB.out (by omega)⟩
          · obtain ⟨W1, hWn⟩ : ∃ W1, ((w.alloc (.cells #[u] 27)).alloc (.cells #[.nilIface] 27)) = W1 := ⟨_, rfl⟩
            have hB : Below w.heap.size w W1 := by rw [← hWn]; exact ((below_new _ _).alloc (by simp <;> omega) _)
            replace H := Lib.hid (H.out.grow hB)
            replace HT := Lib.hid (fun j hj => keep_below hB _ _ (HT.out j hj))
            replace HB := Lib.hid (HB.out.trans (hB.mono HB.out.size))
            have HA := Lib.hid (show At1 W1 w.heap.size (u) by rw [← hWn]; exact (At1.new w (u) 27).below (below_new _ _))
            have HR := Lib.hid (show At1 W1 (w.heap.size + 1) (.nilIface) by rw [← hWn]; have := At1.new (w.alloc (.cells #[u] 27)) (.nilIface) 27; simpa using this)
            clear hB
            have cHA := HA.out.2.1
            have cHR := HR.out.2.1
            go_enter Tryd.func19, Tryd.ntmps19
            go_wp2_with fail
            clear hWn
            refine (kind_calls _ _ _ H.out).mono ?_
            clear cHA cHR
            rintro e W2 ⟨rfl, hB⟩
            replace H := Lib.hid (H.out.grow hB)
            replace HT := Lib.hid (fun j hj => keep_below hB _ _ (HT.out j hj))
            replace HA := Lib.hid (HA.out.below hB)
            replace HR := Lib.hid (HR.out.below hB)
            replace HB := Lib.hid (HB.out.trans (hB.mono HB.out.size))
            rw [HK.out]
            clear hB
            have cHA := HA.out.2.1
            have cHR := HR.out.2.1
            go_wp2_with fail
            refine (class_calls _ _ _ H.out).mono ?_
            clear cHA cHR
            rintro e W3 ⟨rfl, hB⟩
            replace H := Lib.hid (H.out.grow hB)
            replace HT := Lib.hid (fun j hj => keep_below hB _ _ (HT.out j hj))
            replace HA := Lib.hid (HA.out.below hB)
            replace HR := Lib.hid (HR.out.below hB)
            replace HB := Lib.hid (HB.out.trans (hB.mono HB.out.size))
            rw [HC.out]
            clear hB
            have cHA := HA.out.2.1
            have cHR := HR.out.2.1
            go_wp2_with fail
            refine (Calls.grow_same (numeric_calls _ _)).mono ?_
            clear cHA cHR
            rintro e W4 ⟨rfl, hB⟩
            replace H := Lib.hid (H.out.grow hB)
            replace HT := Lib.hid (fun j hj => keep_below hB _ _ (HT.out j hj))
            replace HA := Lib.hid (HA.out.below hB)
            replace HR := Lib.hid (HR.out.below hB)
            replace HB := Lib.hid (HB.out.trans (hB.mono HB.out.size))
            rw [HD.out]
            clear hB
            have cHA := HA.out.2.1
            have cHR := HR.out.2.1
            go_wp2_with fail
            refine (least_calls _ _ _ H.out HOK.out HN.out HT.out).mono ?_
            clear cHA cHR
            rintro e W5 ⟨rfl, hB⟩
            replace H := Lib.hid (H.out.grow hB)
            replace HT := Lib.hid (fun j hj => keep_below hB _ _ (HT.out j hj))
            replace HA := Lib.hid (HA.out.below hB)
            replace HR := Lib.hid (HR.out.below hB)
            replace HB := Lib.hid (HB.out.trans (hB.mono HB.out.size))
            rw [HL.out]
            clear hB
            have cHA := HA.out.2.1
            have cHR := HR.out.2.1
            go_wp2_with fail
            refine (vnums_calls _ _ _ H.out HOK.out HT.out).mono ?_
            clear cHA cHR
            rintro e W6 ⟨v, rfl, hs, hB⟩
            replace H := Lib.hid (H.out.grow hB)
            replace HT := Lib.hid (fun j hj => keep_below hB _ _ (HT.out j hj))
            replace HA := Lib.hid (HA.out.below hB)
            replace HR := Lib.hid (HR.out.below hB)
            replace HB := Lib.hid (HB.out.trans (hB.mono HB.out.size))
            have HS := Lib.hid (show Slc W6 _ v l.length (f64s l) by have := hs.any; rw [HV.out] at this; exact this)
            clear hs
            clear hB
            have cHA := HA.out.2.1
            have cHR := HR.out.2.1
            go_wp2_with fail
            have HK1 := Lib.hid (leastW_wh (l := l) (by have h3 := HLW.out; have h4 := HL.out; omega))
            have HNL2 := Lib.hid (show (l.map wnOf).length ≤ 2000000 by rw [List.length_map]; have := HNL.out; omega)
            have HSM := Lib.hid (show (l.map wnOf).all sm = true by rw [List.all_eq_true]; intro z hz; obtain ⟨x, hx, rfl⟩ := List.mem_map.1 hz; obtain ⟨n, hn⟩ := HK1.out x hx; rw [wnOf_wh hn]; exact sm_yes (by have := hn.2.1; omega) (by have := hn.2.1; omega))
            refine (whole64_calls _ l _ HS.out (by have := HNL.out; omega) HK1.out).mono ?_
            clear cHA cHR
            rintro e W7 ⟨b, rfl, hb2, hB⟩
            replace H := Lib.hid (H.out.grow hB)
            replace HT := Lib.hid (fun j hj => keep_below hB _ _ (HT.out j hj))
            replace HA := Lib.hid (HA.out.below hB)
            replace HR := Lib.hid (HR.out.below hB)
            replace HS := Lib.hid (HS.out.below hB)
            replace HB := Lib.hid (HB.out.trans (hB.mono HB.out.size))
            have HBI := Lib.hid (show Slc W7 _ b (l.map wnOf).length (ints (l.map wnOf)) by rw [List.length_map]; exact hb2)
            clear hb2
            clear hB
            have cHA := HA.out.2.1
            have cHR := HR.out.2.1
            go_wp2_with fail
            refine (vints_yes _ _ _ HBI.out HNL2.out HSM.out).mono ?_
            clear cHA cHR
            rintro e W8 ⟨x, rfl, hu, hB⟩
            replace H := Lib.hid (H.out.grow hB)
            replace HT := Lib.hid (fun j hj => keep_below hB _ _ (HT.out j hj))
            replace HA := Lib.hid (HA.out.below hB)
            replace HR := Lib.hid (HR.out.below hB)
            replace HS := Lib.hid (HS.out.below hB)
            replace HBI := Lib.hid (HBI.out.below hB)
            replace HB := Lib.hid (HB.out.trans (hB.mono HB.out.size))
            have hsx := hu.store
            have HX := Lib.hid hu.any
            clear hu
            clear hB
            have cHA := HA.out.2.1
            have cHR := HR.out.2.1
            have fHR := HR.out.2.2 0
            go_wp2
            refine bodyPost_ret (v := .tuple #[.agg #[x], .bool true]) (by simp [results, Tryd.results19, go_sem, cHR]) rfl ⟨_, rfl, (HX.out.setn (by simp [VV.kind]) HR.out.2.1 _).nbn (by simp [VV.kind]) _, below_set1 _ HB.out (by omega)⟩
          · obtain ⟨W1, hWn⟩ : ∃ W1, ((w.alloc (.cells #[u] 27)).alloc (.cells #[.nilIface] 27)) = W1 := ⟨_, rfl⟩
            have hB : Below w.heap.size w W1 := by rw [← hWn]; exact ((below_new _ _).alloc (by simp <;> omega) _)
            replace H := Lib.hid (H.out.grow hB)
            replace HT := Lib.hid (fun j hj => keep_below hB _ _ (HT.out j hj))
            replace HB := Lib.hid (HB.out.trans (hB.mono HB.out.size))
            have HA := Lib.hid (show At1 W1 w.heap.size (u) by rw [← hWn]; exact (At1.new w (u) 27).below (below_new _ _))
            have HR := Lib.hid (show At1 W1 (w.heap.size + 1) (.nilIface) by rw [← hWn]; have := At1.new (w.alloc (.cells #[u] 27)) (.nilIface) 27; simpa using this)
            clear hB
            have cHA := HA.out.2.1
            have cHR := HR.out.2.1
            go_enter Tryd.func19, Tryd.ntmps19
            go_wp2_with fail
            clear hWn
            refine (kind_calls _ _ _ H.out).mono ?_
            clear cHA cHR
            rintro e W2 ⟨rfl, hB⟩
            replace H := Lib.hid (H.out.grow hB)
            replace HT := Lib.hid (fun j hj => keep_below hB _ _ (HT.out j hj))
            replace HA := Lib.hid (HA.out.below hB)
            replace HR := Lib.hid (HR.out.below hB)
            replace HB := Lib.hid (HB.out.trans (hB.mono HB.out.size))
            rw [HK.out]
            clear hB
            have cHA := HA.out.2.1
            have cHR := HR.out.2.1
            go_wp2_with fail
            refine (class_calls _ _ _ H.out).mono ?_
            clear cHA cHR
            rintro e W3 ⟨rfl, hB⟩
            replace H := Lib.hid (H.out.grow hB)
            replace HT := Lib.hid (fun j hj => keep_below hB _ _ (HT.out j hj))
            replace HA := Lib.hid (HA.out.below hB)
            replace HR := Lib.hid (HR.out.below hB)
            replace HB := Lib.hid (HB.out.trans (hB.mono HB.out.size))
            rw [HC.out]
            clear hB
            have cHA := HA.out.2.1
            have cHR := HR.out.2.1
            go_wp2_with fail
            refine (Calls.grow_same (numeric_calls _ _)).mono ?_
            clear cHA cHR
            rintro e W4 ⟨rfl, hB⟩
            replace H := Lib.hid (H.out.grow hB)
            replace HT := Lib.hid (fun j hj => keep_below hB _ _ (HT.out j hj))
            replace HA := Lib.hid (HA.out.below hB)
            replace HR := Lib.hid (HR.out.below hB)
            replace HB := Lib.hid (HB.out.trans (hB.mono HB.out.size))
            rw [HD.out]
            clear hB
            have cHA := HA.out.2.1
            have cHR := HR.out.2.1
            go_wp2_with fail
            refine (least_calls _ _ _ H.out HOK.out HN.out HT.out).mono ?_
            clear cHA cHR
            rintro e W5 ⟨rfl, hB⟩
            replace H := Lib.hid (H.out.grow hB)
            replace HT := Lib.hid (fun j hj => keep_below hB _ _ (HT.out j hj))
            replace HA := Lib.hid (HA.out.below hB)
            replace HR := Lib.hid (HR.out.below hB)
            replace HB := Lib.hid (HB.out.trans (hB.mono HB.out.size))
            rw [HL.out]
            clear hB
            have cHA := HA.out.2.1
            have cHR := HR.out.2.1
            go_wp2_with fail
            refine (vnums_calls _ _ _ H.out HOK.out HT.out).mono ?_
            clear cHA cHR
            rintro e W6 ⟨v, rfl, hs, hB⟩
            replace H := Lib.hid (H.out.grow hB)
            replace HT := Lib.hid (fun j hj => keep_below hB _ _ (HT.out j hj))
            replace HA := Lib.hid (HA.out.below hB)
            replace HR := Lib.hid (HR.out.below hB)
            replace HB := Lib.hid (HB.out.trans (hB.mono HB.out.size))
            have HS := Lib.hid (show Slc W6 _ v l.length (f64s l) by have := hs.any; rw [HV.out] at this; exact this)
            clear hs
            clear hB
            have cHA := HA.out.2.1
            have cHR := HR.out.2.1
            go_wp2_with fail
            have HFN := Lib.hid (show ∀ x ∈ l, Fnt x from fun x hx => (HNU.out x hx).1)
            refine (vfloats_yes _ l _ HS.out (by have := HNL.out; omega) HFN.out).mono ?_
            clear cHA cHR
            rintro e W7 ⟨x, rfl, hu, hB⟩
            replace H := Lib.hid (H.out.grow hB)
            replace HT := Lib.hid (fun j hj => keep_below hB _ _ (HT.out j hj))
            replace HA := Lib.hid (HA.out.below hB)
            replace HR := Lib.hid (HR.out.below hB)
            replace HS := Lib.hid (HS.out.below hB)
            replace HB := Lib.hid (HB.out.trans (hB.mono HB.out.size))
            have hsx := hu.store
            have HX := Lib.hid (show IsV W7 _ x (.floats l) by have := hu.any; rw [map_ze HNU.out] at this; exact this)
            clear hu
            clear hB
            have cHA := HA.out.2.1
            have cHR := HR.out.2.1
            have fHR := HR.out.2.2 0
            go_wp2
            refine bodyPost_ret (v := .tuple #[.agg #[x], .bool true]) (by simp [results, Tryd.results19, go_sem, cHR]) rfl ⟨_, rfl, (HX.out.setn (by simp [VV.kind]) HR.out.2.1 _).nbn (by simp [VV.kind]) _, below_set1 _ HB.out (by omega)⟩
        · have HF := Lib.hid (show V.fit k = false by unfold VV.fit; rw [decide_eq_false h0, decide_eq_false hle]; simp)
          have HE := Lib.hid (VV.into_no HF.out)
          rw [HF.out, HE.out]
          have hcC : (C != 0) = false := by rw [← hC, hc]; rfl
          have hLk : k < L := by omega
          clear h0 hc hK hC hL hle hnm
          obtain ⟨W1, hWn⟩ : ∃ W1, ((w.alloc (.cells #[u] 27)).alloc (.cells #[.nilIface] 27)) = W1 := ⟨_, rfl⟩
          have hB : Below w.heap.size w W1 := by rw [← hWn]; exact ((below_new _ _).alloc (by simp <;> omega) _)
          replace H := Lib.hid (H.out.grow hB)
          replace HT := Lib.hid (fun j hj => keep_below hB _ _ (HT.out j hj))
          replace HB := Lib.hid (HB.out.trans (hB.mono HB.out.size))
          have HA := Lib.hid (show At1 W1 w.heap.size (u) by rw [← hWn]; exact (At1.new w (u) 27).below (below_new _ _))
          have HR := Lib.hid (show At1 W1 (w.heap.size + 1) (.nilIface) by rw [← hWn]; have := At1.new (w.alloc (.cells #[u] 27)) (.nilIface) 27; simpa using this)
          clear hB
          have cHA := HA.out.2.1
          have cHR := HR.out.2.1
          go_enter Tryd.func19, Tryd.ntmps19
          go_wp2_with fail
          clear hWn
          refine (kind_calls _ _ _ H.out).mono ?_
          clear cHA cHR
          rintro e W2 ⟨rfl, hB⟩
          replace H := Lib.hid (H.out.grow hB)
          replace HT := Lib.hid (fun j hj => keep_below hB _ _ (HT.out j hj))
          replace HA := Lib.hid (HA.out.below hB)
          replace HR := Lib.hid (HR.out.below hB)
          replace HB := Lib.hid (HB.out.trans (hB.mono HB.out.size))
          rw [HK.out]
          clear hB
          have cHA := HA.out.2.1
          have cHR := HR.out.2.1
          go_wp2_with fail
          refine (class_calls _ _ _ H.out).mono ?_
          clear cHA cHR
          rintro e W3 ⟨rfl, hB⟩
          replace H := Lib.hid (H.out.grow hB)
          replace HT := Lib.hid (fun j hj => keep_below hB _ _ (HT.out j hj))
          replace HA := Lib.hid (HA.out.below hB)
          replace HR := Lib.hid (HR.out.below hB)
          replace HB := Lib.hid (HB.out.trans (hB.mono HB.out.size))
          rw [HC.out]
          clear hB
          have cHA := HA.out.2.1
          have cHR := HR.out.2.1
          go_wp2_with fail
          refine (Calls.grow_same (numeric_calls _ _)).mono ?_
          clear cHA cHR
          rintro e W4 ⟨rfl, hB⟩
          replace H := Lib.hid (H.out.grow hB)
          replace HT := Lib.hid (fun j hj => keep_below hB _ _ (HT.out j hj))
          replace HA := Lib.hid (HA.out.below hB)
          replace HR := Lib.hid (HR.out.below hB)
          replace HB := Lib.hid (HB.out.trans (hB.mono HB.out.size))
          rw [HD.out]
          clear hB
          have cHA := HA.out.2.1
          have cHR := HR.out.2.1
          go_wp2_with fail
          refine (least_calls _ _ _ H.out HOK.out HN.out HT.out).mono ?_
          clear cHA cHR
          rintro e W5 ⟨rfl, hB⟩
          replace H := Lib.hid (H.out.grow hB)
          replace HT := Lib.hid (fun j hj => keep_below hB _ _ (HT.out j hj))
          replace HA := Lib.hid (HA.out.below hB)
          replace HR := Lib.hid (HR.out.below hB)
          replace HB := Lib.hid (HB.out.trans (hB.mono HB.out.size))
          rw [HL.out]
          clear hB
          have cHA := HA.out.2.1
          have cHR := HR.out.2.1
          have fHR := HR.out.2.2 0
          go_wp2
          refine bodyPost_ret (v := .tuple #[.agg #[.nilIface], .bool false]) (by simp [results, Tryd.results19, go_sem, cHR]) rfl ⟨_, rfl, .none, below_set1 _ HB.out (by omega)⟩
      · have HF := Lib.hid (show V.fit k = false by unfold VV.fit; rw [decide_eq_false h0, decide_eq_false hnm]; simp)
        have HE := Lib.hid (VV.into_no HF.out)
        have HD := Lib.hid (decide_eq_false hnm)
        rw [HF.out, HE.out]
        have hcC : (C != 0) = false := by rw [← hC, hc]; rfl
        clear h0 hc hK hC hnm
        obtain ⟨W1, hWn⟩ : ∃ W1, ((w.alloc (.cells #[u] 27)).alloc (.cells #[.nilIface] 27)) = W1 := ⟨_, rfl⟩
        have hB : Below w.heap.size w W1 := by rw [← hWn]; exact ((below_new _ _).alloc (by simp <;> omega) _)
        replace H := Lib.hid (H.out.grow hB)
        replace HT := Lib.hid (fun j hj => keep_below hB _ _ (HT.out j hj))
        replace HB := Lib.hid (HB.out.trans (hB.mono HB.out.size))
        have HA := Lib.hid (show At1 W1 w.heap.size (u) by rw [← hWn]; exact (At1.new w (u) 27).below (below_new _ _))
        have HR := Lib.hid (show At1 W1 (w.heap.size + 1) (.nilIface) by rw [← hWn]; have := At1.new (w.alloc (.cells #[u] 27)) (.nilIface) 27; simpa using this)
        clear hB
        have cHA := HA.out.2.1
        have cHR := HR.out.2.1
        go_enter Tryd.func19, Tryd.ntmps19
        go_wp2_with fail
        clear hWn
        refine (kind_calls _ _ _ H.out).mono ?_
        clear cHA cHR
        rintro e W2 ⟨rfl, hB⟩
        replace H := Lib.hid (H.out.grow hB)
        replace HT := Lib.hid (fun j hj => keep_below hB _ _ (HT.out j hj))
        replace HA := Lib.hid (HA.out.below hB)
        replace HR := Lib.hid (HR.out.below hB)
        replace HB := Lib.hid (HB.out.trans (hB.mono HB.out.size))
        rw [HK.out]
        clear hB
        have cHA := HA.out.2.1
        have cHR := HR.out.2.1
        go_wp2_with fail
        refine (class_calls _ _ _ H.out).mono ?_
        clear cHA cHR
        rintro e W3 ⟨rfl, hB⟩
        replace H := Lib.hid (H.out.grow hB)
        replace HT := Lib.hid (fun j hj => keep_below hB _ _ (HT.out j hj))
        replace HA := Lib.hid (HA.out.below hB)
        replace HR := Lib.hid (HR.out.below hB)
        replace HB := Lib.hid (HB.out.trans (hB.mono HB.out.size))
        rw [HC.out]
        clear hB
        have cHA := HA.out.2.1
        have cHR := HR.out.2.1
        go_wp2_with fail
        refine (Calls.grow_same (numeric_calls _ _)).mono ?_
        clear cHA cHR
        rintro e W4 ⟨rfl, hB⟩
        replace H := Lib.hid (H.out.grow hB)
        replace HT := Lib.hid (fun j hj => keep_below hB _ _ (HT.out j hj))
        replace HA := Lib.hid (HA.out.below hB)
        replace HR := Lib.hid (HR.out.below hB)
        replace HB := Lib.hid (HB.out.trans (hB.mono HB.out.size))
        rw [HD.out]
        clear hB
        have cHA := HA.out.2.1
        have cHR := HR.out.2.1
        have fHR := HR.out.2.2 0
        go_wp2
        refine bodyPost_ret (v := .tuple #[.agg #[.nilIface], .bool false]) (by simp [results, Tryd.results19, go_sem, cHR]) rfl ⟨_, rfl, .none, below_set1 _ HB.out (by omega)⟩
    · have HF := Lib.hid (show V.fit k = false by unfold VV.fit; rw [decide_eq_false h0, decide_eq_false hc]; simp)
      have HE := Lib.hid (VV.into_no HF.out)
      rw [HF.out, HE.out]
      have hcC : (C != 0) = true := by rw [← hC]; simpa using hc
      clear h0 hc hK hC
      obtain ⟨W1, hWn⟩ : ∃ W1, ((w.alloc (.cells #[u] 27)).alloc (.cells #[.nilIface] 27)) = W1 := ⟨_, rfl⟩
      have hB : Below w.heap.size w W1 := by rw [← hWn]; exact ((below_new _ _).alloc (by simp <;> omega) _)
      replace H := Lib.hid (H.out.grow hB)
      replace HT := Lib.hid (fun j hj => keep_below hB _ _ (HT.out j hj))
      replace HB := Lib.hid (HB.out.trans (hB.mono HB.out.size))
      have HA := Lib.hid (show At1 W1 w.heap.size (u) by rw [← hWn]; exact (At1.new w (u) 27).below (below_new _ _))
      have HR := Lib.hid (show At1 W1 (w.heap.size + 1) (.nilIface) by rw [← hWn]; have := At1.new (w.alloc (.cells #[u] 27)) (.nilIface) 27; simpa using this)
      clear hB
      have cHA := HA.out.2.1
      have cHR := HR.out.2.1
      go_enter Tryd.func19, Tryd.ntmps19
      go_wp2_with fail
      clear hWn
      refine (kind_calls _ _ _ H.out).mono ?_
      clear cHA cHR
      rintro e W2 ⟨rfl, hB⟩
      replace H := Lib.hid (H.out.grow hB)
      replace HT := Lib.hid (fun j hj => keep_below hB _ _ (HT.out j hj))
      replace HA := Lib.hid (HA.out.below hB)
      replace HR := Lib.hid (HR.out.below hB)
      replace HB := Lib.hid (HB.out.trans (hB.mono HB.out.size))
      rw [HK.out]
      clear hB
      have cHA := HA.out.2.1
      have cHR := HR.out.2.1
      go_wp2_with fail
      refine (class_calls _ _ _ H.out).mono ?_
      clear cHA cHR
      rintro e W3 ⟨rfl, hB⟩
      replace H := Lib.hid (H.out.grow hB)
      replace HT := Lib.hid (fun j hj => keep_below hB _ _ (HT.out j hj))
      replace HA := Lib.hid (HA.out.below hB)
      replace HR := Lib.hid (HR.out.below hB)
      replace HB := Lib.hid (HB.out.trans (hB.mono HB.out.size))
      rw [HC.out]
      clear hB
      have cHA := HA.out.2.1
      have cHR := HR.out.2.1
      have fHR := HR.out.2.2 0
      go_wp2
      refine bodyPost_ret (v := .tuple #[.agg #[.nilIface], .bool false]) (by simp [results, Tryd.results19, go_sem, cHR]) rfl ⟨_, rfl, .none, below_set1 _ HB.out (by omega)⟩
end Go.Proofs.YtnicoddkbcfijaaDoor

/- Walks with local variables: what a store to one leaves. -/
namespace Go.Proofs.YtnicoddkbcfijaaDoor
open Go.RowKit
set_option linter.unusedVariables false
theorem ok_step (okc : Nat → Prop) (n a m : Nat) (hm : ∀ b, n ≤ b → okc b) (ha : n ≤ a) (ham : a < m) : ∃ o : Nat → Prop, (∀ b, o b → okc b) ∧ (∀ b, b < n → okc b → o b) ∧ (∀ b, m ≤ b → o b) ∧ ¬ o a :=
  ⟨fun b => okc b ∧ b ≠ a, fun b h => h.1, fun b h1 h2 => ⟨h2, by omega⟩, fun b h => ⟨hm b (by omega), by omega⟩, fun h => h.2 rfl⟩
theorem IsIface.ne_int {y : Value} (h : IsIface y) (k : IntKind) (z : Int) : Value.int k z ≠ y := by rcases h with rfl | ⟨t, x, rfl⟩ <;> intro e <;> cases e
theorem IsIface.ne_float {y : Value} (h : IsIface y) (k : FloatKind) (z : Nat) : Value.float k z ≠ y := by rcases h with rfl | ⟨t, x, rfl⟩ <;> intro e <;> cases e
/-- A store over an interface touches no vector's cells, but of boxes, whose blocks are told apart. -/
theorem IsV.setw {w : World} {ok : Nat → Prop} {u : Value} {V : VV} (h : IsV w (V.nb ok) u V) {p : Addr} {y : Value} (hp : w.cell? p = some y) (hy : IsIface y) (ho : ¬ ok p.block) (x : Value) : IsV (w.setCell p x) (V.nb ok) u V := by
  by_cases hV : V.kind = 6
  · exact h.setb (fun hn => hn.elim (fun e => e hV) ho) x
  · cases h with
    | none => exact .none
    | bits h hm => exact .bits (h.setn hp (fun z hz => by simp only [u64s, List.mem_map] at hz; obtain ⟨q, _, rfl⟩ := hz; exact hy.ne_int _ _) x) hm
    | smalls h => exact .smalls ⟨h.1.setn hp (fun z hz => by simp only [i8s, List.mem_map] at hz; obtain ⟨q, _, rfl⟩ := hz; exact hy.ne_int _ _) x, h.2⟩
    | ints h => exact .ints ⟨h.1.setn hp (fun z hz => by simp only [Go.Proofs.YtnicoddkbcfijaaDoor.ints, List.mem_map] at hz; obtain ⟨q, _, rfl⟩ := hz; exact hy.ne_int _ _) x, h.2⟩
    | floats h => exact .floats ⟨h.1.setn hp (fun z hz => by simp only [f64s, List.mem_map] at hz; obtain ⟨q, _, rfl⟩ := hz; exact hy.ne_float _ _) x, h.2⟩
    | chars h => exact .chars ⟨h.1.setn hp (fun z hz => by simp only [i32s, List.mem_map] at hz; obtain ⟨q, _, rfl⟩ := hz; exact hy.ne_int _ _) x, h.2⟩
    | boxes f g h1 h2 hc hs hv => exact absurd rfl hV
theorem At1.set {w : World} {b : Nat} {x : Value} (h : At1 w b x) (y : Value) : At1 (w.setCell ⟨b, 0, none⟩ y) b y := by
  refine ⟨by simpa using h.1, World.cell?_setCell_same _ _ _ h.2.1, fun o => ?_⟩
  have := h.2.2 o
  simpa using this
theorem TabAt.setc {w : World} (h : TabAt w) {p : Addr} {y : Value} (hp : w.cell? p = some y) (hy : IsIface y) (x : Value) : TabAt (w.setCell p x) := fun j hj => by
  rw [World.cell?_setCell_other _ _ _ _ (fun ep => ?_)]
  · exact h j hj
  · have := h j hj
    rw [← ep, hp] at this
    exact hy.ne_int _ _ (Option.some.inj this).symm
theorem Slc.setc {w : World} {ok : Nat → Prop} {s : Value} {n : Nat} {xs : List Value} (h : Slc w ok s n xs) {p : Addr} {y : Value} (hp : w.cell? p = some y) (hy : ∀ z ∈ xs, z ≠ y) (x : Value) : Slc (w.setCell p x) ok s n xs := ⟨h.1.setn hp hy x, h.2⟩
end Go.Proofs.YtnicoddkbcfijaaDoor

/- Package squeeze, walked: Squeeze, Numbers. -/
namespace Go.Proofs.YtnicoddkbcfijaaDoor
open Go.RowKit Fl
set_option linter.unusedVariables false
set_option maxRecDepth 8000

/-- .. in the least kind. -/
noncomputable def VV.sq (V : VV) : VV := V.into (V.least : Int)
theorem least_bd (V : VV) (h : V.cls = 0) : 1 ≤ V.least ∧ V.least ≤ 4 := by
  cases V with
  | bits l => exact ⟨Nat.le_refl _, by show 1 ≤ 4; decide⟩
  | chars l => simp [VV.cls] at h
  | boxes l => simp [VV.cls] at h
  | none => exact _root_.Go.Proofs.YtnicoddkbcfijaaDoor.leastW_le _
  | smalls l => exact _root_.Go.Proofs.YtnicoddkbcfijaaDoor.leastW_le _
  | ints l => exact _root_.Go.Proofs.YtnicoddkbcfijaaDoor.leastW_le _
  | floats l => exact _root_.Go.Proofs.YtnicoddkbcfijaaDoor.leastW_le _
theorem VV.fit_least {V : VV} (h : V.cls = 0 ∨ V.kind = V.least) : V.fit (V.least : Int) = true := by
  unfold VV.fit
  rcases h with h | h
  · have h1 := least_bd V h
    rw [decide_eq_true h, decide_eq_true (show 1 ≤ (V.least : Int) ∧ (V.least : Int) ≤ 4 by omega), decide_eq_true (Int.le_refl _)]; simp
  · rw [decide_eq_true h]; simp
theorem VV.fit_least' (V : VV) : V.fit (V.least : Int) = true := by
  by_cases h : V.cls = 0
  · exact VV.fit_least (.inl h)
  · exact VV.fit_least (.inr (VV.least_oth (.inr h)).symm)
theorem VV.sq_spec {V : VV} (hok : V.ok) (hn : V.nm) : V.sq.kind = V.least ∧ V.sq.nums = V.nums ∧ V.sq.cls = V.cls ∧ V.sq.ok ∧ V.sq.nm ∧ V.sq.len = V.len := VV.into_spec hok hn (VV.fit_least' V)


set_option maxHeartbeats 4000000 in
theorem squeeze_calls {ok : Nat → Prop} (u : Value) (V : VV) (w : World) (h : IsV w (V.nb ok) u V) (hok : V.ok) (hn : V.nm) (hT : TabAt w) :
    Calls Tryd.prog 12 #[.agg #[u]] w fun e w' => ∃ u', e = .returned (.agg #[u']) ∧ IsV w' (V.sq.nb (fun b => ok b ∨ w.heap.size ≤ b)) u' V.sq ∧ Below w.heap.size w w' := by
  have HOK := Lib.hid hok
  have HN := Lib.hid hn
  have HT := Lib.hid hT
  have HB := Lib.hid (Below.refl w.heap.size w)
  have hst := h.store
  have hsh := h.shape
  obtain ⟨L, hL⟩ : ∃ L : Int, (V.least : Int) = L := ⟨_, rfl⟩
  have HF := Lib.hid (VV.fit_least' V)
  have HS := Lib.hid (show V.into L = V.sq by rw [← hL]; rfl)
  rw [hL] at HF
  have HL := Lib.hid hL
  clear hL
  obtain ⟨ok0, hok0⟩ : ∃ o : Nat → Prop, o = fun b => ok b ∧ b < w.heap.size ∨ w.heap.size ≤ b := ⟨_, rfl⟩
  have HOKP := Lib.hid (show ∀ b, ok0 b → ok b ∨ w.heap.size ≤ b by rw [hok0]; exact fun b h => h.imp (fun h => h.1) id)
  have HFR := Lib.hid (show ∀ b, w.heap.size ≤ b → ok0 b by rw [hok0]; exact fun b h => .inr h)
  have H := Lib.hid (h.nbw (ok' := ok0) (fun b hb ho => by rw [hok0]; exact .inl ⟨ho, hb⟩))
  clear hok0
  clear h hok hn hT
  obtain ⟨W1, hWn⟩ : ∃ X, (w.alloc (.cells #[u] 27)) = X := ⟨_, rfl⟩
  have hB : Below w.heap.size w W1 := by rw [← hWn]; exact below_new _ _
  have hla : w.heap.size ≤ w.heap.size := by omega
  have hlb : w.heap.size < W1.heap.size := by rw [← hWn]; simp; try omega
  have HA := Lib.hid (show At1 W1 w.heap.size (u) by rw [← hWn]; exact At1.new _ (u) 27)
  have GEHA := Lib.hid (show w.heap.size ≤ w.heap.size from Nat.le_trans HB.out.size hla)
  obtain ⟨ok1, o1, o2, o3, o4⟩ := ok_step ok0 w.heap.size w.heap.size W1.heap.size HFR.out hla hlb
  replace HOKP := Lib.hid (fun b h => HOKP.out b (o1 b h))
  replace HFR := Lib.hid o3
  replace H := Lib.hid ((H.out.nbw (fun b hb h => o2 b hb h)).grow hB)
  replace HT := Lib.hid (fun j hj => keep_below hB _ _ (HT.out j hj))
  replace HB := Lib.hid (HB.out.trans (hB.mono HB.out.size))
  have NOHA := Lib.hid o4
  clear o1 o2 o3 o4
  clear hla hlb hB
  have IOHA : Hid (IsIface (u)) := Lib.hid (hsh)
  have cHA := HA.out.2.1
  
  have hE0 := hWn
  clear hWn
  obtain ⟨W2, hWn⟩ : ∃ X, (W1.alloc (.cells #[.nilIface] 27)) = X := ⟨_, rfl⟩
  have hB : Below W1.heap.size W1 W2 := by rw [← hWn]; exact below_new _ _
  have hla : W1.heap.size ≤ W1.heap.size := by omega
  have hlb : W1.heap.size < W2.heap.size := by rw [← hWn]; simp; try omega
  have HR := Lib.hid (show At1 W2 W1.heap.size (.nilIface) by rw [← hWn]; exact At1.new _ (.nilIface) 27)
  clear cHA
  have NEHAHR := Lib.hid (show w.heap.size ≠ W1.heap.size by have := HA.out.1; omega)
  have GEHR := Lib.hid (show w.heap.size ≤ W1.heap.size from Nat.le_trans HB.out.size hla)
  obtain ⟨ok2, o1, o2, o3, o4⟩ := ok_step ok1 W1.heap.size W1.heap.size W2.heap.size HFR.out hla hlb
  replace HOKP := Lib.hid (fun b h => HOKP.out b (o1 b h))
  replace HFR := Lib.hid o3
  replace NOHA := Lib.hid (fun h => NOHA.out (o1 _ h))
  replace H := Lib.hid ((H.out.nbw (fun b hb h => o2 b hb h)).grow hB)
  replace HT := Lib.hid (fun j hj => keep_below hB _ _ (HT.out j hj))
  replace HA := Lib.hid (HA.out.below hB)
  replace HB := Lib.hid (HB.out.trans (hB.mono HB.out.size))
  have NOHR := Lib.hid o4
  clear o1 o2 o3 o4
  clear hla hlb hB
  have IOHR : Hid (IsIface (.nilIface)) := Lib.hid (.inl rfl)
  have cHA := HA.out.2.1
  have cHR := HR.out.2.1
  
  have hE1 := hWn
  clear hWn
  go_enter Tryd.func12, Tryd.ntmps12
  go_wp2_with fail
  clear hE0 hE1
  have hcz : True := trivial
  refine wp_region_held_drew (S := fun w' => w'.cell? ⟨w.heap.size, 0, none⟩ = some (u) ∧ w'.cell? ⟨W1.heap.size, 0, none⟩ = some (.nilIface)) (by kernel_rfl) ⟨cHA, cHR⟩ (fun hHeld => ?_)
  obtain ⟨W3, hWn⟩ : ∃ X, W2.drew = X := ⟨_, rfl⟩
  have hB : Below W2.heap.size W2 W3 := by rw [← hWn]; exact Below.drewN' (Below.refl _ _) 1
  clear cHA cHR
  replace H := Lib.hid (H.out.grow hB)
  replace HT := Lib.hid (fun j hj => keep_below hB _ _ (HT.out j hj))
  replace HA := Lib.hid (HA.out.below hB)
  replace HR := Lib.hid (HR.out.below hB)
  replace HB := Lib.hid (HB.out.trans (hB.mono HB.out.size))
  replace HFR := Lib.hid (fun b h => HFR.out b (Nat.le_trans hB.size h))
  rw [hWn] at hHeld ⊢
  clear hB hWn hcz
  have cHA := HA.out.2.1
  have cHR := HR.out.2.1
  refine wpAnyH_take (i := 0) (v := ?_) rfl (by kernel_rfl) (by kernel_rfl) (by kernel_rfl) (fun _ _ _ h => h) (Or.inl ⟨by rfl, ?_⟩) (by assumption) ?_
  rotate_left
  · (intro w hSw; (try dsimp only at hSw); go_simp; try with_reducible rfl)
  simp only [Act.put, List.getElem_toArray, List.getElem_cons_zero, List.setIfInBounds_toArray, List.set_cons_zero, List.set_cons_succ]
  refine wpAnyH_take (i := 1) (v := ?_) rfl (by kernel_rfl) (by kernel_rfl) (by kernel_rfl) (fun _ _ _ h => h) (Or.inl ⟨by rfl, ?_⟩) (by assumption) ?_
  rotate_left
  · (intro w hSw; (try dsimp only at hSw); go_simp; try with_reducible rfl)
  simp only [Act.put, List.getElem_toArray, List.getElem_cons_succ, List.getElem_cons_zero, List.setIfInBounds_toArray, List.set_cons_zero, List.set_cons_succ]
  refine wpAnyH_ready (rs := [2, 7]) (by kernel_rfl) (by simp) ?_
  refine AllReadyH.cons (o := _) rfl (fun K hK => ?_) ?_
  · clear hHeld
    go_simp
    refine (least_calls _ _ _ H.out HOK.out HN.out HT.out).mono ?_
    clear cHA cHR
    rintro e W4 ⟨rfl, hB⟩
    replace H := Lib.hid (H.out.grow hB)
    replace HT := Lib.hid (fun j hj => keep_below hB _ _ (HT.out j hj))
    replace HA := Lib.hid (HA.out.below hB)
    replace HR := Lib.hid (HR.out.below hB)
    replace HB := Lib.hid (HB.out.trans (hB.mono HB.out.size))
    replace HFR := Lib.hid (fun b h => HFR.out b (Nat.le_trans hB.size h))
    rw [HL.out]
    clear hB
    have cHA := HA.out.2.1
    have cHR := HR.out.2.1
    refine hK.out _ _ ?_ (fun hHeld => ?_)
    · exact ⟨cHA, cHR⟩
    clear hK K
    refine wpAnyH_ready (rs := [3, 7]) (by kernel_rfl) (by simp) ?_
    refine AllReadyH.cons (o := _) rfl (fun K hK => ?_) ?_
    · clear hHeld
      go_simp
      refine (sinto_calls _ _ _ _ H.out HOK.out HN.out HT.out).mono ?_
      clear cHA cHR
      rintro e W5 ⟨x, rfl, hu, hB⟩
      have stx := hu.store
      have shx := Lib.hid hu.shape
      have HX := Lib.hid (hu.nbw (ok' := ok2) (fun b _ h => h.elim id (HFR.out b)))
      clear hu
      replace H := Lib.hid (H.out.grow hB)
      replace HT := Lib.hid (fun j hj => keep_below hB _ _ (HT.out j hj))
      replace HA := Lib.hid (HA.out.below hB)
      replace HR := Lib.hid (HR.out.below hB)
      replace HB := Lib.hid (HB.out.trans (hB.mono HB.out.size))
      replace HFR := Lib.hid (fun b h => HFR.out b (Nat.le_trans hB.size h))
      rw [HF.out]
      rw [HS.out] at HX
      clear hB
      have cHA := HA.out.2.1
      have cHR := HR.out.2.1
      refine hK.out _ _ ?_ (fun hHeld => ?_)
      · exact ⟨cHA, cHR⟩
      clear hK K
      refine wpAnyH_take (i := 4) (v := ?_) rfl (by kernel_rfl) (by kernel_rfl) (by kernel_rfl) (fun _ _ _ h => h) (Or.inl ⟨by rfl, ?_⟩) (by assumption) ?_
      rotate_left
      · (intro w hSw; (try dsimp only at hSw); go_simp; try with_reducible rfl)
      simp only [Act.put, List.getElem_toArray, List.getElem_cons_succ, List.getElem_cons_zero, List.setIfInBounds_toArray, List.set_cons_zero, List.set_cons_succ]
      refine wpAnyH_take (i := 5) (v := ?_) rfl (by kernel_rfl) (by kernel_rfl) (by kernel_rfl) (fun _ _ _ h => h) (Or.inl ⟨by rfl, ?_⟩) (by assumption) ?_
      rotate_left
      · (intro w hSw; (try dsimp only at hSw); go_simp; try with_reducible rfl)
      simp only [Act.put, List.getElem_toArray, List.getElem_cons_succ, List.getElem_cons_zero, List.setIfInBounds_toArray, List.set_cons_zero, List.set_cons_succ]
      refine wpAnyH_take (i := 6) (v := ?_) rfl (by kernel_rfl) (by kernel_rfl) (by kernel_rfl) (fun _ _ _ h => h) (Or.inl ⟨by rfl, ?_⟩) (by assumption) ?_
      rotate_left
      · (intro w hSw; (try dsimp only at hSw); go_simp; try with_reducible rfl)
      simp only [Act.put, List.getElem_toArray, List.getElem_cons_succ, List.getElem_cons_zero, List.setIfInBounds_toArray, List.set_cons_zero, List.set_cons_succ]
      refine wpAnyH_ready (rs := [7]) (by kernel_rfl) (by simp) ?_
      refine AllReadyH.cons (o := _) rfl (fun K hK => ?_) ?_
      · clear hHeld
        go_simp
        obtain ⟨W6, hWn⟩ : ∃ X, (W5.alloc (.cells #[.nilIface] 27)) = X := ⟨_, rfl⟩
        have hB : Below W5.heap.size W5 W6 := by rw [← hWn]; exact below_new _ _
        obtain ⟨bHZ, hbHZ⟩ : ∃ x, W5.heap.size = x := ⟨_, rfl⟩
        have hla : W5.heap.size ≤ bHZ := by omega
        have hlb : bHZ < W6.heap.size := by rw [← hWn]; simp; try omega
        have HZ := Lib.hid (show At1 W6 bHZ (.nilIface) by rw [← hWn, ← hbHZ]; exact At1.new _ (.nilIface) 27)
        clear cHA cHR
        have NEHAHZ := Lib.hid (show w.heap.size ≠ bHZ by have := HA.out.1; omega)
        have NEHRHZ := Lib.hid (show W1.heap.size ≠ bHZ by have := HR.out.1; omega)
        have GEHZ := Lib.hid (show w.heap.size ≤ bHZ from Nat.le_trans HB.out.size hla)
        obtain ⟨ok3, o1, o2, o3, o4⟩ := ok_step ok2 W5.heap.size bHZ W6.heap.size HFR.out hla hlb
        replace HOKP := Lib.hid (fun b h => HOKP.out b (o1 b h))
        replace HFR := Lib.hid o3
        replace NOHA := Lib.hid (fun h => NOHA.out (o1 _ h))
        replace NOHR := Lib.hid (fun h => NOHR.out (o1 _ h))
        replace H := Lib.hid ((H.out.nbw (fun b hb h => o2 b hb h)).grow hB)
        replace HT := Lib.hid (fun j hj => keep_below hB _ _ (HT.out j hj))
        replace HA := Lib.hid (HA.out.below hB)
        replace HR := Lib.hid (HR.out.below hB)
        replace HX := Lib.hid ((HX.out.nbw (fun b hb h => o2 b hb h)).grow hB)
        replace HB := Lib.hid (HB.out.trans (hB.mono HB.out.size))
        have NOHZ := Lib.hid o4
        clear o1 o2 o3 o4
        clear hla hlb hB
        have IOHZ : Hid (IsIface (.nilIface)) := Lib.hid (.inl rfl)
        have cHA := HA.out.2.1
        have cHR := HR.out.2.1
        have cHZ := HZ.out.2.1
        rw [hWn, hbHZ]
        clear hWn hbHZ
        refine hK.out _ _ ?_ (fun hHeld => ?_)
        · exact ⟨cHA, cHR⟩
        clear hK K
        refine wpAnyH_ready (rs := [8]) (by kernel_rfl) (by simp) ?_
        refine AllReadyH.cons (o := _) rfl (fun K hK => ?_) ?_
        · clear hHeld
          have fHZ := HZ.out.2.2 0
          go_simp
          clear fHZ
          obtain ⟨W7, hWn⟩ : ∃ X, W6.setCell ⟨bHZ, 0, none⟩ (x) = X := ⟨_, rfl⟩
          have cHZ0 := HZ.out.2.1
          clear cHA cHR cHZ
          have hg : W6.grownBy W7 (some bHZ) := by rw [← hWn]; exact grown_setCell _ _ _
          have hz : W7.heap.size = W6.heap.size := by rw [← hWn]; simp
          replace H := Lib.hid (show IsV W7 _ _ _ by rw [← hWn]; exact H.out.setw cHZ0 IOHZ.out NOHZ.out _)
          replace HT := Lib.hid (show TabAt W7 by rw [← hWn]; exact TabAt.setc HT.out cHZ0 IOHZ.out _)
          replace HA := Lib.hid (HA.out.grown hg (fun e => NEHAHZ.out (Option.some.inj e)))
          replace HR := Lib.hid (HR.out.grown hg (fun e => NEHRHZ.out (Option.some.inj e)))
          replace HX := Lib.hid (show IsV W7 _ _ _ by rw [← hWn]; exact HX.out.setw cHZ0 IOHZ.out NOHZ.out _)
          replace HZ := Lib.hid (show At1 W7 bHZ (x) by rw [← hWn]; exact HZ.out.set _)
          replace IOHZ : Hid (IsIface (x)) := Lib.hid (shx.out)
          replace HB := Lib.hid (show Below w.heap.size w W7 by rw [← hWn]; exact HB.out.setCell GEHZ.out _)
          replace HFR := Lib.hid (fun b h => HFR.out b (by rw [← hz]; exact h))
          have cHA := HA.out.2.1
          have cHR := HR.out.2.1
          have cHZ := HZ.out.2.1
          rw [hWn]
          clear hWn hg hz cHZ0
          refine hK.out _ _ ?_ (fun hHeld => ?_)
          · exact ⟨cHA, cHR⟩
          clear hK K
          refine wpAnyH_take (i := 9) (v := ?_) rfl (by kernel_rfl) (by kernel_rfl) (by kernel_rfl) (fun _ _ _ h => h) (Or.inl ⟨by rfl, ?_⟩) (by assumption) ?_
          rotate_left
          · (intro w hSw; (try dsimp only at hSw); go_simp; try with_reducible rfl)
          simp only [Act.put, List.getElem_toArray, List.getElem_cons_succ, List.getElem_cons_zero, List.setIfInBounds_toArray, List.set_cons_zero, List.set_cons_succ]
          refine wpAnyH_done (by kernel_rfl) ?_ _
          clear hHeld
          have fHR := HR.out.2.2 0
          go_wp2
          refine bodyPost_ret (v := .agg #[x]) (by simp [results, Tryd.results12, go_sem, cHR]) rfl ⟨x, rfl, (HX.out.setw cHR IOHR.out NOHR.out _).nbw (fun b _ h => HOKP.out b h), HB.out.setCell GEHR.out _⟩
        exact AllReadyH.nil
      exact AllReadyH.nil
    refine AllReadyH.cons (o := _) rfl (fun K hK => ?_) ?_
    · clear hHeld
      go_simp
      obtain ⟨W5, hWn⟩ : ∃ X, (W4.alloc (.cells #[.nilIface] 27)) = X := ⟨_, rfl⟩
      have hB : Below W4.heap.size W4 W5 := by rw [← hWn]; exact below_new _ _
      obtain ⟨bHZ, hbHZ⟩ : ∃ x, W4.heap.size = x := ⟨_, rfl⟩
      have hla : W4.heap.size ≤ bHZ := by omega
      have hlb : bHZ < W5.heap.size := by rw [← hWn]; simp; try omega
      have HZ := Lib.hid (show At1 W5 bHZ (.nilIface) by rw [← hWn, ← hbHZ]; exact At1.new _ (.nilIface) 27)
      clear cHA cHR
      have NEHAHZ := Lib.hid (show w.heap.size ≠ bHZ by have := HA.out.1; omega)
      have NEHRHZ := Lib.hid (show W1.heap.size ≠ bHZ by have := HR.out.1; omega)
      have GEHZ := Lib.hid (show w.heap.size ≤ bHZ from Nat.le_trans HB.out.size hla)
      obtain ⟨ok3, o1, o2, o3, o4⟩ := ok_step ok2 W4.heap.size bHZ W5.heap.size HFR.out hla hlb
      replace HOKP := Lib.hid (fun b h => HOKP.out b (o1 b h))
      replace HFR := Lib.hid o3
      replace NOHA := Lib.hid (fun h => NOHA.out (o1 _ h))
      replace NOHR := Lib.hid (fun h => NOHR.out (o1 _ h))
      replace H := Lib.hid ((H.out.nbw (fun b hb h => o2 b hb h)).grow hB)
      replace HT := Lib.hid (fun j hj => keep_below hB _ _ (HT.out j hj))
      replace HA := Lib.hid (HA.out.below hB)
      replace HR := Lib.hid (HR.out.below hB)
      replace HB := Lib.hid (HB.out.trans (hB.mono HB.out.size))
      have NOHZ := Lib.hid o4
      clear o1 o2 o3 o4
      clear hla hlb hB
      have IOHZ : Hid (IsIface (.nilIface)) := Lib.hid (.inl rfl)
      have cHA := HA.out.2.1
      have cHR := HR.out.2.1
      have cHZ := HZ.out.2.1
      rw [hWn, hbHZ]
      clear hWn hbHZ
      refine hK.out _ _ ?_ (fun hHeld => ?_)
      · exact ⟨cHA, cHR⟩
      clear hK K
      refine wpAnyH_ready (rs := [3]) (by kernel_rfl) (by simp) ?_
      refine AllReadyH.cons (o := _) rfl (fun K hK => ?_) ?_
      · clear hHeld
        go_simp
        refine (sinto_calls _ _ _ _ H.out HOK.out HN.out HT.out).mono ?_
        clear cHA cHR cHZ
        rintro e W6 ⟨x, rfl, hu, hB⟩
        have stx := hu.store
        have shx := Lib.hid hu.shape
        have HX := Lib.hid (hu.nbw (ok' := ok3) (fun b _ h => h.elim id (HFR.out b)))
        clear hu
        replace H := Lib.hid (H.out.grow hB)
        replace HT := Lib.hid (fun j hj => keep_below hB _ _ (HT.out j hj))
        replace HA := Lib.hid (HA.out.below hB)
        replace HR := Lib.hid (HR.out.below hB)
        replace HZ := Lib.hid (HZ.out.below hB)
        replace HB := Lib.hid (HB.out.trans (hB.mono HB.out.size))
        replace HFR := Lib.hid (fun b h => HFR.out b (Nat.le_trans hB.size h))
        rw [HF.out]
        rw [HS.out] at HX
        clear hB
        have cHA := HA.out.2.1
        have cHR := HR.out.2.1
        have cHZ := HZ.out.2.1
        refine hK.out _ _ ?_ (fun hHeld => ?_)
        · exact ⟨cHA, cHR⟩
        clear hK K
        refine wpAnyH_take (i := 4) (v := ?_) rfl (by kernel_rfl) (by kernel_rfl) (by kernel_rfl) (fun _ _ _ h => h) (Or.inl ⟨by rfl, ?_⟩) (by assumption) ?_
        rotate_left
        · (intro w hSw; (try dsimp only at hSw); go_simp; try with_reducible rfl)
        simp only [Act.put, List.getElem_toArray, List.getElem_cons_succ, List.getElem_cons_zero, List.setIfInBounds_toArray, List.set_cons_zero, List.set_cons_succ]
        refine wpAnyH_take (i := 5) (v := ?_) rfl (by kernel_rfl) (by kernel_rfl) (by kernel_rfl) (fun _ _ _ h => h) (Or.inl ⟨by rfl, ?_⟩) (by assumption) ?_
        rotate_left
        · (intro w hSw; (try dsimp only at hSw); go_simp; try with_reducible rfl)
        simp only [Act.put, List.getElem_toArray, List.getElem_cons_succ, List.getElem_cons_zero, List.setIfInBounds_toArray, List.set_cons_zero, List.set_cons_succ]
        refine wpAnyH_take (i := 6) (v := ?_) rfl (by kernel_rfl) (by kernel_rfl) (by kernel_rfl) (fun _ _ _ h => h) (Or.inl ⟨by rfl, ?_⟩) (by assumption) ?_
        rotate_left
        · (intro w hSw; (try dsimp only at hSw); go_simp; try with_reducible rfl)
        simp only [Act.put, List.getElem_toArray, List.getElem_cons_succ, List.getElem_cons_zero, List.setIfInBounds_toArray, List.set_cons_zero, List.set_cons_succ]
        refine wpAnyH_ready (rs := [8]) (by kernel_rfl) (by simp) ?_
        refine AllReadyH.cons (o := _) rfl (fun K hK => ?_) ?_
        · clear hHeld
          have fHZ := HZ.out.2.2 0
          go_simp
          clear fHZ
          obtain ⟨W7, hWn⟩ : ∃ X, W6.setCell ⟨bHZ, 0, none⟩ (x) = X := ⟨_, rfl⟩
          have cHZ0 := HZ.out.2.1
          clear cHA cHR cHZ
          have hg : W6.grownBy W7 (some bHZ) := by rw [← hWn]; exact grown_setCell _ _ _
          have hz : W7.heap.size = W6.heap.size := by rw [← hWn]; simp
          replace H := Lib.hid (show IsV W7 _ _ _ by rw [← hWn]; exact H.out.setw cHZ0 IOHZ.out NOHZ.out _)
          replace HT := Lib.hid (show TabAt W7 by rw [← hWn]; exact TabAt.setc HT.out cHZ0 IOHZ.out _)
          replace HA := Lib.hid (HA.out.grown hg (fun e => NEHAHZ.out (Option.some.inj e)))
          replace HR := Lib.hid (HR.out.grown hg (fun e => NEHRHZ.out (Option.some.inj e)))
          replace HX := Lib.hid (show IsV W7 _ _ _ by rw [← hWn]; exact HX.out.setw cHZ0 IOHZ.out NOHZ.out _)
          replace HZ := Lib.hid (show At1 W7 bHZ (x) by rw [← hWn]; exact HZ.out.set _)
          replace IOHZ : Hid (IsIface (x)) := Lib.hid (shx.out)
          replace HB := Lib.hid (show Below w.heap.size w W7 by rw [← hWn]; exact HB.out.setCell GEHZ.out _)
          replace HFR := Lib.hid (fun b h => HFR.out b (by rw [← hz]; exact h))
          have cHA := HA.out.2.1
          have cHR := HR.out.2.1
          have cHZ := HZ.out.2.1
          rw [hWn]
          clear hWn hg hz cHZ0
          refine hK.out _ _ ?_ (fun hHeld => ?_)
          · exact ⟨cHA, cHR⟩
          clear hK K
          refine wpAnyH_take (i := 9) (v := ?_) rfl (by kernel_rfl) (by kernel_rfl) (by kernel_rfl) (fun _ _ _ h => h) (Or.inl ⟨by rfl, ?_⟩) (by assumption) ?_
          rotate_left
          · (intro w hSw; (try dsimp only at hSw); go_simp; try with_reducible rfl)
          simp only [Act.put, List.getElem_toArray, List.getElem_cons_succ, List.getElem_cons_zero, List.setIfInBounds_toArray, List.set_cons_zero, List.set_cons_succ]
          refine wpAnyH_done (by kernel_rfl) ?_ _
          clear hHeld
          have fHR := HR.out.2.2 0
          go_wp2
          refine bodyPost_ret (v := .agg #[x]) (by simp [results, Tryd.results12, go_sem, cHR]) rfl ⟨x, rfl, (HX.out.setw cHR IOHR.out NOHR.out _).nbw (fun b _ h => HOKP.out b h), HB.out.setCell GEHR.out _⟩
        exact AllReadyH.nil
      exact AllReadyH.nil
    exact AllReadyH.nil
  refine AllReadyH.cons (o := _) rfl (fun K hK => ?_) ?_
  · clear hHeld
    go_simp
    obtain ⟨W4, hWn⟩ : ∃ X, (W3.alloc (.cells #[.nilIface] 27)) = X := ⟨_, rfl⟩
    have hB : Below W3.heap.size W3 W4 := by rw [← hWn]; exact below_new _ _
    obtain ⟨bHZ, hbHZ⟩ : ∃ x, W3.heap.size = x := ⟨_, rfl⟩
    have hla : W3.heap.size ≤ bHZ := by omega
    have hlb : bHZ < W4.heap.size := by rw [← hWn]; simp; try omega
    have HZ := Lib.hid (show At1 W4 bHZ (.nilIface) by rw [← hWn, ← hbHZ]; exact At1.new _ (.nilIface) 27)
    clear cHA cHR
    have NEHAHZ := Lib.hid (show w.heap.size ≠ bHZ by have := HA.out.1; omega)
    have NEHRHZ := Lib.hid (show W1.heap.size ≠ bHZ by have := HR.out.1; omega)
    have GEHZ := Lib.hid (show w.heap.size ≤ bHZ from Nat.le_trans HB.out.size hla)
    obtain ⟨ok3, o1, o2, o3, o4⟩ := ok_step ok2 W3.heap.size bHZ W4.heap.size HFR.out hla hlb
    replace HOKP := Lib.hid (fun b h => HOKP.out b (o1 b h))
    replace HFR := Lib.hid o3
    replace NOHA := Lib.hid (fun h => NOHA.out (o1 _ h))
    replace NOHR := Lib.hid (fun h => NOHR.out (o1 _ h))
    replace H := Lib.hid ((H.out.nbw (fun b hb h => o2 b hb h)).grow hB)
    replace HT := Lib.hid (fun j hj => keep_below hB _ _ (HT.out j hj))
    replace HA := Lib.hid (HA.out.below hB)
    replace HR := Lib.hid (HR.out.below hB)
    replace HB := Lib.hid (HB.out.trans (hB.mono HB.out.size))
    have NOHZ := Lib.hid o4
    clear o1 o2 o3 o4
    clear hla hlb hB
    have IOHZ : Hid (IsIface (.nilIface)) := Lib.hid (.inl rfl)
    have cHA := HA.out.2.1
    have cHR := HR.out.2.1
    have cHZ := HZ.out.2.1
    rw [hWn, hbHZ]
    clear hWn hbHZ
    refine hK.out _ _ ?_ (fun hHeld => ?_)
    · exact ⟨cHA, cHR⟩
    clear hK K
    refine wpAnyH_ready (rs := [2]) (by kernel_rfl) (by simp) ?_
    refine AllReadyH.cons (o := _) rfl (fun K hK => ?_) ?_
    · clear hHeld
      go_simp
      refine (least_calls _ _ _ H.out HOK.out HN.out HT.out).mono ?_
      clear cHA cHR cHZ
      rintro e W5 ⟨rfl, hB⟩
      replace H := Lib.hid (H.out.grow hB)
      replace HT := Lib.hid (fun j hj => keep_below hB _ _ (HT.out j hj))
      replace HA := Lib.hid (HA.out.below hB)
      replace HR := Lib.hid (HR.out.below hB)
      replace HZ := Lib.hid (HZ.out.below hB)
      replace HB := Lib.hid (HB.out.trans (hB.mono HB.out.size))
      replace HFR := Lib.hid (fun b h => HFR.out b (Nat.le_trans hB.size h))
      rw [HL.out]
      clear hB
      have cHA := HA.out.2.1
      have cHR := HR.out.2.1
      have cHZ := HZ.out.2.1
      refine hK.out _ _ ?_ (fun hHeld => ?_)
      · exact ⟨cHA, cHR⟩
      clear hK K
      refine wpAnyH_ready (rs := [3]) (by kernel_rfl) (by simp) ?_
      refine AllReadyH.cons (o := _) rfl (fun K hK => ?_) ?_
      · clear hHeld
        go_simp
        refine (sinto_calls _ _ _ _ H.out HOK.out HN.out HT.out).mono ?_
        clear cHA cHR cHZ
        rintro e W6 ⟨x, rfl, hu, hB⟩
        have stx := hu.store
        have shx := Lib.hid hu.shape
        have HX := Lib.hid (hu.nbw (ok' := ok3) (fun b _ h => h.elim id (HFR.out b)))
        clear hu
        replace H := Lib.hid (H.out.grow hB)
        replace HT := Lib.hid (fun j hj => keep_below hB _ _ (HT.out j hj))
        replace HA := Lib.hid (HA.out.below hB)
        replace HR := Lib.hid (HR.out.below hB)
        replace HZ := Lib.hid (HZ.out.below hB)
        replace HB := Lib.hid (HB.out.trans (hB.mono HB.out.size))
        replace HFR := Lib.hid (fun b h => HFR.out b (Nat.le_trans hB.size h))
        rw [HF.out]
        rw [HS.out] at HX
        clear hB
        have cHA := HA.out.2.1
        have cHR := HR.out.2.1
        have cHZ := HZ.out.2.1
        refine hK.out _ _ ?_ (fun hHeld => ?_)
        · exact ⟨cHA, cHR⟩
        clear hK K
        refine wpAnyH_take (i := 4) (v := ?_) rfl (by kernel_rfl) (by kernel_rfl) (by kernel_rfl) (fun _ _ _ h => h) (Or.inl ⟨by rfl, ?_⟩) (by assumption) ?_
        rotate_left
        · (intro w hSw; (try dsimp only at hSw); go_simp; try with_reducible rfl)
        simp only [Act.put, List.getElem_toArray, List.getElem_cons_succ, List.getElem_cons_zero, List.setIfInBounds_toArray, List.set_cons_zero, List.set_cons_succ]
        refine wpAnyH_take (i := 5) (v := ?_) rfl (by kernel_rfl) (by kernel_rfl) (by kernel_rfl) (fun _ _ _ h => h) (Or.inl ⟨by rfl, ?_⟩) (by assumption) ?_
        rotate_left
        · (intro w hSw; (try dsimp only at hSw); go_simp; try with_reducible rfl)
        simp only [Act.put, List.getElem_toArray, List.getElem_cons_succ, List.getElem_cons_zero, List.setIfInBounds_toArray, List.set_cons_zero, List.set_cons_succ]
        refine wpAnyH_take (i := 6) (v := ?_) rfl (by kernel_rfl) (by kernel_rfl) (by kernel_rfl) (fun _ _ _ h => h) (Or.inl ⟨by rfl, ?_⟩) (by assumption) ?_
        rotate_left
        · (intro w hSw; (try dsimp only at hSw); go_simp; try with_reducible rfl)
        simp only [Act.put, List.getElem_toArray, List.getElem_cons_succ, List.getElem_cons_zero, List.setIfInBounds_toArray, List.set_cons_zero, List.set_cons_succ]
        refine wpAnyH_ready (rs := [8]) (by kernel_rfl) (by simp) ?_
        refine AllReadyH.cons (o := _) rfl (fun K hK => ?_) ?_
        · clear hHeld
          have fHZ := HZ.out.2.2 0
          go_simp
          clear fHZ
          obtain ⟨W7, hWn⟩ : ∃ X, W6.setCell ⟨bHZ, 0, none⟩ (x) = X := ⟨_, rfl⟩
          have cHZ0 := HZ.out.2.1
          clear cHA cHR cHZ
          have hg : W6.grownBy W7 (some bHZ) := by rw [← hWn]; exact grown_setCell _ _ _
          have hz : W7.heap.size = W6.heap.size := by rw [← hWn]; simp
          replace H := Lib.hid (show IsV W7 _ _ _ by rw [← hWn]; exact H.out.setw cHZ0 IOHZ.out NOHZ.out _)
          replace HT := Lib.hid (show TabAt W7 by rw [← hWn]; exact TabAt.setc HT.out cHZ0 IOHZ.out _)
          replace HA := Lib.hid (HA.out.grown hg (fun e => NEHAHZ.out (Option.some.inj e)))
          replace HR := Lib.hid (HR.out.grown hg (fun e => NEHRHZ.out (Option.some.inj e)))
          replace HX := Lib.hid (show IsV W7 _ _ _ by rw [← hWn]; exact HX.out.setw cHZ0 IOHZ.out NOHZ.out _)
          replace HZ := Lib.hid (show At1 W7 bHZ (x) by rw [← hWn]; exact HZ.out.set _)
          replace IOHZ : Hid (IsIface (x)) := Lib.hid (shx.out)
          replace HB := Lib.hid (show Below w.heap.size w W7 by rw [← hWn]; exact HB.out.setCell GEHZ.out _)
          replace HFR := Lib.hid (fun b h => HFR.out b (by rw [← hz]; exact h))
          have cHA := HA.out.2.1
          have cHR := HR.out.2.1
          have cHZ := HZ.out.2.1
          rw [hWn]
          clear hWn hg hz cHZ0
          refine hK.out _ _ ?_ (fun hHeld => ?_)
          · exact ⟨cHA, cHR⟩
          clear hK K
          refine wpAnyH_take (i := 9) (v := ?_) rfl (by kernel_rfl) (by kernel_rfl) (by kernel_rfl) (fun _ _ _ h => h) (Or.inl ⟨by rfl, ?_⟩) (by assumption) ?_
          rotate_left
          · (intro w hSw; (try dsimp only at hSw); go_simp; try with_reducible rfl)
          simp only [Act.put, List.getElem_toArray, List.getElem_cons_succ, List.getElem_cons_zero, List.setIfInBounds_toArray, List.set_cons_zero, List.set_cons_succ]
          refine wpAnyH_done (by kernel_rfl) ?_ _
          clear hHeld
          have fHR := HR.out.2.2 0
          go_wp2
          refine bodyPost_ret (v := .agg #[x]) (by simp [results, Tryd.results12, go_sem, cHR]) rfl ⟨x, rfl, (HX.out.setw cHR IOHR.out NOHR.out _).nbw (fun b _ h => HOKP.out b h), HB.out.setCell GEHR.out _⟩
        exact AllReadyH.nil
      exact AllReadyH.nil
    exact AllReadyH.nil
  exact AllReadyH.nil

set_option maxHeartbeats 4000000 in
theorem numbers_yes {ok : Nat → Prop} (v : Value) (l : List Nat) (w : World) (hv : Slc w ok v l.length (f64s l)) (hm : l.length ≤ 1048576) (hf : ∀ x ∈ l, Fnt x) (hT : TabAt w) :
    Calls Tryd.prog 10 #[v] w fun e w' => ∃ u', e = .returned (.tuple #[.agg #[u'], .bool true]) ∧ IsV w' ((VV.floats (l.map ze)).sq.nb (fun b => w.heap.size ≤ b)) u' (VV.floats (l.map ze)).sq ∧ Below w.heap.size w w' := by
  have HV := Lib.hid hv
  have HM := Lib.hid (show l.length ≤ 2000000 by omega)
  have HF := Lib.hid hf
  have HT := Lib.hid hT
  have HOK : Hid ((VV.floats (l.map ze)).ok) := Lib.hid (show (l.map ze).length ≤ 1048576 by rw [List.length_map]; omega)
  have HN : Hid ((VV.floats (l.map ze)).nm) := Lib.hid (fun x hx => by obtain ⟨y, hy, rfl⟩ := List.mem_map.1 hx; exact Fl.ze_num (hf y hy))
  have HB := Lib.hid (Below.refl w.heap.size w)
  obtain ⟨ao, cap, rfl, _⟩ := hv.opened
  clear hv hm hf hT
  obtain ⟨ok0, hok0⟩ : ∃ o : Nat → Prop, o = fun b => w.heap.size ≤ b := ⟨_, rfl⟩
  have HOKP := Lib.hid (show ∀ b, ok0 b → w.heap.size ≤ b by rw [hok0]; exact fun b h => h)
  have HFR := Lib.hid (show ∀ b, w.heap.size ≤ b → ok0 b by rw [hok0]; exact fun b h => h)
  clear hok0
  obtain ⟨W1, hWn⟩ : ∃ X, (w.alloc (.cells #[.nilIface] 27)) = X := ⟨_, rfl⟩
  have hB : Below w.heap.size w W1 := by rw [← hWn]; exact below_new _ _
  have hla : w.heap.size ≤ w.heap.size := by omega
  have hlb : w.heap.size < W1.heap.size := by rw [← hWn]; simp; try omega
  have HR := Lib.hid (show At1 W1 w.heap.size (.nilIface) by rw [← hWn]; exact At1.new _ (.nilIface) 27)
  have GEHR := Lib.hid (show w.heap.size ≤ w.heap.size from Nat.le_trans HB.out.size hla)
  obtain ⟨ok1, o1, o2, o3, o4⟩ := ok_step ok0 w.heap.size w.heap.size W1.heap.size HFR.out hla hlb
  replace HOKP := Lib.hid (fun b h => HOKP.out b (o1 b h))
  replace HFR := Lib.hid o3
  replace HT := Lib.hid (fun j hj => keep_below hB _ _ (HT.out j hj))
  replace HV := Lib.hid (HV.out.below hB)
  replace HB := Lib.hid (HB.out.trans (hB.mono HB.out.size))
  have NOHR := Lib.hid o4
  clear o1 o2 o3 o4
  clear hla hlb hB
  have IOHR : Hid (IsIface (.nilIface)) := Lib.hid (.inl rfl)
  have cHR := HR.out.2.1
  
  have hE0 := hWn
  clear hWn
  go_enter Tryd.func10, Tryd.ntmps10
  go_wp2_with fail
  clear hE0
  refine (vfloats_yes _ l _ HV.out HM.out HF.out).mono ?_
  clear cHR
  rintro e W2 ⟨u, rfl, hu0, hB⟩
  have hu := hu0.nbk (ok' := fun b => ok1 b ∨ W1.heap.size ≤ b) (fun b _ h => .inr h)
  clear hu0
  have stu := hu.store
  have shu := Lib.hid hu.shape
  have HU := Lib.hid (hu.nbw (ok' := ok1) (fun b _ h => h.elim id (HFR.out b)))
  clear hu
  replace HT := Lib.hid (fun j hj => keep_below hB _ _ (HT.out j hj))
  replace HV := Lib.hid (HV.out.below hB)
  replace HR := Lib.hid (HR.out.below hB)
  replace HB := Lib.hid (HB.out.trans (hB.mono HB.out.size))
  replace HFR := Lib.hid (fun b h => HFR.out b (Nat.le_trans hB.size h))
  clear hB
  have cHR := HR.out.2.1
  obtain ⟨W3, hWn⟩ : ∃ X, (W2.alloc (.cells #[u] 27)) = X := ⟨_, rfl⟩
  have hB : Below W2.heap.size W2 W3 := by rw [← hWn]; exact below_new _ _
  have hla : W2.heap.size ≤ W2.heap.size := by omega
  have hlb : W2.heap.size < W3.heap.size := by rw [← hWn]; simp; try omega
  have HZ := Lib.hid (show At1 W3 W2.heap.size (u) by rw [← hWn]; exact At1.new _ (u) 27)
  clear cHR
  have NEHRHZ := Lib.hid (show w.heap.size ≠ W2.heap.size by have := HR.out.1; omega)
  have GEHZ := Lib.hid (show w.heap.size ≤ W2.heap.size from Nat.le_trans HB.out.size hla)
  obtain ⟨ok2, o1, o2, o3, o4⟩ := ok_step ok1 W2.heap.size W2.heap.size W3.heap.size HFR.out hla hlb
  replace HOKP := Lib.hid (fun b h => HOKP.out b (o1 b h))
  replace HFR := Lib.hid o3
  replace NOHR := Lib.hid (fun h => NOHR.out (o1 _ h))
  replace HT := Lib.hid (fun j hj => keep_below hB _ _ (HT.out j hj))
  replace HV := Lib.hid (HV.out.below hB)
  replace HR := Lib.hid (HR.out.below hB)
  replace HU := Lib.hid ((HU.out.nbw (fun b hb h => o2 b hb h)).grow hB)
  replace HB := Lib.hid (HB.out.trans (hB.mono HB.out.size))
  have NOHZ := Lib.hid o4
  clear o1 o2 o3 o4
  clear hla hlb hB
  have IOHZ : Hid (IsIface (u)) := Lib.hid (shu.out)
  have cHR := HR.out.2.1
  have cHZ := HZ.out.2.1
  
  have hE1 := hWn
  clear hWn
  go_wp2_with fail
  clear hE1
  refine (squeeze_calls _ _ _ HU.out HOK.out HN.out HT.out).mono ?_
  clear cHR cHZ
  rintro e W4 ⟨x, rfl, hu, hB⟩
  have stx := hu.store
  have shx := Lib.hid hu.shape
  have HX := Lib.hid (hu.nbw (ok' := ok2) (fun b _ h => h.elim id (HFR.out b)))
  clear hu
  replace HT := Lib.hid (fun j hj => keep_below hB _ _ (HT.out j hj))
  replace HV := Lib.hid (HV.out.below hB)
  replace HR := Lib.hid (HR.out.below hB)
  replace HU := Lib.hid (HU.out.grow hB)
  replace HZ := Lib.hid (HZ.out.below hB)
  replace HB := Lib.hid (HB.out.trans (hB.mono HB.out.size))
  replace HFR := Lib.hid (fun b h => HFR.out b (Nat.le_trans hB.size h))
  clear hB
  have cHR := HR.out.2.1
  have cHZ := HZ.out.2.1
  have fHR := HR.out.2.2 0
  go_wp2
  refine bodyPost_ret (v := .tuple #[.agg #[x], .bool true]) (by simp [results, Tryd.results10, go_sem, cHR]) rfl ⟨x, rfl, (HX.out.setw cHR IOHR.out NOHR.out _).nbw (fun b _ h => HOKP.out b h), HB.out.setCell GEHR.out _⟩

set_option maxHeartbeats 4000000 in
theorem numbers_no {ok : Nat → Prop} (v : Value) (l : List Nat) (w : World) (hv : Slc w ok v l.length (f64s l)) (hm : l.length ≤ 1048576) (hw : ∀ x ∈ l, x < 18446744073709551616) (hf : ∃ x ∈ l, ¬ Fnt x) :
    Calls Tryd.prog 10 #[v] w fun e w' => e = .returned (.tuple #[.agg #[.nilIface], .bool false]) ∧ Below w.heap.size w w' := by
  have HV := Lib.hid hv
  have HM := Lib.hid (show l.length ≤ 2000000 by omega)
  have HF := Lib.hid hf
  have HW := Lib.hid hw
  have HB := Lib.hid (Below.refl w.heap.size w)
  obtain ⟨ao, cap, rfl, _⟩ := hv.opened
  clear hv hm hf hw
  obtain ⟨W1, hWn⟩ : ∃ X, (w.alloc (.cells #[.nilIface] 27)) = X := ⟨_, rfl⟩
  have hB : Below w.heap.size w W1 := by rw [← hWn]; exact below_new _ _
  have hla : w.heap.size ≤ w.heap.size := by omega
  have hlb : w.heap.size < W1.heap.size := by rw [← hWn]; simp; try omega
  have HR := Lib.hid (show At1 W1 w.heap.size (.nilIface) by rw [← hWn]; exact At1.new _ (.nilIface) 27)
  have GEHR := Lib.hid (show w.heap.size ≤ w.heap.size from Nat.le_trans HB.out.size hla)
  replace HV := Lib.hid (HV.out.below hB)
  replace HB := Lib.hid (HB.out.trans (hB.mono HB.out.size))
  clear hla hlb hB
  have IOHR : Hid (IsIface (.nilIface)) := Lib.hid (.inl rfl)
  have cHR := HR.out.2.1
  
  have hE0 := hWn
  clear hWn
  go_enter Tryd.func10, Tryd.ntmps10
  go_wp2_with fail
  clear hE0
  refine (vfloats_no _ l _ HV.out HM.out HW.out HF.out).mono ?_
  clear cHR
  rintro e W2 ⟨u, rfl, hu, hB⟩
  replace HV := Lib.hid (HV.out.below hB)
  replace HR := Lib.hid (HR.out.below hB)
  replace HB := Lib.hid (HB.out.trans (hB.mono HB.out.size))
  have stu := hu.store
  have shu := Lib.hid hu.shape
  clear hu
  clear hB
  have cHR := HR.out.2.1
  obtain ⟨W3, hWn⟩ : ∃ X, (W2.alloc (.cells #[u] 27)) = X := ⟨_, rfl⟩
  have hB : Below W2.heap.size W2 W3 := by rw [← hWn]; exact below_new _ _
  have hla : W2.heap.size ≤ W2.heap.size := by omega
  have hlb : W2.heap.size < W3.heap.size := by rw [← hWn]; simp; try omega
  have HZ := Lib.hid (show At1 W3 W2.heap.size (u) by rw [← hWn]; exact At1.new _ (u) 27)
  clear cHR
  have NEHRHZ := Lib.hid (show w.heap.size ≠ W2.heap.size by have := HR.out.1; omega)
  have GEHZ := Lib.hid (show w.heap.size ≤ W2.heap.size from Nat.le_trans HB.out.size hla)
  replace HV := Lib.hid (HV.out.below hB)
  replace HR := Lib.hid (HR.out.below hB)
  replace HB := Lib.hid (HB.out.trans (hB.mono HB.out.size))
  clear hla hlb hB
  have IOHZ : Hid (IsIface (u)) := Lib.hid (shu.out)
  have cHR := HR.out.2.1
  have cHZ := HZ.out.2.1
  
  have hE1 := hWn
  clear hWn
  have fHR := HR.out.2.2 0
  go_wp2
  clear hE1
  refine bodyPost_ret (v := .tuple #[.agg #[.nilIface], .bool false]) (by simp [results, Tryd.results10, go_sem, cHR]) rfl ⟨rfl, HB.out.setCell GEHR.out _⟩
end Go.Proofs.YtnicoddkbcfijaaDoor

/- Layer 5: squeezed kinds; the law's awake. -/
namespace Go.Proofs.YtnicoddkbcfijaaDoor
open Go.RowKit Fl
set_option linter.unusedVariables false
set_option maxRecDepth 8000

theorem VV.least_eq {V : VV} (hok : V.ok) (hn : V.nm) (h : V.cls = 0) : V.least = leastW V.nums := by
  by_cases h1 : V.kind = 1
  · have a := VV.leastW_le hok hn h
    have b := VV.least_oth (.inl h1)
    have c := _root_.Go.Proofs.YtnicoddkbcfijaaDoor.leastW_le V.nums
    omega
  · exact VV.least_num h1 h
theorem VV.sq_kind {V : VV} (hok : V.ok) (hn : V.nm) (h : V.cls = 0) : V.sq.kind = (leastW V.nums : Int) := by
  rw [(VV.sq_spec hok hn).1, VV.least_eq hok hn h]
theorem VV.fit_eq {V : VV} (hok : V.ok) (hn : V.nm) (h : V.cls = 0) (h1 : (leastW V.nums : Int) ≤ V.kind) (h4 : V.kind ≤ 4) (k : Int) : V.fit k = (decide ((leastW V.nums : Int) ≤ k) && decide (k ≤ 4)) := by
  have hb := _root_.Go.Proofs.YtnicoddkbcfijaaDoor.leastW_le V.nums
  unfold VV.fit
  rw [VV.least_eq hok hn h, Bool.eq_iff_iff]
  simp only [Bool.or_eq_true, Bool.and_eq_true, decide_eq_true_eq]
  constructor
  · rintro (h | ⟨⟨h, h2⟩, h3⟩)
    · omega
    · omega
  · intro h5
    by_cases hk : V.kind = k
    · exact .inl hk
    · exact .inr ⟨⟨h, by omega⟩, h5.1⟩
theorem wh_ofInt {n : Int} {c : Nat} (h : n.natAbs ≤ 9007199254740992) (hc : floatOfInt .f64 n = c) : Wh c n := by
  subst hc; exact ⟨ofInt_fin n (by omega), h, ofInt_val n h⟩
theorem kindW_c {n : Int} {c : Nat} (h : n.natAbs ≤ 9007199254740992) (hc : floatOfInt .f64 n = c) : kindW c = kindZ n := kindW_wh (wh_ofInt h hc)
instance (x : Nat) : Decidable (Fnt x) := inferInstanceAs (Decidable (x < 18446744073709551616 ∧ x % 9223372036854775808 < 9218868437227405312))
theorem half_fin : Fnt 4602678819172646912 := by decide
theorem kindW_half : kindW 4602678819172646912 = 4 := by
  refine kindW_no (fun n hn => ?_)
  have h1 := wh_int _ _ hn
  have h2 : floatToIntVal .f64 4602678819172646912 .i64 = some 0 := by decide +kernel
  rw [h2] at h1
  have h3 : n = 0 := (Option.some.inj h1).symm
  subst h3
  have h4 := hn.2.2
  rw [Int.zero_mul] at h4
  exact absurd (V_eq_zero.1 h4) (by decide +kernel)
theorem awl0 : ([4607182418800017408, 0] : List Nat).map ze = [4607182418800017408, 0] := by decide +kernel
theorem awk0 : (VV.floats (([4607182418800017408, 0] : List Nat).map ze)).sq.kind = 1 := by
  have hf : ∀ x ∈ ([4607182418800017408, 0] : List Nat), Fnt x := by decide +kernel
  have hok : (VV.floats ([4607182418800017408, 0] : List Nat)).ok := by show ([4607182418800017408, 0] : List Nat).length ≤ 1048576; decide
  have hn : (VV.floats ([4607182418800017408, 0] : List Nat)).nm := by
    show ∀ x ∈ ([4607182418800017408, 0] : List Nat), Num x
    rw [← awl0]
    intro x hx
    obtain ⟨y, hy, rfl⟩ := List.mem_map.1 hx
    exact Fl.ze_num (hf y hy)
  rw [awl0, VV.sq_kind hok hn rfl]
  show ((leastW ([4607182418800017408, 0] : List Nat) : Nat) : Int) = 1
  simp only [leastW_cons, leastW_nil]
  rw [kindW_c (n := 1) (by decide) (by decide +kernel), kindW_c (n := 0) (by decide) (by decide +kernel)]; decide
theorem awl1 : ([4611686018427387904, 13837309855095848960] : List Nat).map ze = [4611686018427387904, 13837309855095848960] := by decide +kernel
theorem awk1 : (VV.floats (([4611686018427387904, 13837309855095848960] : List Nat).map ze)).sq.kind = 2 := by
  have hf : ∀ x ∈ ([4611686018427387904, 13837309855095848960] : List Nat), Fnt x := by decide +kernel
  have hok : (VV.floats ([4611686018427387904, 13837309855095848960] : List Nat)).ok := by show ([4611686018427387904, 13837309855095848960] : List Nat).length ≤ 1048576; decide
  have hn : (VV.floats ([4611686018427387904, 13837309855095848960] : List Nat)).nm := by
    show ∀ x ∈ ([4611686018427387904, 13837309855095848960] : List Nat), Num x
    rw [← awl1]
    intro x hx
    obtain ⟨y, hy, rfl⟩ := List.mem_map.1 hx
    exact Fl.ze_num (hf y hy)
  rw [awl1, VV.sq_kind hok hn rfl]
  show ((leastW ([4611686018427387904, 13837309855095848960] : List Nat) : Nat) : Int) = 2
  simp only [leastW_cons, leastW_nil]
  rw [kindW_c (n := 2) (by decide) (by decide +kernel), kindW_c (n := -3) (by decide) (by decide +kernel)]; decide
theorem awl2 : ([4641240890982006784] : List Nat).map ze = [4641240890982006784] := by decide +kernel
theorem awk2 : (VV.floats (([4641240890982006784] : List Nat).map ze)).sq.kind = 3 := by
  have hf : ∀ x ∈ ([4641240890982006784] : List Nat), Fnt x := by decide +kernel
  have hok : (VV.floats ([4641240890982006784] : List Nat)).ok := by show ([4641240890982006784] : List Nat).length ≤ 1048576; decide
  have hn : (VV.floats ([4641240890982006784] : List Nat)).nm := by
    show ∀ x ∈ ([4641240890982006784] : List Nat), Num x
    rw [← awl2]
    intro x hx
    obtain ⟨y, hy, rfl⟩ := List.mem_map.1 hx
    exact Fl.ze_num (hf y hy)
  rw [awl2, VV.sq_kind hok hn rfl]
  show ((leastW ([4641240890982006784] : List Nat) : Nat) : Int) = 3
  simp only [leastW_cons, leastW_nil]
  rw [kindW_c (n := 200) (by decide) (by decide +kernel)]; decide
theorem awl3 : ([4602678819172646912] : List Nat).map ze = [4602678819172646912] := by decide +kernel
theorem awk3 : (VV.floats (([4602678819172646912] : List Nat).map ze)).sq.kind = 4 := by
  have hf : ∀ x ∈ ([4602678819172646912] : List Nat), Fnt x := by decide +kernel
  have hok : (VV.floats ([4602678819172646912] : List Nat)).ok := by show ([4602678819172646912] : List Nat).length ≤ 1048576; decide
  have hn : (VV.floats ([4602678819172646912] : List Nat)).nm := by
    show ∀ x ∈ ([4602678819172646912] : List Nat), Num x
    rw [← awl3]
    intro x hx
    obtain ⟨y, hy, rfl⟩ := List.mem_map.1 hx
    exact Fl.ze_num (hf y hy)
  rw [awl3, VV.sq_kind hok hn rfl]
  show ((leastW ([4602678819172646912] : List Nat) : Nat) : Int) = 4
  simp only [leastW_cons, leastW_nil]
  rw [kindW_half]; decide

set_option maxHeartbeats 4000000 in
theorem awake5_calls (w : World) (hT : TabAt w) : Calls Tryd.prog 7 #[] w fun e w' => e = .returned (.bool true) ∧ Below w.heap.size w w' := by
  have HT := Lib.hid hT
  have HB := Lib.hid (Below.refl w.heap.size w)
  clear hT
  obtain ⟨ok0, hok0⟩ : ∃ o : Nat → Prop, o = fun b => w.heap.size ≤ b := ⟨_, rfl⟩
  have HOKP := Lib.hid (show ∀ b, ok0 b → w.heap.size ≤ b by rw [hok0]; exact fun b h => h)
  have HFR := Lib.hid (show ∀ b, w.heap.size ≤ b → ok0 b by rw [hok0]; exact fun b h => h)
  clear hok0
  obtain ⟨W1, hL0⟩ : ∃ X, (w.alloc (.cells #[.float .f64 4607182418800017408, .float .f64 0] 53)) = X := ⟨_, rfl⟩
  have hB : Below w.heap.size w W1 := by rw [← hL0]; exact below_new _ _
  have HL0 := Lib.hid (show Slc W1 (fun _ => True) (.slice (some ⟨w.heap.size, 0, none⟩) 2 2) 2 (f64s [4607182418800017408, 0]) by rw [← hL0]; exact (Slc.owned (World.ownsRow_lit (base := w.heap.size) (e := 53) (size := 1) w #[.float .f64 4607182418800017408, .float .f64 0] 2 (Nat.le_refl _) (by unfold maxLen; omega) rfl)).any)
  replace HT := Lib.hid (fun j hj => keep_below hB _ _ (HT.out j hj))
  replace HB := Lib.hid (HB.out.trans (hB.mono HB.out.size))
  replace HFR := Lib.hid (fun b h => HFR.out b (Nat.le_trans hB.size h))
  clear hB
  go_enter Tryd.func7, Tryd.ntmps7
  go_wp2_with fail
  clear hL0
  refine (numbers_yes _ [4607182418800017408, 0] _ HL0.out (by decide) (by decide +kernel) HT.out).mono ?_
  rintro e W2 ⟨x0, rfl, hu, hB⟩
  have stx0 := hu.store
  have shx0 := Lib.hid hu.shape
  have HX0 := Lib.hid (hu.nbw (ok' := ok0) (fun b _ h => HFR.out b h))
  clear hu
  replace HT := Lib.hid (fun j hj => keep_below hB _ _ (HT.out j hj))
  replace HL0 := Lib.hid (HL0.out.below hB)
  replace HB := Lib.hid (HB.out.trans (hB.mono HB.out.size))
  replace HFR := Lib.hid (fun b h => HFR.out b (Nat.le_trans hB.size h))
  clear hB
  clear HL0
  obtain ⟨W3, hWn⟩ : ∃ X, (W2.alloc (.cells #[x0] 27)) = X := ⟨_, rfl⟩
  have hB : Below W2.heap.size W2 W3 := by rw [← hWn]; exact below_new _ _
  have hla : W2.heap.size ≤ W2.heap.size := by omega
  have hlb : W2.heap.size < W3.heap.size := by rw [← hWn]; simp; try omega
  have HA0 := Lib.hid (show At1 W3 W2.heap.size (x0) by rw [← hWn]; exact At1.new _ (x0) 27)
  have GEHA0 := Lib.hid (show w.heap.size ≤ W2.heap.size from Nat.le_trans HB.out.size hla)
  obtain ⟨ok1, o1, o2, o3, o4⟩ := ok_step ok0 W2.heap.size W2.heap.size W3.heap.size HFR.out hla hlb
  replace HOKP := Lib.hid (fun b h => HOKP.out b (o1 b h))
  replace HFR := Lib.hid o3
  replace HT := Lib.hid (fun j hj => keep_below hB _ _ (HT.out j hj))
  replace HX0 := Lib.hid ((HX0.out.nbw (fun b hb h => o2 b hb h)).grow hB)
  replace HB := Lib.hid (HB.out.trans (hB.mono HB.out.size))
  have NOHA0 := Lib.hid o4
  clear o1 o2 o3 o4
  clear hla hlb hB
  have IOHA0 : Hid (IsIface (x0)) := Lib.hid (shx0.out)
  have cHA0 := HA0.out.2.1
  
  have hE0 := hWn
  clear hWn
  obtain ⟨W4, hL1⟩ : ∃ X, (W3.alloc (.cells #[.float .f64 4611686018427387904, .float .f64 13837309855095848960] 53)) = X := ⟨_, rfl⟩
  have hB : Below W3.heap.size W3 W4 := by rw [← hL1]; exact below_new _ _
  have HL1 := Lib.hid (show Slc W4 (fun _ => True) (.slice (some ⟨W3.heap.size, 0, none⟩) 2 2) 2 (f64s [4611686018427387904, 13837309855095848960]) by rw [← hL1]; exact (Slc.owned (World.ownsRow_lit (base := W3.heap.size) (e := 53) (size := 1) W3 #[.float .f64 4611686018427387904, .float .f64 13837309855095848960] 2 (Nat.le_refl _) (by unfold maxLen; omega) rfl)).any)
  clear cHA0
  replace HT := Lib.hid (fun j hj => keep_below hB _ _ (HT.out j hj))
  replace HX0 := Lib.hid (HX0.out.grow hB)
  replace HA0 := Lib.hid (HA0.out.below hB)
  replace HB := Lib.hid (HB.out.trans (hB.mono HB.out.size))
  replace HFR := Lib.hid (fun b h => HFR.out b (Nat.le_trans hB.size h))
  clear hB
  have cHA0 := HA0.out.2.1
  go_wp2_with fail
  clear hL1 hE0
  refine (numbers_yes _ [4611686018427387904, 13837309855095848960] _ HL1.out (by decide) (by decide +kernel) HT.out).mono ?_
  clear cHA0
  rintro e W5 ⟨x1, rfl, hu, hB⟩
  have stx1 := hu.store
  have shx1 := Lib.hid hu.shape
  have HX1 := Lib.hid (hu.nbw (ok' := ok1) (fun b _ h => HFR.out b h))
  clear hu
  replace HT := Lib.hid (fun j hj => keep_below hB _ _ (HT.out j hj))
  replace HX0 := Lib.hid (HX0.out.grow hB)
  replace HA0 := Lib.hid (HA0.out.below hB)
  replace HL1 := Lib.hid (HL1.out.below hB)
  replace HB := Lib.hid (HB.out.trans (hB.mono HB.out.size))
  replace HFR := Lib.hid (fun b h => HFR.out b (Nat.le_trans hB.size h))
  clear hB
  have cHA0 := HA0.out.2.1
  clear HL1
  obtain ⟨W6, hWn⟩ : ∃ X, (W5.alloc (.cells #[x1] 27)) = X := ⟨_, rfl⟩
  have hB : Below W5.heap.size W5 W6 := by rw [← hWn]; exact below_new _ _
  have hla : W5.heap.size ≤ W5.heap.size := by omega
  have hlb : W5.heap.size < W6.heap.size := by rw [← hWn]; simp; try omega
  have HA1 := Lib.hid (show At1 W6 W5.heap.size (x1) by rw [← hWn]; exact At1.new _ (x1) 27)
  clear cHA0
  have NEHA0HA1 := Lib.hid (show W2.heap.size ≠ W5.heap.size by have := HA0.out.1; omega)
  have GEHA1 := Lib.hid (show w.heap.size ≤ W5.heap.size from Nat.le_trans HB.out.size hla)
  obtain ⟨ok2, o1, o2, o3, o4⟩ := ok_step ok1 W5.heap.size W5.heap.size W6.heap.size HFR.out hla hlb
  replace HOKP := Lib.hid (fun b h => HOKP.out b (o1 b h))
  replace HFR := Lib.hid o3
  replace NOHA0 := Lib.hid (fun h => NOHA0.out (o1 _ h))
  replace HT := Lib.hid (fun j hj => keep_below hB _ _ (HT.out j hj))
  replace HX0 := Lib.hid ((HX0.out.nbw (fun b hb h => o2 b hb h)).grow hB)
  replace HA0 := Lib.hid (HA0.out.below hB)
  replace HX1 := Lib.hid ((HX1.out.nbw (fun b hb h => o2 b hb h)).grow hB)
  replace HB := Lib.hid (HB.out.trans (hB.mono HB.out.size))
  have NOHA1 := Lib.hid o4
  clear o1 o2 o3 o4
  clear hla hlb hB
  have IOHA1 : Hid (IsIface (x1)) := Lib.hid (shx1.out)
  have cHA0 := HA0.out.2.1
  have cHA1 := HA1.out.2.1
  
  have hE1 := hWn
  clear hWn
  obtain ⟨W7, hL2⟩ : ∃ X, (W6.alloc (.cells #[.float .f64 4641240890982006784] 53)) = X := ⟨_, rfl⟩
  have hB : Below W6.heap.size W6 W7 := by rw [← hL2]; exact below_new _ _
  have HL2 := Lib.hid (show Slc W7 (fun _ => True) (.slice (some ⟨W6.heap.size, 0, none⟩) 1 1) 1 (f64s [4641240890982006784]) by rw [← hL2]; exact (Slc.owned (World.ownsRow_lit (base := W6.heap.size) (e := 53) (size := 1) W6 #[.float .f64 4641240890982006784] 1 (Nat.le_refl _) (by unfold maxLen; omega) rfl)).any)
  clear cHA0 cHA1
  replace HT := Lib.hid (fun j hj => keep_below hB _ _ (HT.out j hj))
  replace HX0 := Lib.hid (HX0.out.grow hB)
  replace HA0 := Lib.hid (HA0.out.below hB)
  replace HX1 := Lib.hid (HX1.out.grow hB)
  replace HA1 := Lib.hid (HA1.out.below hB)
  replace HB := Lib.hid (HB.out.trans (hB.mono HB.out.size))
  replace HFR := Lib.hid (fun b h => HFR.out b (Nat.le_trans hB.size h))
  clear hB
  have cHA0 := HA0.out.2.1
  have cHA1 := HA1.out.2.1
  go_wp2_with fail
  clear hL2 hE1
  refine (numbers_yes _ [4641240890982006784] _ HL2.out (by decide) (by decide +kernel) HT.out).mono ?_
  clear cHA0 cHA1
  rintro e W8 ⟨x2, rfl, hu, hB⟩
  have stx2 := hu.store
  have shx2 := Lib.hid hu.shape
  have HX2 := Lib.hid (hu.nbw (ok' := ok2) (fun b _ h => HFR.out b h))
  clear hu
  replace HT := Lib.hid (fun j hj => keep_below hB _ _ (HT.out j hj))
  replace HX0 := Lib.hid (HX0.out.grow hB)
  replace HA0 := Lib.hid (HA0.out.below hB)
  replace HX1 := Lib.hid (HX1.out.grow hB)
  replace HA1 := Lib.hid (HA1.out.below hB)
  replace HL2 := Lib.hid (HL2.out.below hB)
  replace HB := Lib.hid (HB.out.trans (hB.mono HB.out.size))
  replace HFR := Lib.hid (fun b h => HFR.out b (Nat.le_trans hB.size h))
  clear hB
  have cHA0 := HA0.out.2.1
  have cHA1 := HA1.out.2.1
  clear HL2
  obtain ⟨W9, hWn⟩ : ∃ X, (W8.alloc (.cells #[x2] 27)) = X := ⟨_, rfl⟩
  have hB : Below W8.heap.size W8 W9 := by rw [← hWn]; exact below_new _ _
  have hla : W8.heap.size ≤ W8.heap.size := by omega
  have hlb : W8.heap.size < W9.heap.size := by rw [← hWn]; simp; try omega
  have HA2 := Lib.hid (show At1 W9 W8.heap.size (x2) by rw [← hWn]; exact At1.new _ (x2) 27)
  clear cHA0 cHA1
  have NEHA0HA2 := Lib.hid (show W2.heap.size ≠ W8.heap.size by have := HA0.out.1; omega)
  have NEHA1HA2 := Lib.hid (show W5.heap.size ≠ W8.heap.size by have := HA1.out.1; omega)
  have GEHA2 := Lib.hid (show w.heap.size ≤ W8.heap.size from Nat.le_trans HB.out.size hla)
  obtain ⟨ok3, o1, o2, o3, o4⟩ := ok_step ok2 W8.heap.size W8.heap.size W9.heap.size HFR.out hla hlb
  replace HOKP := Lib.hid (fun b h => HOKP.out b (o1 b h))
  replace HFR := Lib.hid o3
  replace NOHA0 := Lib.hid (fun h => NOHA0.out (o1 _ h))
  replace NOHA1 := Lib.hid (fun h => NOHA1.out (o1 _ h))
  replace HT := Lib.hid (fun j hj => keep_below hB _ _ (HT.out j hj))
  replace HX0 := Lib.hid ((HX0.out.nbw (fun b hb h => o2 b hb h)).grow hB)
  replace HA0 := Lib.hid (HA0.out.below hB)
  replace HX1 := Lib.hid ((HX1.out.nbw (fun b hb h => o2 b hb h)).grow hB)
  replace HA1 := Lib.hid (HA1.out.below hB)
  replace HX2 := Lib.hid ((HX2.out.nbw (fun b hb h => o2 b hb h)).grow hB)
  replace HB := Lib.hid (HB.out.trans (hB.mono HB.out.size))
  have NOHA2 := Lib.hid o4
  clear o1 o2 o3 o4
  clear hla hlb hB
  have IOHA2 : Hid (IsIface (x2)) := Lib.hid (shx2.out)
  have cHA0 := HA0.out.2.1
  have cHA1 := HA1.out.2.1
  have cHA2 := HA2.out.2.1
  
  have hE2 := hWn
  clear hWn
  obtain ⟨W10, hL3⟩ : ∃ X, (W9.alloc (.cells #[.float .f64 4602678819172646912] 53)) = X := ⟨_, rfl⟩
  have hB : Below W9.heap.size W9 W10 := by rw [← hL3]; exact below_new _ _
  have HL3 := Lib.hid (show Slc W10 (fun _ => True) (.slice (some ⟨W9.heap.size, 0, none⟩) 1 1) 1 (f64s [4602678819172646912]) by rw [← hL3]; exact (Slc.owned (World.ownsRow_lit (base := W9.heap.size) (e := 53) (size := 1) W9 #[.float .f64 4602678819172646912] 1 (Nat.le_refl _) (by unfold maxLen; omega) rfl)).any)
  clear cHA0 cHA1 cHA2
  replace HT := Lib.hid (fun j hj => keep_below hB _ _ (HT.out j hj))
  replace HX0 := Lib.hid (HX0.out.grow hB)
  replace HA0 := Lib.hid (HA0.out.below hB)
  replace HX1 := Lib.hid (HX1.out.grow hB)
  replace HA1 := Lib.hid (HA1.out.below hB)
  replace HX2 := Lib.hid (HX2.out.grow hB)
  replace HA2 := Lib.hid (HA2.out.below hB)
  replace HB := Lib.hid (HB.out.trans (hB.mono HB.out.size))
  replace HFR := Lib.hid (fun b h => HFR.out b (Nat.le_trans hB.size h))
  clear hB
  have cHA0 := HA0.out.2.1
  have cHA1 := HA1.out.2.1
  have cHA2 := HA2.out.2.1
  go_wp2_with fail
  clear hL3 hE2
  refine (numbers_yes _ [4602678819172646912] _ HL3.out (by decide) (by decide +kernel) HT.out).mono ?_
  clear cHA0 cHA1 cHA2
  rintro e W11 ⟨x3, rfl, hu, hB⟩
  have stx3 := hu.store
  have shx3 := Lib.hid hu.shape
  have HX3 := Lib.hid (hu.nbw (ok' := ok3) (fun b _ h => HFR.out b h))
  clear hu
  replace HT := Lib.hid (fun j hj => keep_below hB _ _ (HT.out j hj))
  replace HX0 := Lib.hid (HX0.out.grow hB)
  replace HA0 := Lib.hid (HA0.out.below hB)
  replace HX1 := Lib.hid (HX1.out.grow hB)
  replace HA1 := Lib.hid (HA1.out.below hB)
  replace HX2 := Lib.hid (HX2.out.grow hB)
  replace HA2 := Lib.hid (HA2.out.below hB)
  replace HL3 := Lib.hid (HL3.out.below hB)
  replace HB := Lib.hid (HB.out.trans (hB.mono HB.out.size))
  replace HFR := Lib.hid (fun b h => HFR.out b (Nat.le_trans hB.size h))
  clear hB
  have cHA0 := HA0.out.2.1
  have cHA1 := HA1.out.2.1
  have cHA2 := HA2.out.2.1
  clear HL3
  obtain ⟨W12, hWn⟩ : ∃ X, (W11.alloc (.cells #[x3] 27)) = X := ⟨_, rfl⟩
  have hB : Below W11.heap.size W11 W12 := by rw [← hWn]; exact below_new _ _
  have hla : W11.heap.size ≤ W11.heap.size := by omega
  have hlb : W11.heap.size < W12.heap.size := by rw [← hWn]; simp; try omega
  have HA3 := Lib.hid (show At1 W12 W11.heap.size (x3) by rw [← hWn]; exact At1.new _ (x3) 27)
  clear cHA0 cHA1 cHA2
  have NEHA0HA3 := Lib.hid (show W2.heap.size ≠ W11.heap.size by have := HA0.out.1; omega)
  have NEHA1HA3 := Lib.hid (show W5.heap.size ≠ W11.heap.size by have := HA1.out.1; omega)
  have NEHA2HA3 := Lib.hid (show W8.heap.size ≠ W11.heap.size by have := HA2.out.1; omega)
  have GEHA3 := Lib.hid (show w.heap.size ≤ W11.heap.size from Nat.le_trans HB.out.size hla)
  obtain ⟨ok4, o1, o2, o3, o4⟩ := ok_step ok3 W11.heap.size W11.heap.size W12.heap.size HFR.out hla hlb
  replace HOKP := Lib.hid (fun b h => HOKP.out b (o1 b h))
  replace HFR := Lib.hid o3
  replace NOHA0 := Lib.hid (fun h => NOHA0.out (o1 _ h))
  replace NOHA1 := Lib.hid (fun h => NOHA1.out (o1 _ h))
  replace NOHA2 := Lib.hid (fun h => NOHA2.out (o1 _ h))
  replace HT := Lib.hid (fun j hj => keep_below hB _ _ (HT.out j hj))
  replace HX0 := Lib.hid ((HX0.out.nbw (fun b hb h => o2 b hb h)).grow hB)
  replace HA0 := Lib.hid (HA0.out.below hB)
  replace HX1 := Lib.hid ((HX1.out.nbw (fun b hb h => o2 b hb h)).grow hB)
  replace HA1 := Lib.hid (HA1.out.below hB)
  replace HX2 := Lib.hid ((HX2.out.nbw (fun b hb h => o2 b hb h)).grow hB)
  replace HA2 := Lib.hid (HA2.out.below hB)
  replace HX3 := Lib.hid ((HX3.out.nbw (fun b hb h => o2 b hb h)).grow hB)
  replace HB := Lib.hid (HB.out.trans (hB.mono HB.out.size))
  have NOHA3 := Lib.hid o4
  clear o1 o2 o3 o4
  clear hla hlb hB
  have IOHA3 : Hid (IsIface (x3)) := Lib.hid (shx3.out)
  have cHA0 := HA0.out.2.1
  have cHA1 := HA1.out.2.1
  have cHA2 := HA2.out.2.1
  have cHA3 := HA3.out.2.1
  
  have hE3 := hWn
  clear hWn
  go_wp2_with fail
  clear hE3
  refine (kind_calls _ _ _ HX0.out).mono ?_
  clear cHA0 cHA1 cHA2 cHA3
  rintro e W13 ⟨rfl, hB⟩
  replace HT := Lib.hid (fun j hj => keep_below hB _ _ (HT.out j hj))
  replace HX0 := Lib.hid (HX0.out.grow hB)
  replace HA0 := Lib.hid (HA0.out.below hB)
  replace HX1 := Lib.hid (HX1.out.grow hB)
  replace HA1 := Lib.hid (HA1.out.below hB)
  replace HX2 := Lib.hid (HX2.out.grow hB)
  replace HA2 := Lib.hid (HA2.out.below hB)
  replace HX3 := Lib.hid (HX3.out.grow hB)
  replace HA3 := Lib.hid (HA3.out.below hB)
  replace HB := Lib.hid (HB.out.trans (hB.mono HB.out.size))
  replace HFR := Lib.hid (fun b h => HFR.out b (Nat.le_trans hB.size h))
  rw [awk0]
  clear hB
  have cHA0 := HA0.out.2.1
  have cHA1 := HA1.out.2.1
  have cHA2 := HA2.out.2.1
  have cHA3 := HA3.out.2.1
  go_wp2_with fail
  refine (kind_calls _ _ _ HX1.out).mono ?_
  clear cHA0 cHA1 cHA2 cHA3
  rintro e W14 ⟨rfl, hB⟩
  replace HT := Lib.hid (fun j hj => keep_below hB _ _ (HT.out j hj))
  replace HX0 := Lib.hid (HX0.out.grow hB)
  replace HA0 := Lib.hid (HA0.out.below hB)
  replace HX1 := Lib.hid (HX1.out.grow hB)
  replace HA1 := Lib.hid (HA1.out.below hB)
  replace HX2 := Lib.hid (HX2.out.grow hB)
  replace HA2 := Lib.hid (HA2.out.below hB)
  replace HX3 := Lib.hid (HX3.out.grow hB)
  replace HA3 := Lib.hid (HA3.out.below hB)
  replace HB := Lib.hid (HB.out.trans (hB.mono HB.out.size))
  replace HFR := Lib.hid (fun b h => HFR.out b (Nat.le_trans hB.size h))
  rw [awk1]
  clear hB
  have cHA0 := HA0.out.2.1
  have cHA1 := HA1.out.2.1
  have cHA2 := HA2.out.2.1
  have cHA3 := HA3.out.2.1
  go_wp2_with fail
  refine (kind_calls _ _ _ HX2.out).mono ?_
  clear cHA0 cHA1 cHA2 cHA3
  rintro e W15 ⟨rfl, hB⟩
  replace HT := Lib.hid (fun j hj => keep_below hB _ _ (HT.out j hj))
  replace HX0 := Lib.hid (HX0.out.grow hB)
  replace HA0 := Lib.hid (HA0.out.below hB)
  replace HX1 := Lib.hid (HX1.out.grow hB)
  replace HA1 := Lib.hid (HA1.out.below hB)
  replace HX2 := Lib.hid (HX2.out.grow hB)
  replace HA2 := Lib.hid (HA2.out.below hB)
  replace HX3 := Lib.hid (HX3.out.grow hB)
  replace HA3 := Lib.hid (HA3.out.below hB)
  replace HB := Lib.hid (HB.out.trans (hB.mono HB.out.size))
  replace HFR := Lib.hid (fun b h => HFR.out b (Nat.le_trans hB.size h))
  rw [awk2]
  clear hB
  have cHA0 := HA0.out.2.1
  have cHA1 := HA1.out.2.1
  have cHA2 := HA2.out.2.1
  have cHA3 := HA3.out.2.1
  go_wp2_with fail
  refine (kind_calls _ _ _ HX3.out).mono ?_
  clear cHA0 cHA1 cHA2 cHA3
  rintro e W16 ⟨rfl, hB⟩
  replace HT := Lib.hid (fun j hj => keep_below hB _ _ (HT.out j hj))
  replace HX0 := Lib.hid (HX0.out.grow hB)
  replace HA0 := Lib.hid (HA0.out.below hB)
  replace HX1 := Lib.hid (HX1.out.grow hB)
  replace HA1 := Lib.hid (HA1.out.below hB)
  replace HX2 := Lib.hid (HX2.out.grow hB)
  replace HA2 := Lib.hid (HA2.out.below hB)
  replace HX3 := Lib.hid (HX3.out.grow hB)
  replace HA3 := Lib.hid (HA3.out.below hB)
  replace HB := Lib.hid (HB.out.trans (hB.mono HB.out.size))
  replace HFR := Lib.hid (fun b h => HFR.out b (Nat.le_trans hB.size h))
  rw [awk3]
  clear hB
  have cHA0 := HA0.out.2.1
  have cHA1 := HA1.out.2.1
  have cHA2 := HA2.out.2.1
  have cHA3 := HA3.out.2.1
  go_wp2
  go_ret
  exact ⟨rfl, HB.out⟩
end Go.Proofs.YtnicoddkbcfijaaDoor

/- SqueezeOthers, walked. -/
namespace Go.Proofs.YtnicoddkbcfijaaDoor
open Go.RowKit Fl
set_option linter.unusedVariables false
set_option maxRecDepth 8000

theorem others_fit {V : VV} (h : V.cls ≠ 0) (k : Int) : V.fit k = decide (V.kind = k) := by unfold VV.fit; rw [decide_eq_false h]; simp
theorem others_sq {V : VV} (h : V.cls ≠ 0) : V.sq = V := by unfold VV.sq; rw [VV.least_oth (.inr h)]; exact VV.into_own V
theorem others_into {V : VV} (h : V.cls ≠ 0) {k : Int} : V.kind ≠ k → V.into k = .none := fun e => VV.into_no (by rw [others_fit h]; simpa using e)
theorem others_tight {V : VV} (h : V.cls ≠ 0) : decide (V.kind = V.least) = true := decide_eq_true (VV.least_oth (.inr h)).symm

set_option maxHeartbeats 8000000 in
theorem sqOthers_10 (w : World) (v1 : Value) (l : List Int) (kind : Int) (HS1 : Hid (Slc w (fun _ => True) v1 l.length (i32s l))) (HT : Hid (TabAt w)) (hl1 : l.length ≤ 200) (h5 : kind = 5) (h6 : kind ≠ 6) :
    Calls Tryd.prog 5 #[v1, .int .i64 kind] w fun e w' => e = .returned (.bool true) ∧ Below w.heap.size w w' := by
  have HL := Lib.hid (show l.length ≤ 2000000 by omega)
  have HOK : Hid ((VV.chars l).ok) := Lib.hid (show l.length ≤ 1048576 by omega)
  have HN : Hid ((VV.chars l).nm) := Lib.hid trivial
  obtain ⟨C, hCC⟩ : ∃ C, VV.chars l = C := ⟨_, rfl⟩
  have HCk := Lib.hid (show C.kind = 5 by rw [← hCC]; rfl)
  have HCc := Lib.hid (show C.cls ≠ 0 by rw [← hCC]; show (1 : Int) ≠ 0; decide)
  have HCt := Lib.hid (show C.text = l by rw [← hCC]; rfl)
  have HCe := Lib.hid hCC
  have HCo := Lib.hid (show C.ok by rw [← hCC]; exact HOK.out)
  have HCn := Lib.hid (show C.nm by rw [← hCC]; trivial)
  have HBS : Hid (∀ p ∈ [([(l.length : Int)], C)], p.1.length ≤ 1048576) := Lib.hid (by intro p hp; simp at hp; subst hp; simp)
  obtain ⟨B, hBB⟩ : ∃ B, VV.boxes [([(l.length : Int)], C)] = B := ⟨_, rfl⟩
  have HBB := Lib.hid hBB
  have HBk := Lib.hid (show B.kind = 6 by rw [← hBB]; rfl)
  have HBc := Lib.hid (show B.cls ≠ 0 by rw [← hBB]; show (2 : Int) ≠ 0; decide)
  have HBo := Lib.hid (show B.ok by rw [← hBB]; exact ⟨by simp, HBS.out⟩)
  have HBn := Lib.hid (show B.nm by rw [← hBB]; trivial)
  have HBl := Lib.hid (show B.len = 1 by rw [← hBB]; rfl)
  have HF5 := Lib.hid (show C.fit kind = true by rw [others_fit HCc.out, HCk.out]; simp; omega)
  have HF6 := Lib.hid (show B.fit kind = false by rw [others_fit HBc.out, HBk.out]; simp; omega)
  clear hBB hCC
  have q5 : (kind == 5) = true := by simpa using h5
  have q6 : (kind == 6) = false := by simpa using h6
  have HQ5 := Lib.hid h5
  have HQ6 := Lib.hid h6
  clear h5 h6
  have HB := Lib.hid (Below.refl w.heap.size w)
  obtain ⟨ao1, cap1, rfl, _⟩ := HS1.out.opened
  obtain ⟨ok0, hok0⟩ : ∃ o : Nat → Prop, o = fun b => w.heap.size ≤ b := ⟨_, rfl⟩
  have HOKP := Lib.hid (show ∀ b, ok0 b → w.heap.size ≤ b by rw [hok0]; exact fun b h => h)
  have HFR := Lib.hid (show ∀ b, w.heap.size ≤ b → ok0 b by rw [hok0]; exact fun b h => h)
  clear hok0
  go_enter Tryd.func5, Tryd.ntmps5
  go_wp2_with fail
  refine (vchars_calls _ l _ HS1.out HL.out).mono ?_
  rintro e W1 ⟨u, rfl, hu0, hB⟩
  rw [HCe.out] at hu0
  have hu := hu0.nbk (ok' := fun b => w.heap.size ≤ b) (fun b _ h => h)
  have HVp := Lib.hid (hu0.wide (ok' := ok0) (fun b _ h => HFR.out b h))
  clear hu0
  have stu := hu.store
  have shu := Lib.hid hu.shape
  have HV := Lib.hid (hu.nbw (ok' := ok0) (fun b _ h => HFR.out b h))
  clear hu
  replace HT := Lib.hid (fun j hj => keep_below hB _ _ (HT.out j hj))
  replace HS1 := Lib.hid (HS1.out.below hB)
  replace HB := Lib.hid (HB.out.trans (hB.mono HB.out.size))
  replace HFR := Lib.hid (fun b h => HFR.out b (Nat.le_trans hB.size h))
  clear hB
  obtain ⟨W2, hWn⟩ : ∃ X, (W1.alloc (.cells #[u] 27)) = X := ⟨_, rfl⟩
  have hB : Below W1.heap.size W1 W2 := by rw [← hWn]; exact below_new _ _
  have hla : W1.heap.size ≤ W1.heap.size := by omega
  have hlb : W1.heap.size < W2.heap.size := by rw [← hWn]; simp; try omega
  have HZ := Lib.hid (show At1 W2 W1.heap.size (u) by rw [← hWn]; exact At1.new _ (u) 27)
  have GEHZ := Lib.hid (show w.heap.size ≤ W1.heap.size from Nat.le_trans HB.out.size hla)
  obtain ⟨ok1, o1, o2, o3, o4⟩ := ok_step ok0 W1.heap.size W1.heap.size W2.heap.size HFR.out hla hlb
  replace HOKP := Lib.hid (fun b h => HOKP.out b (o1 b h))
  replace HFR := Lib.hid o3
  replace HT := Lib.hid (fun j hj => keep_below hB _ _ (HT.out j hj))
  replace HS1 := Lib.hid (HS1.out.below hB)
  replace HV := Lib.hid ((HV.out.nbw (fun b hb h => o2 b hb h)).grow hB)
  replace HVp := Lib.hid ((HVp.out.wide (fun b hb h => o2 b hb h)).grow hB)
  replace HB := Lib.hid (HB.out.trans (hB.mono HB.out.size))
  have NOHZ := Lib.hid o4
  clear o1 o2 o3 o4
  clear hla hlb hB
  have IOHZ : Hid (IsIface (u)) := Lib.hid (shu.out)
  have cHZ := HZ.out.2.1
  
  have hE1 := hWn
  clear hWn
  have HFR2 := HFR
  obtain ⟨W3, hL8⟩ : ∃ X, (W2.alloc (.cells #[.int .i64 (l.length : Int)] 3)) = X := ⟨_, rfl⟩
  have hB : Below W2.heap.size W2 W3 := by rw [← hL8]; exact below_new _ _
  have HSHa := Lib.hid (show Slc W3 (fun _ => True) (.slice (some ⟨W2.heap.size, 0, none⟩) 1 1) 1 (ints [(l.length : Int)]) by rw [← hL8]; exact (Slc.owned (World.ownsRow_lit (base := W2.heap.size) (e := 3) (size := 1) W2 #[.int .i64 (l.length : Int)] 1 (Nat.le_refl _) (by unfold maxLen; omega) rfl)).any)
  clear cHZ
  replace HT := Lib.hid (fun j hj => keep_below hB _ _ (HT.out j hj))
  replace HS1 := Lib.hid (HS1.out.below hB)
  replace HV := Lib.hid (HV.out.grow hB)
  replace HVp := Lib.hid (HVp.out.grow hB)
  replace HZ := Lib.hid (HZ.out.below hB)
  replace HB := Lib.hid (HB.out.trans (hB.mono HB.out.size))
  replace HFR := Lib.hid (fun b h => HFR.out b (Nat.le_trans hB.size h))
  clear hB
  have cHZ := HZ.out.2.1
  have HSH := Lib.hid (show Slc W3 (ok1) (.slice (some ⟨W2.heap.size, 0, none⟩) 1 1) 1 (ints [(l.length : Int)]) by
    rw [← hL8]
    exact (Slc.owned (World.ownsRow_lit (base := W2.heap.size) (e := 3) (size := 1) W2 #[.int .i64 (l.length : Int)] 1 (Nat.le_refl _) (by unfold maxLen; omega) rfl)).keep (Kept.refl _ _) (fun b _ h => HFR2.out b h))
  obtain ⟨W4, hL9⟩ : ∃ X, (W3.alloc (.cells #[.slice (some ⟨W2.heap.size, 0, none⟩) 1 1, u] 46)) = X := ⟨_, rfl⟩
  have hB : Below W3.heap.size W3 W4 := by rw [← hL9]; exact below_new _ _
  have hne : ok1 W3.heap.size := HFR.out _ (Nat.le_refl _)
  have c3 := HZ.out.2.1
  clear cHZ
  replace HT := Lib.hid (fun j hj => keep_below hB _ _ (HT.out j hj))
  replace HS1 := Lib.hid (HS1.out.below hB)
  replace HV := Lib.hid (HV.out.grow hB)
  replace HVp := Lib.hid (HVp.out.grow hB)
  replace HZ := Lib.hid (HZ.out.below hB)
  replace HSH := Lib.hid (HSH.out.below hB)
  replace HB := Lib.hid (HB.out.trans (hB.mono HB.out.size))
  replace HFR := Lib.hid (fun b h => HFR.out b (Nat.le_trans hB.size h))
  have HARR := Lib.hid (show Arrs W4 ok1 (.slice (some ⟨W3.heap.size, 0, none⟩) 1 1) [([(l.length : Int)], C)] by
    have hA := At2.new W3 (.slice (some ⟨W2.heap.size, 0, none⟩) 1 1) u 46
    rw [hL9] at hA
    refine ⟨_, _, fun _ => .slice (some ⟨W2.heap.size, 0, none⟩) 1 1, fun _ => u, rfl, Nat.le_refl _, by unfold maxLen; decide, fun i hi => ?_, fun i hi => ?_, fun i hi => ?_⟩
    · have h0 : i = 0 := by simp at hi; exact hi
      subst h0
      exact ⟨_, _, rfl, hne, hA.2.1, hA.2.2.1⟩
    · have h0 : i = 0 := by simp at hi; exact hi
      subst h0
      exact HSH.out
    · have h0 : i = 0 := by simp at hi; exact hi
      subst h0
      exact HVp.out)
  clear hB hne
  have cHZ := HZ.out.2.1
  go_wp2_with fail
  clear hE1 hL8 hL9 c3
  refine (vboxes_calls _ [([(l.length : Int)], C)] _ HARR.out (by simp) HBS.out).mono ?_
  clear cHZ
  rintro e W5 ⟨x, rfl, hu0, hB⟩
  rw [HBB.out] at hu0
  have hu := hu0.nbk (ok' := fun b => ok1 b ∨ W4.heap.size ≤ b) (fun b _ h => h.imp (fun h => h.1) id)
  clear hu0
  have stx := hu.store
  have shx := Lib.hid hu.shape
  have HX := Lib.hid (hu.nbw (ok' := ok1) (fun b _ h => h.elim id (HFR.out b)))
  clear hu
  replace HT := Lib.hid (fun j hj => keep_below hB _ _ (HT.out j hj))
  replace HS1 := Lib.hid (HS1.out.below hB)
  replace HV := Lib.hid (HV.out.grow hB)
  replace HVp := Lib.hid (HVp.out.grow hB)
  replace HZ := Lib.hid (HZ.out.below hB)
  replace HSH := Lib.hid (HSH.out.below hB)
  replace HARR := Lib.hid (HARR.out.grow hB)
  replace HB := Lib.hid (HB.out.trans (hB.mono HB.out.size))
  replace HFR := Lib.hid (fun b h => HFR.out b (Nat.le_trans hB.size h))
  clear hB
  have cHZ := HZ.out.2.1
  clear HVp HSH HARR
  obtain ⟨W6, hWn⟩ : ∃ X, (W5.alloc (.cells #[x] 27)) = X := ⟨_, rfl⟩
  have hB : Below W5.heap.size W5 W6 := by rw [← hWn]; exact below_new _ _
  have hla : W5.heap.size ≤ W5.heap.size := by omega
  have hlb : W5.heap.size < W6.heap.size := by rw [← hWn]; simp; try omega
  have HXa := Lib.hid (show At1 W6 W5.heap.size (x) by rw [← hWn]; exact At1.new _ (x) 27)
  clear cHZ
  have NEHZHXa := Lib.hid (show W1.heap.size ≠ W5.heap.size by have := HZ.out.1; omega)
  have GEHXa := Lib.hid (show w.heap.size ≤ W5.heap.size from Nat.le_trans HB.out.size hla)
  obtain ⟨ok2, o1, o2, o3, o4⟩ := ok_step ok1 W5.heap.size W5.heap.size W6.heap.size HFR.out hla hlb
  replace HOKP := Lib.hid (fun b h => HOKP.out b (o1 b h))
  replace HFR := Lib.hid o3
  replace NOHZ := Lib.hid (fun h => NOHZ.out (o1 _ h))
  replace HT := Lib.hid (fun j hj => keep_below hB _ _ (HT.out j hj))
  replace HS1 := Lib.hid (HS1.out.below hB)
  replace HV := Lib.hid ((HV.out.nbw (fun b hb h => o2 b hb h)).grow hB)
  replace HZ := Lib.hid (HZ.out.below hB)
  replace HX := Lib.hid ((HX.out.nbw (fun b hb h => o2 b hb h)).grow hB)
  replace HB := Lib.hid (HB.out.trans (hB.mono HB.out.size))
  have NOHXa := Lib.hid o4
  clear o1 o2 o3 o4
  clear hla hlb hB
  have IOHXa : Hid (IsIface (x)) := Lib.hid (shx.out)
  have cHZ := HZ.out.2.1
  have cHXa := HXa.out.2.1
  
  have hE1 := hWn
  clear hWn
  go_wp2_with fail
  clear hE1
  refine (sinto_calls _ _ _ _ HV.out HCo.out HCn.out HT.out).mono ?_
  clear cHZ cHXa
  rintro e W7 ⟨y, rfl, hu, hB⟩
  rw [HF5.out]
  rw [show C.into kind = C by rw [HQ5.out, ← HCk.out]; exact VV.into_own C] at hu
  have sty := hu.store
  have shy := Lib.hid hu.shape
  have HY := Lib.hid (hu.nbw (ok' := ok2) (fun b _ h => h.elim id (HFR.out b)))
  clear hu
  replace HT := Lib.hid (fun j hj => keep_below hB _ _ (HT.out j hj))
  replace HS1 := Lib.hid (HS1.out.below hB)
  replace HV := Lib.hid (HV.out.grow hB)
  replace HZ := Lib.hid (HZ.out.below hB)
  replace HX := Lib.hid (HX.out.grow hB)
  replace HXa := Lib.hid (HXa.out.below hB)
  replace HB := Lib.hid (HB.out.trans (hB.mono HB.out.size))
  replace HFR := Lib.hid (fun b h => HFR.out b (Nat.le_trans hB.size h))
  clear hB
  have cHZ := HZ.out.2.1
  have cHXa := HXa.out.2.1
  obtain ⟨W8, hWn⟩ : ∃ X, (W7.alloc (.cells #[y] 27)) = X := ⟨_, rfl⟩
  have hB : Below W7.heap.size W7 W8 := by rw [← hWn]; exact below_new _ _
  have hla : W7.heap.size ≤ W7.heap.size := by omega
  have hlb : W7.heap.size < W8.heap.size := by rw [← hWn]; simp; try omega
  have HYa := Lib.hid (show At1 W8 W7.heap.size (y) by rw [← hWn]; exact At1.new _ (y) 27)
  clear cHZ cHXa
  have NEHZHYa := Lib.hid (show W1.heap.size ≠ W7.heap.size by have := HZ.out.1; omega)
  have NEHXaHYa := Lib.hid (show W5.heap.size ≠ W7.heap.size by have := HXa.out.1; omega)
  have GEHYa := Lib.hid (show w.heap.size ≤ W7.heap.size from Nat.le_trans HB.out.size hla)
  obtain ⟨ok3, o1, o2, o3, o4⟩ := ok_step ok2 W7.heap.size W7.heap.size W8.heap.size HFR.out hla hlb
  replace HOKP := Lib.hid (fun b h => HOKP.out b (o1 b h))
  replace HFR := Lib.hid o3
  replace NOHZ := Lib.hid (fun h => NOHZ.out (o1 _ h))
  replace NOHXa := Lib.hid (fun h => NOHXa.out (o1 _ h))
  replace HT := Lib.hid (fun j hj => keep_below hB _ _ (HT.out j hj))
  replace HS1 := Lib.hid (HS1.out.below hB)
  replace HV := Lib.hid ((HV.out.nbw (fun b hb h => o2 b hb h)).grow hB)
  replace HZ := Lib.hid (HZ.out.below hB)
  replace HX := Lib.hid ((HX.out.nbw (fun b hb h => o2 b hb h)).grow hB)
  replace HXa := Lib.hid (HXa.out.below hB)
  replace HY := Lib.hid ((HY.out.nbw (fun b hb h => o2 b hb h)).grow hB)
  replace HB := Lib.hid (HB.out.trans (hB.mono HB.out.size))
  have NOHYa := Lib.hid o4
  clear o1 o2 o3 o4
  clear hla hlb hB
  have IOHYa : Hid (IsIface (y)) := Lib.hid (shy.out)
  have cHZ := HZ.out.2.1
  have cHXa := HXa.out.2.1
  have cHYa := HYa.out.2.1
  
  have hE1 := hWn
  clear hWn
  go_wp2_with fail
  clear hE1
  refine (sinto_calls _ _ _ _ HX.out HBo.out HBn.out HT.out).mono ?_
  clear cHZ cHXa cHYa
  rintro e W9 ⟨z, rfl, hu, hB⟩
  rw [HF6.out]
  rw [others_into HBc.out (by rw [HBk.out]; exact fun e => HQ6.out e.symm)] at hu
  have stz := hu.store
  have shz := Lib.hid hu.shape
  have HZ1 := Lib.hid (hu.nbw (ok' := ok3) (fun b _ h => h.elim id (HFR.out b)))
  clear hu
  replace HT := Lib.hid (fun j hj => keep_below hB _ _ (HT.out j hj))
  replace HS1 := Lib.hid (HS1.out.below hB)
  replace HV := Lib.hid (HV.out.grow hB)
  replace HZ := Lib.hid (HZ.out.below hB)
  replace HX := Lib.hid (HX.out.grow hB)
  replace HXa := Lib.hid (HXa.out.below hB)
  replace HY := Lib.hid (HY.out.grow hB)
  replace HYa := Lib.hid (HYa.out.below hB)
  replace HB := Lib.hid (HB.out.trans (hB.mono HB.out.size))
  replace HFR := Lib.hid (fun b h => HFR.out b (Nat.le_trans hB.size h))
  clear hB
  have cHZ := HZ.out.2.1
  have cHXa := HXa.out.2.1
  have cHYa := HYa.out.2.1
  have hz0 : z = .nilIface := by cases HZ1.out; rfl
  subst hz0
  obtain ⟨W10, hWn⟩ : ∃ X, (W9.alloc (.cells #[.nilIface] 27)) = X := ⟨_, rfl⟩
  have hB : Below W9.heap.size W9 W10 := by rw [← hWn]; exact below_new _ _
  have hla : W9.heap.size ≤ W9.heap.size := by omega
  have hlb : W9.heap.size < W10.heap.size := by rw [← hWn]; simp; try omega
  have HZa := Lib.hid (show At1 W10 W9.heap.size (.nilIface) by rw [← hWn]; exact At1.new _ (.nilIface) 27)
  clear cHZ cHXa cHYa
  have NEHZHZa := Lib.hid (show W1.heap.size ≠ W9.heap.size by have := HZ.out.1; omega)
  have NEHXaHZa := Lib.hid (show W5.heap.size ≠ W9.heap.size by have := HXa.out.1; omega)
  have NEHYaHZa := Lib.hid (show W7.heap.size ≠ W9.heap.size by have := HYa.out.1; omega)
  have GEHZa := Lib.hid (show w.heap.size ≤ W9.heap.size from Nat.le_trans HB.out.size hla)
  obtain ⟨ok4, o1, o2, o3, o4⟩ := ok_step ok3 W9.heap.size W9.heap.size W10.heap.size HFR.out hla hlb
  replace HOKP := Lib.hid (fun b h => HOKP.out b (o1 b h))
  replace HFR := Lib.hid o3
  replace NOHZ := Lib.hid (fun h => NOHZ.out (o1 _ h))
  replace NOHXa := Lib.hid (fun h => NOHXa.out (o1 _ h))
  replace NOHYa := Lib.hid (fun h => NOHYa.out (o1 _ h))
  replace HT := Lib.hid (fun j hj => keep_below hB _ _ (HT.out j hj))
  replace HS1 := Lib.hid (HS1.out.below hB)
  replace HV := Lib.hid ((HV.out.nbw (fun b hb h => o2 b hb h)).grow hB)
  replace HZ := Lib.hid (HZ.out.below hB)
  replace HX := Lib.hid ((HX.out.nbw (fun b hb h => o2 b hb h)).grow hB)
  replace HXa := Lib.hid (HXa.out.below hB)
  replace HY := Lib.hid ((HY.out.nbw (fun b hb h => o2 b hb h)).grow hB)
  replace HYa := Lib.hid (HYa.out.below hB)
  replace HZ1 := Lib.hid ((HZ1.out.nbw (fun b hb h => o2 b hb h)).grow hB)
  replace HB := Lib.hid (HB.out.trans (hB.mono HB.out.size))
  have NOHZa := Lib.hid o4
  clear o1 o2 o3 o4
  clear hla hlb hB
  have IOHZa : Hid (IsIface (.nilIface)) := Lib.hid (.inl rfl)
  have cHZ := HZ.out.2.1
  have cHXa := HXa.out.2.1
  have cHYa := HYa.out.2.1
  have cHZa := HZa.out.2.1
  
  have hE1 := hWn
  clear hWn
  have fHZa := HZa.out.2.2 0
  have neHZ := NEHZHZa.out
  have nfHZ := Ne.symm NEHZHZa.out
  have neHXa := NEHXaHZa.out
  have nfHXa := Ne.symm NEHXaHZa.out
  have neHYa := NEHYaHZa.out
  have nfHYa := Ne.symm NEHYaHZa.out
  go_wp2_with fail
  clear neHZ nfHZ neHXa nfHXa neHYa nfHYa
  clear hE1 fHZa
  obtain ⟨W11, hWn⟩ : ∃ X, W10.setCell ⟨W9.heap.size, 0, none⟩ (.nilIface) = X := ⟨_, rfl⟩
  have cHZa0 := HZa.out.2.1
  clear cHZ cHXa cHYa cHZa
  have hg : W10.grownBy W11 (some W9.heap.size) := by rw [← hWn]; exact grown_setCell _ _ _
  have hz : W11.heap.size = W10.heap.size := by rw [← hWn]; simp
  replace HT := Lib.hid (show TabAt W11 by rw [← hWn]; exact TabAt.setc HT.out cHZa0 IOHZa.out _)
  replace HS1 := Lib.hid (by have hq := Slc.setc HS1.out cHZa0 (by intro z hz; (first | (simp only [f64s, List.mem_map] at hz) | (simp only [i8s, List.mem_map] at hz) | (simp only [i32s, List.mem_map] at hz) | (simp only [Go.Proofs.YtnicoddkbcfijaaDoor.ints, List.mem_map] at hz) | (simp only [u64s, List.mem_map] at hz)); obtain ⟨q, _, rfl⟩ := hz; first | exact IOHZa.out.ne_int _ _ | exact IOHZa.out.ne_float _ _) (.nilIface); rw [hWn] at hq; exact hq)
  replace HV := Lib.hid (show IsV W11 _ _ _ by rw [← hWn]; exact HV.out.setw cHZa0 IOHZa.out NOHZa.out _)
  replace HZ := Lib.hid (HZ.out.grown hg (fun e => NEHZHZa.out (Option.some.inj e)))
  replace HX := Lib.hid (show IsV W11 _ _ _ by rw [← hWn]; exact HX.out.setw cHZa0 IOHZa.out NOHZa.out _)
  replace HXa := Lib.hid (HXa.out.grown hg (fun e => NEHXaHZa.out (Option.some.inj e)))
  replace HY := Lib.hid (show IsV W11 _ _ _ by rw [← hWn]; exact HY.out.setw cHZa0 IOHZa.out NOHZa.out _)
  replace HYa := Lib.hid (HYa.out.grown hg (fun e => NEHYaHZa.out (Option.some.inj e)))
  replace HZ1 := Lib.hid (show IsV W11 _ _ _ by rw [← hWn]; exact HZ1.out.setw cHZa0 IOHZa.out NOHZa.out _)
  replace HZa := Lib.hid (show At1 W11 W9.heap.size (.nilIface) by rw [← hWn]; exact HZa.out.set _)
  replace IOHZa : Hid (IsIface (.nilIface)) := Lib.hid (.inl rfl)
  replace HB := Lib.hid (show Below w.heap.size w W11 by rw [← hWn]; exact HB.out.setCell GEHZa.out _)
  replace HFR := Lib.hid (fun b h => HFR.out b (by rw [← hz]; exact h))
  have cHZ := HZ.out.2.1
  have cHXa := HXa.out.2.1
  have cHYa := HYa.out.2.1
  have cHZa := HZa.out.2.1
  rw [hWn]
  clear hWn hg hz cHZa0
  try go_wp2_with fail
  refine (squeeze_calls _ _ _ HV.out HCo.out HCn.out HT.out).mono ?_
  clear cHZ cHXa cHYa cHZa
  rintro e W12 ⟨s, rfl, hu, hB⟩
  rw [others_sq HCc.out] at hu
  have sts := hu.store
  have shs := Lib.hid hu.shape
  have HQ1 := Lib.hid (hu.nbw (ok' := ok4) (fun b _ h => h.elim id (HFR.out b)))
  clear hu
  replace HT := Lib.hid (fun j hj => keep_below hB _ _ (HT.out j hj))
  replace HS1 := Lib.hid (HS1.out.below hB)
  replace HV := Lib.hid (HV.out.grow hB)
  replace HZ := Lib.hid (HZ.out.below hB)
  replace HX := Lib.hid (HX.out.grow hB)
  replace HXa := Lib.hid (HXa.out.below hB)
  replace HY := Lib.hid (HY.out.grow hB)
  replace HYa := Lib.hid (HYa.out.below hB)
  replace HZ1 := Lib.hid (HZ1.out.grow hB)
  replace HZa := Lib.hid (HZa.out.below hB)
  replace HB := Lib.hid (HB.out.trans (hB.mono HB.out.size))
  replace HFR := Lib.hid (fun b h => HFR.out b (Nat.le_trans hB.size h))
  clear hB
  have cHZ := HZ.out.2.1
  have cHXa := HXa.out.2.1
  have cHYa := HYa.out.2.1
  have cHZa := HZa.out.2.1
  obtain ⟨W13, hWn⟩ : ∃ X, (W12.alloc (.cells #[s] 27)) = X := ⟨_, rfl⟩
  have hB : Below W12.heap.size W12 W13 := by rw [← hWn]; exact below_new _ _
  have hla : W12.heap.size ≤ W12.heap.size := by omega
  have hlb : W12.heap.size < W13.heap.size := by rw [← hWn]; simp; try omega
  have HQa := Lib.hid (show At1 W13 W12.heap.size (s) by rw [← hWn]; exact At1.new _ (s) 27)
  clear cHZ cHXa cHYa cHZa
  have NEHZHQa := Lib.hid (show W1.heap.size ≠ W12.heap.size by have := HZ.out.1; omega)
  have NEHXaHQa := Lib.hid (show W5.heap.size ≠ W12.heap.size by have := HXa.out.1; omega)
  have NEHYaHQa := Lib.hid (show W7.heap.size ≠ W12.heap.size by have := HYa.out.1; omega)
  have NEHZaHQa := Lib.hid (show W9.heap.size ≠ W12.heap.size by have := HZa.out.1; omega)
  have GEHQa := Lib.hid (show w.heap.size ≤ W12.heap.size from Nat.le_trans HB.out.size hla)
  obtain ⟨ok5, o1, o2, o3, o4⟩ := ok_step ok4 W12.heap.size W12.heap.size W13.heap.size HFR.out hla hlb
  replace HOKP := Lib.hid (fun b h => HOKP.out b (o1 b h))
  replace HFR := Lib.hid o3
  replace NOHZ := Lib.hid (fun h => NOHZ.out (o1 _ h))
  replace NOHXa := Lib.hid (fun h => NOHXa.out (o1 _ h))
  replace NOHYa := Lib.hid (fun h => NOHYa.out (o1 _ h))
  replace NOHZa := Lib.hid (fun h => NOHZa.out (o1 _ h))
  replace HT := Lib.hid (fun j hj => keep_below hB _ _ (HT.out j hj))
  replace HS1 := Lib.hid (HS1.out.below hB)
  replace HV := Lib.hid ((HV.out.nbw (fun b hb h => o2 b hb h)).grow hB)
  replace HZ := Lib.hid (HZ.out.below hB)
  replace HX := Lib.hid ((HX.out.nbw (fun b hb h => o2 b hb h)).grow hB)
  replace HXa := Lib.hid (HXa.out.below hB)
  replace HY := Lib.hid ((HY.out.nbw (fun b hb h => o2 b hb h)).grow hB)
  replace HYa := Lib.hid (HYa.out.below hB)
  replace HZ1 := Lib.hid ((HZ1.out.nbw (fun b hb h => o2 b hb h)).grow hB)
  replace HZa := Lib.hid (HZa.out.below hB)
  replace HQ1 := Lib.hid ((HQ1.out.nbw (fun b hb h => o2 b hb h)).grow hB)
  replace HB := Lib.hid (HB.out.trans (hB.mono HB.out.size))
  have NOHQa := Lib.hid o4
  clear o1 o2 o3 o4
  clear hla hlb hB
  have IOHQa : Hid (IsIface (s)) := Lib.hid (shs.out)
  have cHZ := HZ.out.2.1
  have cHXa := HXa.out.2.1
  have cHYa := HYa.out.2.1
  have cHZa := HZa.out.2.1
  have cHQa := HQa.out.2.1
  
  have hE1 := hWn
  clear hWn
  go_wp2_with fail
  clear hE1
  refine (kind_calls _ _ _ (.none (ok := fun _ => True))).mono ?_
  clear cHZ cHXa cHYa cHZa cHQa
  rintro e W14 ⟨rfl, hB⟩
  replace HT := Lib.hid (fun j hj => keep_below hB _ _ (HT.out j hj))
  replace HS1 := Lib.hid (HS1.out.below hB)
  replace HV := Lib.hid (HV.out.grow hB)
  replace HZ := Lib.hid (HZ.out.below hB)
  replace HX := Lib.hid (HX.out.grow hB)
  replace HXa := Lib.hid (HXa.out.below hB)
  replace HY := Lib.hid (HY.out.grow hB)
  replace HYa := Lib.hid (HYa.out.below hB)
  replace HZ1 := Lib.hid (HZ1.out.grow hB)
  replace HZa := Lib.hid (HZa.out.below hB)
  replace HQ1 := Lib.hid (HQ1.out.grow hB)
  replace HQa := Lib.hid (HQa.out.below hB)
  replace HB := Lib.hid (HB.out.trans (hB.mono HB.out.size))
  replace HFR := Lib.hid (fun b h => HFR.out b (Nat.le_trans hB.size h))
  clear hB
  have cHZ := HZ.out.2.1
  have cHXa := HXa.out.2.1
  have cHYa := HYa.out.2.1
  have cHZa := HZa.out.2.1
  have cHQa := HQa.out.2.1
  go_wp2_with fail
  refine (vtext_calls _ _ _ HQ1.out HCo.out).mono ?_
  clear cHZ cHXa cHYa cHZa cHQa
  rintro e W15 ⟨vt, rfl, hs, hB⟩
  replace HT := Lib.hid (fun j hj => keep_below hB _ _ (HT.out j hj))
  replace HS1 := Lib.hid (HS1.out.below hB)
  replace HV := Lib.hid (HV.out.grow hB)
  replace HZ := Lib.hid (HZ.out.below hB)
  replace HX := Lib.hid (HX.out.grow hB)
  replace HXa := Lib.hid (HXa.out.below hB)
  replace HY := Lib.hid (HY.out.grow hB)
  replace HYa := Lib.hid (HYa.out.below hB)
  replace HZ1 := Lib.hid (HZ1.out.grow hB)
  replace HZa := Lib.hid (HZa.out.below hB)
  replace HQ1 := Lib.hid (HQ1.out.grow hB)
  replace HQa := Lib.hid (HQa.out.below hB)
  replace HB := Lib.hid (HB.out.trans (hB.mono HB.out.size))
  replace HFR := Lib.hid (fun b h => HFR.out b (Nat.le_trans hB.size h))
  have HTX := Lib.hid (show Slc W15 _ vt l.length (i32s l) from by have := hs.any; rw [HCt.out] at this; exact this)
  clear hs
  clear hB
  have cHZ := HZ.out.2.1
  have cHXa := HXa.out.2.1
  have cHYa := HYa.out.2.1
  have cHZa := HZa.out.2.1
  have cHQa := HQa.out.2.1
  go_wp2_with fail
  refine (runes_same _ _ l _ HTX.out HS1.out HL.out).mono ?_
  clear cHZ cHXa cHYa cHZa cHQa
  rintro e W16 ⟨rfl, hB⟩
  replace HT := Lib.hid (fun j hj => keep_below hB _ _ (HT.out j hj))
  replace HS1 := Lib.hid (HS1.out.below hB)
  replace HV := Lib.hid (HV.out.grow hB)
  replace HZ := Lib.hid (HZ.out.below hB)
  replace HX := Lib.hid (HX.out.grow hB)
  replace HXa := Lib.hid (HXa.out.below hB)
  replace HY := Lib.hid (HY.out.grow hB)
  replace HYa := Lib.hid (HYa.out.below hB)
  replace HZ1 := Lib.hid (HZ1.out.grow hB)
  replace HZa := Lib.hid (HZa.out.below hB)
  replace HQ1 := Lib.hid (HQ1.out.grow hB)
  replace HQa := Lib.hid (HQa.out.below hB)
  replace HTX := Lib.hid (HTX.out.below hB)
  replace HB := Lib.hid (HB.out.trans (hB.mono HB.out.size))
  replace HFR := Lib.hid (fun b h => HFR.out b (Nat.le_trans hB.size h))
  clear hB
  have cHZ := HZ.out.2.1
  have cHXa := HXa.out.2.1
  have cHYa := HYa.out.2.1
  have cHZa := HZa.out.2.1
  have cHQa := HQa.out.2.1
  go_wp2_with fail
  refine (least_calls _ _ _ HV.out HCo.out HCn.out HT.out).mono ?_
  clear cHZ cHXa cHYa cHZa cHQa
  rintro e W17 ⟨rfl, hB⟩
  replace HT := Lib.hid (fun j hj => keep_below hB _ _ (HT.out j hj))
  replace HS1 := Lib.hid (HS1.out.below hB)
  replace HV := Lib.hid (HV.out.grow hB)
  replace HZ := Lib.hid (HZ.out.below hB)
  replace HX := Lib.hid (HX.out.grow hB)
  replace HXa := Lib.hid (HXa.out.below hB)
  replace HY := Lib.hid (HY.out.grow hB)
  replace HYa := Lib.hid (HYa.out.below hB)
  replace HZ1 := Lib.hid (HZ1.out.grow hB)
  replace HZa := Lib.hid (HZa.out.below hB)
  replace HQ1 := Lib.hid (HQ1.out.grow hB)
  replace HQa := Lib.hid (HQa.out.below hB)
  replace HTX := Lib.hid (HTX.out.below hB)
  replace HB := Lib.hid (HB.out.trans (hB.mono HB.out.size))
  replace HFR := Lib.hid (fun b h => HFR.out b (Nat.le_trans hB.size h))
  rw [VV.least_oth (.inr HCc.out), HCk.out]
  clear hB
  have cHZ := HZ.out.2.1
  have cHXa := HXa.out.2.1
  have cHYa := HYa.out.2.1
  have cHZa := HZa.out.2.1
  have cHQa := HQa.out.2.1
  go_wp2_with fail
  refine (squeeze_calls _ _ _ HX.out HBo.out HBn.out HT.out).mono ?_
  clear cHZ cHXa cHYa cHZa cHQa
  rintro e W18 ⟨p, rfl, hu, hB⟩
  rw [others_sq HBc.out] at hu
  have stp := hu.store
  have shp := Lib.hid hu.shape
  have HP := Lib.hid (hu.nbw (ok' := ok5) (fun b _ h => h.elim id (HFR.out b)))
  clear hu
  replace HT := Lib.hid (fun j hj => keep_below hB _ _ (HT.out j hj))
  replace HS1 := Lib.hid (HS1.out.below hB)
  replace HV := Lib.hid (HV.out.grow hB)
  replace HZ := Lib.hid (HZ.out.below hB)
  replace HX := Lib.hid (HX.out.grow hB)
  replace HXa := Lib.hid (HXa.out.below hB)
  replace HY := Lib.hid (HY.out.grow hB)
  replace HYa := Lib.hid (HYa.out.below hB)
  replace HZ1 := Lib.hid (HZ1.out.grow hB)
  replace HZa := Lib.hid (HZa.out.below hB)
  replace HQ1 := Lib.hid (HQ1.out.grow hB)
  replace HQa := Lib.hid (HQa.out.below hB)
  replace HTX := Lib.hid (HTX.out.below hB)
  replace HB := Lib.hid (HB.out.trans (hB.mono HB.out.size))
  replace HFR := Lib.hid (fun b h => HFR.out b (Nat.le_trans hB.size h))
  clear hB
  have cHZ := HZ.out.2.1
  have cHXa := HXa.out.2.1
  have cHYa := HYa.out.2.1
  have cHZa := HZa.out.2.1
  have cHQa := HQa.out.2.1
  go_wp2_with fail
  refine (vlen_calls _ _ _ HP.out).mono ?_
  clear cHZ cHXa cHYa cHZa cHQa
  rintro e W19 ⟨rfl, hB⟩
  replace HT := Lib.hid (fun j hj => keep_below hB _ _ (HT.out j hj))
  replace HS1 := Lib.hid (HS1.out.below hB)
  replace HV := Lib.hid (HV.out.grow hB)
  replace HZ := Lib.hid (HZ.out.below hB)
  replace HX := Lib.hid (HX.out.grow hB)
  replace HXa := Lib.hid (HXa.out.below hB)
  replace HY := Lib.hid (HY.out.grow hB)
  replace HYa := Lib.hid (HYa.out.below hB)
  replace HZ1 := Lib.hid (HZ1.out.grow hB)
  replace HZa := Lib.hid (HZa.out.below hB)
  replace HQ1 := Lib.hid (HQ1.out.grow hB)
  replace HQa := Lib.hid (HQa.out.below hB)
  replace HTX := Lib.hid (HTX.out.below hB)
  replace HP := Lib.hid (HP.out.grow hB)
  replace HB := Lib.hid (HB.out.trans (hB.mono HB.out.size))
  replace HFR := Lib.hid (fun b h => HFR.out b (Nat.le_trans hB.size h))
  rw [HBl.out]
  clear hB
  have cHZ := HZ.out.2.1
  have cHXa := HXa.out.2.1
  have cHYa := HYa.out.2.1
  have cHZa := HZa.out.2.1
  have cHQa := HQa.out.2.1
  go_wp2_with fail
  refine (tight_calls _ _ _ HX.out HBo.out HBn.out HT.out).mono ?_
  clear cHZ cHXa cHYa cHZa cHQa
  rintro e W20 ⟨rfl, hB⟩
  replace HT := Lib.hid (fun j hj => keep_below hB _ _ (HT.out j hj))
  replace HS1 := Lib.hid (HS1.out.below hB)
  replace HV := Lib.hid (HV.out.grow hB)
  replace HZ := Lib.hid (HZ.out.below hB)
  replace HX := Lib.hid (HX.out.grow hB)
  replace HXa := Lib.hid (HXa.out.below hB)
  replace HY := Lib.hid (HY.out.grow hB)
  replace HYa := Lib.hid (HYa.out.below hB)
  replace HZ1 := Lib.hid (HZ1.out.grow hB)
  replace HZa := Lib.hid (HZa.out.below hB)
  replace HQ1 := Lib.hid (HQ1.out.grow hB)
  replace HQa := Lib.hid (HQa.out.below hB)
  replace HTX := Lib.hid (HTX.out.below hB)
  replace HP := Lib.hid (HP.out.grow hB)
  replace HB := Lib.hid (HB.out.trans (hB.mono HB.out.size))
  replace HFR := Lib.hid (fun b h => HFR.out b (Nat.le_trans hB.size h))
  rw [others_tight HBc.out]
  clear hB
  have cHZ := HZ.out.2.1
  have cHXa := HXa.out.2.1
  have cHYa := HYa.out.2.1
  have cHZa := HZa.out.2.1
  have cHQa := HQa.out.2.1
  go_wp2_with fail
  refine (tight_calls _ _ _ HV.out HCo.out HCn.out HT.out).mono ?_
  clear cHZ cHXa cHYa cHZa cHQa
  rintro e W21 ⟨rfl, hB⟩
  replace HT := Lib.hid (fun j hj => keep_below hB _ _ (HT.out j hj))
  replace HS1 := Lib.hid (HS1.out.below hB)
  replace HV := Lib.hid (HV.out.grow hB)
  replace HZ := Lib.hid (HZ.out.below hB)
  replace HX := Lib.hid (HX.out.grow hB)
  replace HXa := Lib.hid (HXa.out.below hB)
  replace HY := Lib.hid (HY.out.grow hB)
  replace HYa := Lib.hid (HYa.out.below hB)
  replace HZ1 := Lib.hid (HZ1.out.grow hB)
  replace HZa := Lib.hid (HZa.out.below hB)
  replace HQ1 := Lib.hid (HQ1.out.grow hB)
  replace HQa := Lib.hid (HQa.out.below hB)
  replace HTX := Lib.hid (HTX.out.below hB)
  replace HP := Lib.hid (HP.out.grow hB)
  replace HB := Lib.hid (HB.out.trans (hB.mono HB.out.size))
  replace HFR := Lib.hid (fun b h => HFR.out b (Nat.le_trans hB.size h))
  rw [others_tight HCc.out]
  clear hB
  have cHZ := HZ.out.2.1
  have cHXa := HXa.out.2.1
  have cHYa := HYa.out.2.1
  have cHZa := HZa.out.2.1
  have cHQa := HQa.out.2.1
  go_wp2_with fail
  refine (awake5_calls _ HT.out).mono ?_
  clear cHZ cHXa cHYa cHZa cHQa
  rintro e W22 ⟨rfl, hB⟩
  replace HT := Lib.hid (fun j hj => keep_below hB _ _ (HT.out j hj))
  replace HS1 := Lib.hid (HS1.out.below hB)
  replace HV := Lib.hid (HV.out.grow hB)
  replace HZ := Lib.hid (HZ.out.below hB)
  replace HX := Lib.hid (HX.out.grow hB)
  replace HXa := Lib.hid (HXa.out.below hB)
  replace HY := Lib.hid (HY.out.grow hB)
  replace HYa := Lib.hid (HYa.out.below hB)
  replace HZ1 := Lib.hid (HZ1.out.grow hB)
  replace HZa := Lib.hid (HZa.out.below hB)
  replace HQ1 := Lib.hid (HQ1.out.grow hB)
  replace HQa := Lib.hid (HQa.out.below hB)
  replace HTX := Lib.hid (HTX.out.below hB)
  replace HP := Lib.hid (HP.out.grow hB)
  replace HB := Lib.hid (HB.out.trans (hB.mono HB.out.size))
  replace HFR := Lib.hid (fun b h => HFR.out b (Nat.le_trans hB.size h))
  clear hB
  have cHZ := HZ.out.2.1
  have cHXa := HXa.out.2.1
  have cHYa := HYa.out.2.1
  have cHZa := HZa.out.2.1
  have cHQa := HQa.out.2.1
  go_wp2
  go_ret
  exact ⟨rfl, HB.out⟩

set_option maxHeartbeats 8000000 in
theorem sqOthers_01 (w : World) (v1 : Value) (l : List Int) (kind : Int) (HS1 : Hid (Slc w (fun _ => True) v1 l.length (i32s l))) (HT : Hid (TabAt w)) (hl1 : l.length ≤ 200) (h5 : kind ≠ 5) (h6 : kind = 6) :
    Calls Tryd.prog 5 #[v1, .int .i64 kind] w fun e w' => e = .returned (.bool true) ∧ Below w.heap.size w w' := by
  have HL := Lib.hid (show l.length ≤ 2000000 by omega)
  have HOK : Hid ((VV.chars l).ok) := Lib.hid (show l.length ≤ 1048576 by omega)
  have HN : Hid ((VV.chars l).nm) := Lib.hid trivial
  obtain ⟨C, hCC⟩ : ∃ C, VV.chars l = C := ⟨_, rfl⟩
  have HCk := Lib.hid (show C.kind = 5 by rw [← hCC]; rfl)
  have HCc := Lib.hid (show C.cls ≠ 0 by rw [← hCC]; show (1 : Int) ≠ 0; decide)
  have HCt := Lib.hid (show C.text = l by rw [← hCC]; rfl)
  have HCe := Lib.hid hCC
  have HCo := Lib.hid (show C.ok by rw [← hCC]; exact HOK.out)
  have HCn := Lib.hid (show C.nm by rw [← hCC]; trivial)
  have HBS : Hid (∀ p ∈ [([(l.length : Int)], C)], p.1.length ≤ 1048576) := Lib.hid (by intro p hp; simp at hp; subst hp; simp)
  obtain ⟨B, hBB⟩ : ∃ B, VV.boxes [([(l.length : Int)], C)] = B := ⟨_, rfl⟩
  have HBB := Lib.hid hBB
  have HBk := Lib.hid (show B.kind = 6 by rw [← hBB]; rfl)
  have HBc := Lib.hid (show B.cls ≠ 0 by rw [← hBB]; show (2 : Int) ≠ 0; decide)
  have HBo := Lib.hid (show B.ok by rw [← hBB]; exact ⟨by simp, HBS.out⟩)
  have HBn := Lib.hid (show B.nm by rw [← hBB]; trivial)
  have HBl := Lib.hid (show B.len = 1 by rw [← hBB]; rfl)
  have HF5 := Lib.hid (show C.fit kind = false by rw [others_fit HCc.out, HCk.out]; simp; omega)
  have HF6 := Lib.hid (show B.fit kind = true by rw [others_fit HBc.out, HBk.out]; simp; omega)
  clear hBB hCC
  have q5 : (kind == 5) = false := by simpa using h5
  have q6 : (kind == 6) = true := by simpa using h6
  have HQ5 := Lib.hid h5
  have HQ6 := Lib.hid h6
  clear h5 h6
  have HB := Lib.hid (Below.refl w.heap.size w)
  obtain ⟨ao1, cap1, rfl, _⟩ := HS1.out.opened
  obtain ⟨ok0, hok0⟩ : ∃ o : Nat → Prop, o = fun b => w.heap.size ≤ b := ⟨_, rfl⟩
  have HOKP := Lib.hid (show ∀ b, ok0 b → w.heap.size ≤ b by rw [hok0]; exact fun b h => h)
  have HFR := Lib.hid (show ∀ b, w.heap.size ≤ b → ok0 b by rw [hok0]; exact fun b h => h)
  clear hok0
  go_enter Tryd.func5, Tryd.ntmps5
  go_wp2_with fail
  refine (vchars_calls _ l _ HS1.out HL.out).mono ?_
  rintro e W1 ⟨u, rfl, hu0, hB⟩
  rw [HCe.out] at hu0
  have hu := hu0.nbk (ok' := fun b => w.heap.size ≤ b) (fun b _ h => h)
  have HVp := Lib.hid (hu0.wide (ok' := ok0) (fun b _ h => HFR.out b h))
  clear hu0
  have stu := hu.store
  have shu := Lib.hid hu.shape
  have HV := Lib.hid (hu.nbw (ok' := ok0) (fun b _ h => HFR.out b h))
  clear hu
  replace HT := Lib.hid (fun j hj => keep_below hB _ _ (HT.out j hj))
  replace HS1 := Lib.hid (HS1.out.below hB)
  replace HB := Lib.hid (HB.out.trans (hB.mono HB.out.size))
  replace HFR := Lib.hid (fun b h => HFR.out b (Nat.le_trans hB.size h))
  clear hB
  obtain ⟨W2, hWn⟩ : ∃ X, (W1.alloc (.cells #[u] 27)) = X := ⟨_, rfl⟩
  have hB : Below W1.heap.size W1 W2 := by rw [← hWn]; exact below_new _ _
  have hla : W1.heap.size ≤ W1.heap.size := by omega
  have hlb : W1.heap.size < W2.heap.size := by rw [← hWn]; simp; try omega
  have HZ := Lib.hid (show At1 W2 W1.heap.size (u) by rw [← hWn]; exact At1.new _ (u) 27)
  have GEHZ := Lib.hid (show w.heap.size ≤ W1.heap.size from Nat.le_trans HB.out.size hla)
  obtain ⟨ok1, o1, o2, o3, o4⟩ := ok_step ok0 W1.heap.size W1.heap.size W2.heap.size HFR.out hla hlb
  replace HOKP := Lib.hid (fun b h => HOKP.out b (o1 b h))
  replace HFR := Lib.hid o3
  replace HT := Lib.hid (fun j hj => keep_below hB _ _ (HT.out j hj))
  replace HS1 := Lib.hid (HS1.out.below hB)
  replace HV := Lib.hid ((HV.out.nbw (fun b hb h => o2 b hb h)).grow hB)
  replace HVp := Lib.hid ((HVp.out.wide (fun b hb h => o2 b hb h)).grow hB)
  replace HB := Lib.hid (HB.out.trans (hB.mono HB.out.size))
  have NOHZ := Lib.hid o4
  clear o1 o2 o3 o4
  clear hla hlb hB
  have IOHZ : Hid (IsIface (u)) := Lib.hid (shu.out)
  have cHZ := HZ.out.2.1
  
  have hE1 := hWn
  clear hWn
  have HFR2 := HFR
  obtain ⟨W3, hL8⟩ : ∃ X, (W2.alloc (.cells #[.int .i64 (l.length : Int)] 3)) = X := ⟨_, rfl⟩
  have hB : Below W2.heap.size W2 W3 := by rw [← hL8]; exact below_new _ _
  have HSHa := Lib.hid (show Slc W3 (fun _ => True) (.slice (some ⟨W2.heap.size, 0, none⟩) 1 1) 1 (ints [(l.length : Int)]) by rw [← hL8]; exact (Slc.owned (World.ownsRow_lit (base := W2.heap.size) (e := 3) (size := 1) W2 #[.int .i64 (l.length : Int)] 1 (Nat.le_refl _) (by unfold maxLen; omega) rfl)).any)
  clear cHZ
  replace HT := Lib.hid (fun j hj => keep_below hB _ _ (HT.out j hj))
  replace HS1 := Lib.hid (HS1.out.below hB)
  replace HV := Lib.hid (HV.out.grow hB)
  replace HVp := Lib.hid (HVp.out.grow hB)
  replace HZ := Lib.hid (HZ.out.below hB)
  replace HB := Lib.hid (HB.out.trans (hB.mono HB.out.size))
  replace HFR := Lib.hid (fun b h => HFR.out b (Nat.le_trans hB.size h))
  clear hB
  have cHZ := HZ.out.2.1
  have HSH := Lib.hid (show Slc W3 (ok1) (.slice (some ⟨W2.heap.size, 0, none⟩) 1 1) 1 (ints [(l.length : Int)]) by
    rw [← hL8]
    exact (Slc.owned (World.ownsRow_lit (base := W2.heap.size) (e := 3) (size := 1) W2 #[.int .i64 (l.length : Int)] 1 (Nat.le_refl _) (by unfold maxLen; omega) rfl)).keep (Kept.refl _ _) (fun b _ h => HFR2.out b h))
  obtain ⟨W4, hL9⟩ : ∃ X, (W3.alloc (.cells #[.slice (some ⟨W2.heap.size, 0, none⟩) 1 1, u] 46)) = X := ⟨_, rfl⟩
  have hB : Below W3.heap.size W3 W4 := by rw [← hL9]; exact below_new _ _
  have hne : ok1 W3.heap.size := HFR.out _ (Nat.le_refl _)
  have c3 := HZ.out.2.1
  clear cHZ
  replace HT := Lib.hid (fun j hj => keep_below hB _ _ (HT.out j hj))
  replace HS1 := Lib.hid (HS1.out.below hB)
  replace HV := Lib.hid (HV.out.grow hB)
  replace HVp := Lib.hid (HVp.out.grow hB)
  replace HZ := Lib.hid (HZ.out.below hB)
  replace HSH := Lib.hid (HSH.out.below hB)
  replace HB := Lib.hid (HB.out.trans (hB.mono HB.out.size))
  replace HFR := Lib.hid (fun b h => HFR.out b (Nat.le_trans hB.size h))
  have HARR := Lib.hid (show Arrs W4 ok1 (.slice (some ⟨W3.heap.size, 0, none⟩) 1 1) [([(l.length : Int)], C)] by
    have hA := At2.new W3 (.slice (some ⟨W2.heap.size, 0, none⟩) 1 1) u 46
    rw [hL9] at hA
    refine ⟨_, _, fun _ => .slice (some ⟨W2.heap.size, 0, none⟩) 1 1, fun _ => u, rfl, Nat.le_refl _, by unfold maxLen; decide, fun i hi => ?_, fun i hi => ?_, fun i hi => ?_⟩
    · have h0 : i = 0 := by simp at hi; exact hi
      subst h0
      exact ⟨_, _, rfl, hne, hA.2.1, hA.2.2.1⟩
    · have h0 : i = 0 := by simp at hi; exact hi
      subst h0
      exact HSH.out
    · have h0 : i = 0 := by simp at hi; exact hi
      subst h0
      exact HVp.out)
  clear hB hne
  have cHZ := HZ.out.2.1
  go_wp2_with fail
  clear hE1 hL8 hL9 c3
  refine (vboxes_calls _ [([(l.length : Int)], C)] _ HARR.out (by simp) HBS.out).mono ?_
  clear cHZ
  rintro e W5 ⟨x, rfl, hu0, hB⟩
  rw [HBB.out] at hu0
  have hu := hu0.nbk (ok' := fun b => ok1 b ∨ W4.heap.size ≤ b) (fun b _ h => h.imp (fun h => h.1) id)
  clear hu0
  have stx := hu.store
  have shx := Lib.hid hu.shape
  have HX := Lib.hid (hu.nbw (ok' := ok1) (fun b _ h => h.elim id (HFR.out b)))
  clear hu
  replace HT := Lib.hid (fun j hj => keep_below hB _ _ (HT.out j hj))
  replace HS1 := Lib.hid (HS1.out.below hB)
  replace HV := Lib.hid (HV.out.grow hB)
  replace HVp := Lib.hid (HVp.out.grow hB)
  replace HZ := Lib.hid (HZ.out.below hB)
  replace HSH := Lib.hid (HSH.out.below hB)
  replace HARR := Lib.hid (HARR.out.grow hB)
  replace HB := Lib.hid (HB.out.trans (hB.mono HB.out.size))
  replace HFR := Lib.hid (fun b h => HFR.out b (Nat.le_trans hB.size h))
  clear hB
  have cHZ := HZ.out.2.1
  clear HVp HSH HARR
  obtain ⟨W6, hWn⟩ : ∃ X, (W5.alloc (.cells #[x] 27)) = X := ⟨_, rfl⟩
  have hB : Below W5.heap.size W5 W6 := by rw [← hWn]; exact below_new _ _
  have hla : W5.heap.size ≤ W5.heap.size := by omega
  have hlb : W5.heap.size < W6.heap.size := by rw [← hWn]; simp; try omega
  have HXa := Lib.hid (show At1 W6 W5.heap.size (x) by rw [← hWn]; exact At1.new _ (x) 27)
  clear cHZ
  have NEHZHXa := Lib.hid (show W1.heap.size ≠ W5.heap.size by have := HZ.out.1; omega)
  have GEHXa := Lib.hid (show w.heap.size ≤ W5.heap.size from Nat.le_trans HB.out.size hla)
  obtain ⟨ok2, o1, o2, o3, o4⟩ := ok_step ok1 W5.heap.size W5.heap.size W6.heap.size HFR.out hla hlb
  replace HOKP := Lib.hid (fun b h => HOKP.out b (o1 b h))
  replace HFR := Lib.hid o3
  replace NOHZ := Lib.hid (fun h => NOHZ.out (o1 _ h))
  replace HT := Lib.hid (fun j hj => keep_below hB _ _ (HT.out j hj))
  replace HS1 := Lib.hid (HS1.out.below hB)
  replace HV := Lib.hid ((HV.out.nbw (fun b hb h => o2 b hb h)).grow hB)
  replace HZ := Lib.hid (HZ.out.below hB)
  replace HX := Lib.hid ((HX.out.nbw (fun b hb h => o2 b hb h)).grow hB)
  replace HB := Lib.hid (HB.out.trans (hB.mono HB.out.size))
  have NOHXa := Lib.hid o4
  clear o1 o2 o3 o4
  clear hla hlb hB
  have IOHXa : Hid (IsIface (x)) := Lib.hid (shx.out)
  have cHZ := HZ.out.2.1
  have cHXa := HXa.out.2.1
  
  have hE1 := hWn
  clear hWn
  go_wp2_with fail
  clear hE1
  refine (sinto_calls _ _ _ _ HV.out HCo.out HCn.out HT.out).mono ?_
  clear cHZ cHXa
  rintro e W7 ⟨y, rfl, hu, hB⟩
  rw [HF5.out]
  rw [others_into HCc.out (by rw [HCk.out]; exact fun e => HQ5.out e.symm)] at hu
  have sty := hu.store
  have shy := Lib.hid hu.shape
  have HY := Lib.hid (hu.nbw (ok' := ok2) (fun b _ h => h.elim id (HFR.out b)))
  clear hu
  replace HT := Lib.hid (fun j hj => keep_below hB _ _ (HT.out j hj))
  replace HS1 := Lib.hid (HS1.out.below hB)
  replace HV := Lib.hid (HV.out.grow hB)
  replace HZ := Lib.hid (HZ.out.below hB)
  replace HX := Lib.hid (HX.out.grow hB)
  replace HXa := Lib.hid (HXa.out.below hB)
  replace HB := Lib.hid (HB.out.trans (hB.mono HB.out.size))
  replace HFR := Lib.hid (fun b h => HFR.out b (Nat.le_trans hB.size h))
  clear hB
  have cHZ := HZ.out.2.1
  have cHXa := HXa.out.2.1
  have hy0 : y = .nilIface := by cases HY.out; rfl
  subst hy0
  obtain ⟨W8, hWn⟩ : ∃ X, (W7.alloc (.cells #[.nilIface] 27)) = X := ⟨_, rfl⟩
  have hB : Below W7.heap.size W7 W8 := by rw [← hWn]; exact below_new _ _
  have hla : W7.heap.size ≤ W7.heap.size := by omega
  have hlb : W7.heap.size < W8.heap.size := by rw [← hWn]; simp; try omega
  have HYa := Lib.hid (show At1 W8 W7.heap.size (.nilIface) by rw [← hWn]; exact At1.new _ (.nilIface) 27)
  clear cHZ cHXa
  have NEHZHYa := Lib.hid (show W1.heap.size ≠ W7.heap.size by have := HZ.out.1; omega)
  have NEHXaHYa := Lib.hid (show W5.heap.size ≠ W7.heap.size by have := HXa.out.1; omega)
  have GEHYa := Lib.hid (show w.heap.size ≤ W7.heap.size from Nat.le_trans HB.out.size hla)
  obtain ⟨ok3, o1, o2, o3, o4⟩ := ok_step ok2 W7.heap.size W7.heap.size W8.heap.size HFR.out hla hlb
  replace HOKP := Lib.hid (fun b h => HOKP.out b (o1 b h))
  replace HFR := Lib.hid o3
  replace NOHZ := Lib.hid (fun h => NOHZ.out (o1 _ h))
  replace NOHXa := Lib.hid (fun h => NOHXa.out (o1 _ h))
  replace HT := Lib.hid (fun j hj => keep_below hB _ _ (HT.out j hj))
  replace HS1 := Lib.hid (HS1.out.below hB)
  replace HV := Lib.hid ((HV.out.nbw (fun b hb h => o2 b hb h)).grow hB)
  replace HZ := Lib.hid (HZ.out.below hB)
  replace HX := Lib.hid ((HX.out.nbw (fun b hb h => o2 b hb h)).grow hB)
  replace HXa := Lib.hid (HXa.out.below hB)
  replace HY := Lib.hid ((HY.out.nbw (fun b hb h => o2 b hb h)).grow hB)
  replace HB := Lib.hid (HB.out.trans (hB.mono HB.out.size))
  have NOHYa := Lib.hid o4
  clear o1 o2 o3 o4
  clear hla hlb hB
  have IOHYa : Hid (IsIface (.nilIface)) := Lib.hid (.inl rfl)
  have cHZ := HZ.out.2.1
  have cHXa := HXa.out.2.1
  have cHYa := HYa.out.2.1
  
  have hE1 := hWn
  clear hWn
  have fHYa := HYa.out.2.2 0
  have neHZ := NEHZHYa.out
  have nfHZ := Ne.symm NEHZHYa.out
  have neHXa := NEHXaHYa.out
  have nfHXa := Ne.symm NEHXaHYa.out
  go_wp2_with fail
  clear neHZ nfHZ neHXa nfHXa
  clear hE1 fHYa
  obtain ⟨W9, hWn⟩ : ∃ X, W8.setCell ⟨W7.heap.size, 0, none⟩ (.nilIface) = X := ⟨_, rfl⟩
  have cHYa0 := HYa.out.2.1
  clear cHZ cHXa cHYa
  have hg : W8.grownBy W9 (some W7.heap.size) := by rw [← hWn]; exact grown_setCell _ _ _
  have hz : W9.heap.size = W8.heap.size := by rw [← hWn]; simp
  replace HT := Lib.hid (show TabAt W9 by rw [← hWn]; exact TabAt.setc HT.out cHYa0 IOHYa.out _)
  replace HS1 := Lib.hid (by have hq := Slc.setc HS1.out cHYa0 (by intro z hz; (first | (simp only [f64s, List.mem_map] at hz) | (simp only [i8s, List.mem_map] at hz) | (simp only [i32s, List.mem_map] at hz) | (simp only [Go.Proofs.YtnicoddkbcfijaaDoor.ints, List.mem_map] at hz) | (simp only [u64s, List.mem_map] at hz)); obtain ⟨q, _, rfl⟩ := hz; first | exact IOHYa.out.ne_int _ _ | exact IOHYa.out.ne_float _ _) (.nilIface); rw [hWn] at hq; exact hq)
  replace HV := Lib.hid (show IsV W9 _ _ _ by rw [← hWn]; exact HV.out.setw cHYa0 IOHYa.out NOHYa.out _)
  replace HZ := Lib.hid (HZ.out.grown hg (fun e => NEHZHYa.out (Option.some.inj e)))
  replace HX := Lib.hid (show IsV W9 _ _ _ by rw [← hWn]; exact HX.out.setw cHYa0 IOHYa.out NOHYa.out _)
  replace HXa := Lib.hid (HXa.out.grown hg (fun e => NEHXaHYa.out (Option.some.inj e)))
  replace HY := Lib.hid (show IsV W9 _ _ _ by rw [← hWn]; exact HY.out.setw cHYa0 IOHYa.out NOHYa.out _)
  replace HYa := Lib.hid (show At1 W9 W7.heap.size (.nilIface) by rw [← hWn]; exact HYa.out.set _)
  replace IOHYa : Hid (IsIface (.nilIface)) := Lib.hid (.inl rfl)
  replace HB := Lib.hid (show Below w.heap.size w W9 by rw [← hWn]; exact HB.out.setCell GEHYa.out _)
  replace HFR := Lib.hid (fun b h => HFR.out b (by rw [← hz]; exact h))
  have cHZ := HZ.out.2.1
  have cHXa := HXa.out.2.1
  have cHYa := HYa.out.2.1
  rw [hWn]
  clear hWn hg hz cHYa0
  try go_wp2_with fail
  refine (sinto_calls _ _ _ _ HX.out HBo.out HBn.out HT.out).mono ?_
  clear cHZ cHXa cHYa
  rintro e W10 ⟨z, rfl, hu, hB⟩
  rw [HF6.out]
  rw [show B.into kind = B by rw [HQ6.out, ← HBk.out]; exact VV.into_own B] at hu
  have stz := hu.store
  have shz := Lib.hid hu.shape
  have HZ1 := Lib.hid (hu.nbw (ok' := ok3) (fun b _ h => h.elim id (HFR.out b)))
  clear hu
  replace HT := Lib.hid (fun j hj => keep_below hB _ _ (HT.out j hj))
  replace HS1 := Lib.hid (HS1.out.below hB)
  replace HV := Lib.hid (HV.out.grow hB)
  replace HZ := Lib.hid (HZ.out.below hB)
  replace HX := Lib.hid (HX.out.grow hB)
  replace HXa := Lib.hid (HXa.out.below hB)
  replace HY := Lib.hid (HY.out.grow hB)
  replace HYa := Lib.hid (HYa.out.below hB)
  replace HB := Lib.hid (HB.out.trans (hB.mono HB.out.size))
  replace HFR := Lib.hid (fun b h => HFR.out b (Nat.le_trans hB.size h))
  clear hB
  have cHZ := HZ.out.2.1
  have cHXa := HXa.out.2.1
  have cHYa := HYa.out.2.1
  obtain ⟨W11, hWn⟩ : ∃ X, (W10.alloc (.cells #[z] 27)) = X := ⟨_, rfl⟩
  have hB : Below W10.heap.size W10 W11 := by rw [← hWn]; exact below_new _ _
  have hla : W10.heap.size ≤ W10.heap.size := by omega
  have hlb : W10.heap.size < W11.heap.size := by rw [← hWn]; simp; try omega
  have HZa := Lib.hid (show At1 W11 W10.heap.size (z) by rw [← hWn]; exact At1.new _ (z) 27)
  clear cHZ cHXa cHYa
  have NEHZHZa := Lib.hid (show W1.heap.size ≠ W10.heap.size by have := HZ.out.1; omega)
  have NEHXaHZa := Lib.hid (show W5.heap.size ≠ W10.heap.size by have := HXa.out.1; omega)
  have NEHYaHZa := Lib.hid (show W7.heap.size ≠ W10.heap.size by have := HYa.out.1; omega)
  have GEHZa := Lib.hid (show w.heap.size ≤ W10.heap.size from Nat.le_trans HB.out.size hla)
  obtain ⟨ok4, o1, o2, o3, o4⟩ := ok_step ok3 W10.heap.size W10.heap.size W11.heap.size HFR.out hla hlb
  replace HOKP := Lib.hid (fun b h => HOKP.out b (o1 b h))
  replace HFR := Lib.hid o3
  replace NOHZ := Lib.hid (fun h => NOHZ.out (o1 _ h))
  replace NOHXa := Lib.hid (fun h => NOHXa.out (o1 _ h))
  replace NOHYa := Lib.hid (fun h => NOHYa.out (o1 _ h))
  replace HT := Lib.hid (fun j hj => keep_below hB _ _ (HT.out j hj))
  replace HS1 := Lib.hid (HS1.out.below hB)
  replace HV := Lib.hid ((HV.out.nbw (fun b hb h => o2 b hb h)).grow hB)
  replace HZ := Lib.hid (HZ.out.below hB)
  replace HX := Lib.hid ((HX.out.nbw (fun b hb h => o2 b hb h)).grow hB)
  replace HXa := Lib.hid (HXa.out.below hB)
  replace HY := Lib.hid ((HY.out.nbw (fun b hb h => o2 b hb h)).grow hB)
  replace HYa := Lib.hid (HYa.out.below hB)
  replace HZ1 := Lib.hid ((HZ1.out.nbw (fun b hb h => o2 b hb h)).grow hB)
  replace HB := Lib.hid (HB.out.trans (hB.mono HB.out.size))
  have NOHZa := Lib.hid o4
  clear o1 o2 o3 o4
  clear hla hlb hB
  have IOHZa : Hid (IsIface (z)) := Lib.hid (shz.out)
  have cHZ := HZ.out.2.1
  have cHXa := HXa.out.2.1
  have cHYa := HYa.out.2.1
  have cHZa := HZa.out.2.1
  
  have hE1 := hWn
  clear hWn
  go_wp2_with fail
  clear hE1
  refine (squeeze_calls _ _ _ HV.out HCo.out HCn.out HT.out).mono ?_
  clear cHZ cHXa cHYa cHZa
  rintro e W12 ⟨s, rfl, hu, hB⟩
  rw [others_sq HCc.out] at hu
  have sts := hu.store
  have shs := Lib.hid hu.shape
  have HQ1 := Lib.hid (hu.nbw (ok' := ok4) (fun b _ h => h.elim id (HFR.out b)))
  clear hu
  replace HT := Lib.hid (fun j hj => keep_below hB _ _ (HT.out j hj))
  replace HS1 := Lib.hid (HS1.out.below hB)
  replace HV := Lib.hid (HV.out.grow hB)
  replace HZ := Lib.hid (HZ.out.below hB)
  replace HX := Lib.hid (HX.out.grow hB)
  replace HXa := Lib.hid (HXa.out.below hB)
  replace HY := Lib.hid (HY.out.grow hB)
  replace HYa := Lib.hid (HYa.out.below hB)
  replace HZ1 := Lib.hid (HZ1.out.grow hB)
  replace HZa := Lib.hid (HZa.out.below hB)
  replace HB := Lib.hid (HB.out.trans (hB.mono HB.out.size))
  replace HFR := Lib.hid (fun b h => HFR.out b (Nat.le_trans hB.size h))
  clear hB
  have cHZ := HZ.out.2.1
  have cHXa := HXa.out.2.1
  have cHYa := HYa.out.2.1
  have cHZa := HZa.out.2.1
  obtain ⟨W13, hWn⟩ : ∃ X, (W12.alloc (.cells #[s] 27)) = X := ⟨_, rfl⟩
  have hB : Below W12.heap.size W12 W13 := by rw [← hWn]; exact below_new _ _
  have hla : W12.heap.size ≤ W12.heap.size := by omega
  have hlb : W12.heap.size < W13.heap.size := by rw [← hWn]; simp; try omega
  have HQa := Lib.hid (show At1 W13 W12.heap.size (s) by rw [← hWn]; exact At1.new _ (s) 27)
  clear cHZ cHXa cHYa cHZa
  have NEHZHQa := Lib.hid (show W1.heap.size ≠ W12.heap.size by have := HZ.out.1; omega)
  have NEHXaHQa := Lib.hid (show W5.heap.size ≠ W12.heap.size by have := HXa.out.1; omega)
  have NEHYaHQa := Lib.hid (show W7.heap.size ≠ W12.heap.size by have := HYa.out.1; omega)
  have NEHZaHQa := Lib.hid (show W10.heap.size ≠ W12.heap.size by have := HZa.out.1; omega)
  have GEHQa := Lib.hid (show w.heap.size ≤ W12.heap.size from Nat.le_trans HB.out.size hla)
  obtain ⟨ok5, o1, o2, o3, o4⟩ := ok_step ok4 W12.heap.size W12.heap.size W13.heap.size HFR.out hla hlb
  replace HOKP := Lib.hid (fun b h => HOKP.out b (o1 b h))
  replace HFR := Lib.hid o3
  replace NOHZ := Lib.hid (fun h => NOHZ.out (o1 _ h))
  replace NOHXa := Lib.hid (fun h => NOHXa.out (o1 _ h))
  replace NOHYa := Lib.hid (fun h => NOHYa.out (o1 _ h))
  replace NOHZa := Lib.hid (fun h => NOHZa.out (o1 _ h))
  replace HT := Lib.hid (fun j hj => keep_below hB _ _ (HT.out j hj))
  replace HS1 := Lib.hid (HS1.out.below hB)
  replace HV := Lib.hid ((HV.out.nbw (fun b hb h => o2 b hb h)).grow hB)
  replace HZ := Lib.hid (HZ.out.below hB)
  replace HX := Lib.hid ((HX.out.nbw (fun b hb h => o2 b hb h)).grow hB)
  replace HXa := Lib.hid (HXa.out.below hB)
  replace HY := Lib.hid ((HY.out.nbw (fun b hb h => o2 b hb h)).grow hB)
  replace HYa := Lib.hid (HYa.out.below hB)
  replace HZ1 := Lib.hid ((HZ1.out.nbw (fun b hb h => o2 b hb h)).grow hB)
  replace HZa := Lib.hid (HZa.out.below hB)
  replace HQ1 := Lib.hid ((HQ1.out.nbw (fun b hb h => o2 b hb h)).grow hB)
  replace HB := Lib.hid (HB.out.trans (hB.mono HB.out.size))
  have NOHQa := Lib.hid o4
  clear o1 o2 o3 o4
  clear hla hlb hB
  have IOHQa : Hid (IsIface (s)) := Lib.hid (shs.out)
  have cHZ := HZ.out.2.1
  have cHXa := HXa.out.2.1
  have cHYa := HYa.out.2.1
  have cHZa := HZa.out.2.1
  have cHQa := HQa.out.2.1
  
  have hE1 := hWn
  clear hWn
  go_wp2_with fail
  clear hE1
  refine (kind_calls _ _ _ (.none (ok := fun _ => True))).mono ?_
  clear cHZ cHXa cHYa cHZa cHQa
  rintro e W14 ⟨rfl, hB⟩
  replace HT := Lib.hid (fun j hj => keep_below hB _ _ (HT.out j hj))
  replace HS1 := Lib.hid (HS1.out.below hB)
  replace HV := Lib.hid (HV.out.grow hB)
  replace HZ := Lib.hid (HZ.out.below hB)
  replace HX := Lib.hid (HX.out.grow hB)
  replace HXa := Lib.hid (HXa.out.below hB)
  replace HY := Lib.hid (HY.out.grow hB)
  replace HYa := Lib.hid (HYa.out.below hB)
  replace HZ1 := Lib.hid (HZ1.out.grow hB)
  replace HZa := Lib.hid (HZa.out.below hB)
  replace HQ1 := Lib.hid (HQ1.out.grow hB)
  replace HQa := Lib.hid (HQa.out.below hB)
  replace HB := Lib.hid (HB.out.trans (hB.mono HB.out.size))
  replace HFR := Lib.hid (fun b h => HFR.out b (Nat.le_trans hB.size h))
  clear hB
  have cHZ := HZ.out.2.1
  have cHXa := HXa.out.2.1
  have cHYa := HYa.out.2.1
  have cHZa := HZa.out.2.1
  have cHQa := HQa.out.2.1
  go_wp2_with fail
  refine (vtext_calls _ _ _ HQ1.out HCo.out).mono ?_
  clear cHZ cHXa cHYa cHZa cHQa
  rintro e W15 ⟨vt, rfl, hs, hB⟩
  replace HT := Lib.hid (fun j hj => keep_below hB _ _ (HT.out j hj))
  replace HS1 := Lib.hid (HS1.out.below hB)
  replace HV := Lib.hid (HV.out.grow hB)
  replace HZ := Lib.hid (HZ.out.below hB)
  replace HX := Lib.hid (HX.out.grow hB)
  replace HXa := Lib.hid (HXa.out.below hB)
  replace HY := Lib.hid (HY.out.grow hB)
  replace HYa := Lib.hid (HYa.out.below hB)
  replace HZ1 := Lib.hid (HZ1.out.grow hB)
  replace HZa := Lib.hid (HZa.out.below hB)
  replace HQ1 := Lib.hid (HQ1.out.grow hB)
  replace HQa := Lib.hid (HQa.out.below hB)
  replace HB := Lib.hid (HB.out.trans (hB.mono HB.out.size))
  replace HFR := Lib.hid (fun b h => HFR.out b (Nat.le_trans hB.size h))
  have HTX := Lib.hid (show Slc W15 _ vt l.length (i32s l) from by have := hs.any; rw [HCt.out] at this; exact this)
  clear hs
  clear hB
  have cHZ := HZ.out.2.1
  have cHXa := HXa.out.2.1
  have cHYa := HYa.out.2.1
  have cHZa := HZa.out.2.1
  have cHQa := HQa.out.2.1
  go_wp2_with fail
  refine (runes_same _ _ l _ HTX.out HS1.out HL.out).mono ?_
  clear cHZ cHXa cHYa cHZa cHQa
  rintro e W16 ⟨rfl, hB⟩
  replace HT := Lib.hid (fun j hj => keep_below hB _ _ (HT.out j hj))
  replace HS1 := Lib.hid (HS1.out.below hB)
  replace HV := Lib.hid (HV.out.grow hB)
  replace HZ := Lib.hid (HZ.out.below hB)
  replace HX := Lib.hid (HX.out.grow hB)
  replace HXa := Lib.hid (HXa.out.below hB)
  replace HY := Lib.hid (HY.out.grow hB)
  replace HYa := Lib.hid (HYa.out.below hB)
  replace HZ1 := Lib.hid (HZ1.out.grow hB)
  replace HZa := Lib.hid (HZa.out.below hB)
  replace HQ1 := Lib.hid (HQ1.out.grow hB)
  replace HQa := Lib.hid (HQa.out.below hB)
  replace HTX := Lib.hid (HTX.out.below hB)
  replace HB := Lib.hid (HB.out.trans (hB.mono HB.out.size))
  replace HFR := Lib.hid (fun b h => HFR.out b (Nat.le_trans hB.size h))
  clear hB
  have cHZ := HZ.out.2.1
  have cHXa := HXa.out.2.1
  have cHYa := HYa.out.2.1
  have cHZa := HZa.out.2.1
  have cHQa := HQa.out.2.1
  go_wp2_with fail
  refine (least_calls _ _ _ HV.out HCo.out HCn.out HT.out).mono ?_
  clear cHZ cHXa cHYa cHZa cHQa
  rintro e W17 ⟨rfl, hB⟩
  replace HT := Lib.hid (fun j hj => keep_below hB _ _ (HT.out j hj))
  replace HS1 := Lib.hid (HS1.out.below hB)
  replace HV := Lib.hid (HV.out.grow hB)
  replace HZ := Lib.hid (HZ.out.below hB)
  replace HX := Lib.hid (HX.out.grow hB)
  replace HXa := Lib.hid (HXa.out.below hB)
  replace HY := Lib.hid (HY.out.grow hB)
  replace HYa := Lib.hid (HYa.out.below hB)
  replace HZ1 := Lib.hid (HZ1.out.grow hB)
  replace HZa := Lib.hid (HZa.out.below hB)
  replace HQ1 := Lib.hid (HQ1.out.grow hB)
  replace HQa := Lib.hid (HQa.out.below hB)
  replace HTX := Lib.hid (HTX.out.below hB)
  replace HB := Lib.hid (HB.out.trans (hB.mono HB.out.size))
  replace HFR := Lib.hid (fun b h => HFR.out b (Nat.le_trans hB.size h))
  rw [VV.least_oth (.inr HCc.out), HCk.out]
  clear hB
  have cHZ := HZ.out.2.1
  have cHXa := HXa.out.2.1
  have cHYa := HYa.out.2.1
  have cHZa := HZa.out.2.1
  have cHQa := HQa.out.2.1
  go_wp2_with fail
  refine (squeeze_calls _ _ _ HX.out HBo.out HBn.out HT.out).mono ?_
  clear cHZ cHXa cHYa cHZa cHQa
  rintro e W18 ⟨p, rfl, hu, hB⟩
  rw [others_sq HBc.out] at hu
  have stp := hu.store
  have shp := Lib.hid hu.shape
  have HP := Lib.hid (hu.nbw (ok' := ok5) (fun b _ h => h.elim id (HFR.out b)))
  clear hu
  replace HT := Lib.hid (fun j hj => keep_below hB _ _ (HT.out j hj))
  replace HS1 := Lib.hid (HS1.out.below hB)
  replace HV := Lib.hid (HV.out.grow hB)
  replace HZ := Lib.hid (HZ.out.below hB)
  replace HX := Lib.hid (HX.out.grow hB)
  replace HXa := Lib.hid (HXa.out.below hB)
  replace HY := Lib.hid (HY.out.grow hB)
  replace HYa := Lib.hid (HYa.out.below hB)
  replace HZ1 := Lib.hid (HZ1.out.grow hB)
  replace HZa := Lib.hid (HZa.out.below hB)
  replace HQ1 := Lib.hid (HQ1.out.grow hB)
  replace HQa := Lib.hid (HQa.out.below hB)
  replace HTX := Lib.hid (HTX.out.below hB)
  replace HB := Lib.hid (HB.out.trans (hB.mono HB.out.size))
  replace HFR := Lib.hid (fun b h => HFR.out b (Nat.le_trans hB.size h))
  clear hB
  have cHZ := HZ.out.2.1
  have cHXa := HXa.out.2.1
  have cHYa := HYa.out.2.1
  have cHZa := HZa.out.2.1
  have cHQa := HQa.out.2.1
  go_wp2_with fail
  refine (vlen_calls _ _ _ HP.out).mono ?_
  clear cHZ cHXa cHYa cHZa cHQa
  rintro e W19 ⟨rfl, hB⟩
  replace HT := Lib.hid (fun j hj => keep_below hB _ _ (HT.out j hj))
  replace HS1 := Lib.hid (HS1.out.below hB)
  replace HV := Lib.hid (HV.out.grow hB)
  replace HZ := Lib.hid (HZ.out.below hB)
  replace HX := Lib.hid (HX.out.grow hB)
  replace HXa := Lib.hid (HXa.out.below hB)
  replace HY := Lib.hid (HY.out.grow hB)
  replace HYa := Lib.hid (HYa.out.below hB)
  replace HZ1 := Lib.hid (HZ1.out.grow hB)
  replace HZa := Lib.hid (HZa.out.below hB)
  replace HQ1 := Lib.hid (HQ1.out.grow hB)
  replace HQa := Lib.hid (HQa.out.below hB)
  replace HTX := Lib.hid (HTX.out.below hB)
  replace HP := Lib.hid (HP.out.grow hB)
  replace HB := Lib.hid (HB.out.trans (hB.mono HB.out.size))
  replace HFR := Lib.hid (fun b h => HFR.out b (Nat.le_trans hB.size h))
  rw [HBl.out]
  clear hB
  have cHZ := HZ.out.2.1
  have cHXa := HXa.out.2.1
  have cHYa := HYa.out.2.1
  have cHZa := HZa.out.2.1
  have cHQa := HQa.out.2.1
  go_wp2_with fail
  refine (tight_calls _ _ _ HX.out HBo.out HBn.out HT.out).mono ?_
  clear cHZ cHXa cHYa cHZa cHQa
  rintro e W20 ⟨rfl, hB⟩
  replace HT := Lib.hid (fun j hj => keep_below hB _ _ (HT.out j hj))
  replace HS1 := Lib.hid (HS1.out.below hB)
  replace HV := Lib.hid (HV.out.grow hB)
  replace HZ := Lib.hid (HZ.out.below hB)
  replace HX := Lib.hid (HX.out.grow hB)
  replace HXa := Lib.hid (HXa.out.below hB)
  replace HY := Lib.hid (HY.out.grow hB)
  replace HYa := Lib.hid (HYa.out.below hB)
  replace HZ1 := Lib.hid (HZ1.out.grow hB)
  replace HZa := Lib.hid (HZa.out.below hB)
  replace HQ1 := Lib.hid (HQ1.out.grow hB)
  replace HQa := Lib.hid (HQa.out.below hB)
  replace HTX := Lib.hid (HTX.out.below hB)
  replace HP := Lib.hid (HP.out.grow hB)
  replace HB := Lib.hid (HB.out.trans (hB.mono HB.out.size))
  replace HFR := Lib.hid (fun b h => HFR.out b (Nat.le_trans hB.size h))
  rw [others_tight HBc.out]
  clear hB
  have cHZ := HZ.out.2.1
  have cHXa := HXa.out.2.1
  have cHYa := HYa.out.2.1
  have cHZa := HZa.out.2.1
  have cHQa := HQa.out.2.1
  go_wp2_with fail
  refine (tight_calls _ _ _ HV.out HCo.out HCn.out HT.out).mono ?_
  clear cHZ cHXa cHYa cHZa cHQa
  rintro e W21 ⟨rfl, hB⟩
  replace HT := Lib.hid (fun j hj => keep_below hB _ _ (HT.out j hj))
  replace HS1 := Lib.hid (HS1.out.below hB)
  replace HV := Lib.hid (HV.out.grow hB)
  replace HZ := Lib.hid (HZ.out.below hB)
  replace HX := Lib.hid (HX.out.grow hB)
  replace HXa := Lib.hid (HXa.out.below hB)
  replace HY := Lib.hid (HY.out.grow hB)
  replace HYa := Lib.hid (HYa.out.below hB)
  replace HZ1 := Lib.hid (HZ1.out.grow hB)
  replace HZa := Lib.hid (HZa.out.below hB)
  replace HQ1 := Lib.hid (HQ1.out.grow hB)
  replace HQa := Lib.hid (HQa.out.below hB)
  replace HTX := Lib.hid (HTX.out.below hB)
  replace HP := Lib.hid (HP.out.grow hB)
  replace HB := Lib.hid (HB.out.trans (hB.mono HB.out.size))
  replace HFR := Lib.hid (fun b h => HFR.out b (Nat.le_trans hB.size h))
  rw [others_tight HCc.out]
  clear hB
  have cHZ := HZ.out.2.1
  have cHXa := HXa.out.2.1
  have cHYa := HYa.out.2.1
  have cHZa := HZa.out.2.1
  have cHQa := HQa.out.2.1
  go_wp2_with fail
  refine (awake5_calls _ HT.out).mono ?_
  clear cHZ cHXa cHYa cHZa cHQa
  rintro e W22 ⟨rfl, hB⟩
  replace HT := Lib.hid (fun j hj => keep_below hB _ _ (HT.out j hj))
  replace HS1 := Lib.hid (HS1.out.below hB)
  replace HV := Lib.hid (HV.out.grow hB)
  replace HZ := Lib.hid (HZ.out.below hB)
  replace HX := Lib.hid (HX.out.grow hB)
  replace HXa := Lib.hid (HXa.out.below hB)
  replace HY := Lib.hid (HY.out.grow hB)
  replace HYa := Lib.hid (HYa.out.below hB)
  replace HZ1 := Lib.hid (HZ1.out.grow hB)
  replace HZa := Lib.hid (HZa.out.below hB)
  replace HQ1 := Lib.hid (HQ1.out.grow hB)
  replace HQa := Lib.hid (HQa.out.below hB)
  replace HTX := Lib.hid (HTX.out.below hB)
  replace HP := Lib.hid (HP.out.grow hB)
  replace HB := Lib.hid (HB.out.trans (hB.mono HB.out.size))
  replace HFR := Lib.hid (fun b h => HFR.out b (Nat.le_trans hB.size h))
  clear hB
  have cHZ := HZ.out.2.1
  have cHXa := HXa.out.2.1
  have cHYa := HYa.out.2.1
  have cHZa := HZa.out.2.1
  have cHQa := HQa.out.2.1
  go_wp2
  go_ret
  exact ⟨rfl, HB.out⟩

set_option maxHeartbeats 8000000 in
theorem sqOthers_00 (w : World) (v1 : Value) (l : List Int) (kind : Int) (HS1 : Hid (Slc w (fun _ => True) v1 l.length (i32s l))) (HT : Hid (TabAt w)) (hl1 : l.length ≤ 200) (h5 : kind ≠ 5) (h6 : kind ≠ 6) :
    Calls Tryd.prog 5 #[v1, .int .i64 kind] w fun e w' => e = .returned (.bool true) ∧ Below w.heap.size w w' := by
  have HL := Lib.hid (show l.length ≤ 2000000 by omega)
  have HOK : Hid ((VV.chars l).ok) := Lib.hid (show l.length ≤ 1048576 by omega)
  have HN : Hid ((VV.chars l).nm) := Lib.hid trivial
  obtain ⟨C, hCC⟩ : ∃ C, VV.chars l = C := ⟨_, rfl⟩
  have HCk := Lib.hid (show C.kind = 5 by rw [← hCC]; rfl)
  have HCc := Lib.hid (show C.cls ≠ 0 by rw [← hCC]; show (1 : Int) ≠ 0; decide)
  have HCt := Lib.hid (show C.text = l by rw [← hCC]; rfl)
  have HCe := Lib.hid hCC
  have HCo := Lib.hid (show C.ok by rw [← hCC]; exact HOK.out)
  have HCn := Lib.hid (show C.nm by rw [← hCC]; trivial)
  have HBS : Hid (∀ p ∈ [([(l.length : Int)], C)], p.1.length ≤ 1048576) := Lib.hid (by intro p hp; simp at hp; subst hp; simp)
  obtain ⟨B, hBB⟩ : ∃ B, VV.boxes [([(l.length : Int)], C)] = B := ⟨_, rfl⟩
  have HBB := Lib.hid hBB
  have HBk := Lib.hid (show B.kind = 6 by rw [← hBB]; rfl)
  have HBc := Lib.hid (show B.cls ≠ 0 by rw [← hBB]; show (2 : Int) ≠ 0; decide)
  have HBo := Lib.hid (show B.ok by rw [← hBB]; exact ⟨by simp, HBS.out⟩)
  have HBn := Lib.hid (show B.nm by rw [← hBB]; trivial)
  have HBl := Lib.hid (show B.len = 1 by rw [← hBB]; rfl)
  have HF5 := Lib.hid (show C.fit kind = false by rw [others_fit HCc.out, HCk.out]; simp; omega)
  have HF6 := Lib.hid (show B.fit kind = false by rw [others_fit HBc.out, HBk.out]; simp; omega)
  clear hBB hCC
  have q5 : (kind == 5) = false := by simpa using h5
  have q6 : (kind == 6) = false := by simpa using h6
  have HQ5 := Lib.hid h5
  have HQ6 := Lib.hid h6
  clear h5 h6
  have HB := Lib.hid (Below.refl w.heap.size w)
  obtain ⟨ao1, cap1, rfl, _⟩ := HS1.out.opened
  obtain ⟨ok0, hok0⟩ : ∃ o : Nat → Prop, o = fun b => w.heap.size ≤ b := ⟨_, rfl⟩
  have HOKP := Lib.hid (show ∀ b, ok0 b → w.heap.size ≤ b by rw [hok0]; exact fun b h => h)
  have HFR := Lib.hid (show ∀ b, w.heap.size ≤ b → ok0 b by rw [hok0]; exact fun b h => h)
  clear hok0
  go_enter Tryd.func5, Tryd.ntmps5
  go_wp2_with fail
  refine (vchars_calls _ l _ HS1.out HL.out).mono ?_
  rintro e W1 ⟨u, rfl, hu0, hB⟩
  rw [HCe.out] at hu0
  have hu := hu0.nbk (ok' := fun b => w.heap.size ≤ b) (fun b _ h => h)
  have HVp := Lib.hid (hu0.wide (ok' := ok0) (fun b _ h => HFR.out b h))
  clear hu0
  have stu := hu.store
  have shu := Lib.hid hu.shape
  have HV := Lib.hid (hu.nbw (ok' := ok0) (fun b _ h => HFR.out b h))
  clear hu
  replace HT := Lib.hid (fun j hj => keep_below hB _ _ (HT.out j hj))
  replace HS1 := Lib.hid (HS1.out.below hB)
  replace HB := Lib.hid (HB.out.trans (hB.mono HB.out.size))
  replace HFR := Lib.hid (fun b h => HFR.out b (Nat.le_trans hB.size h))
  clear hB
  obtain ⟨W2, hWn⟩ : ∃ X, (W1.alloc (.cells #[u] 27)) = X := ⟨_, rfl⟩
  have hB : Below W1.heap.size W1 W2 := by rw [← hWn]; exact below_new _ _
  have hla : W1.heap.size ≤ W1.heap.size := by omega
  have hlb : W1.heap.size < W2.heap.size := by rw [← hWn]; simp; try omega
  have HZ := Lib.hid (show At1 W2 W1.heap.size (u) by rw [← hWn]; exact At1.new _ (u) 27)
  have GEHZ := Lib.hid (show w.heap.size ≤ W1.heap.size from Nat.le_trans HB.out.size hla)
  obtain ⟨ok1, o1, o2, o3, o4⟩ := ok_step ok0 W1.heap.size W1.heap.size W2.heap.size HFR.out hla hlb
  replace HOKP := Lib.hid (fun b h => HOKP.out b (o1 b h))
  replace HFR := Lib.hid o3
  replace HT := Lib.hid (fun j hj => keep_below hB _ _ (HT.out j hj))
  replace HS1 := Lib.hid (HS1.out.below hB)
  replace HV := Lib.hid ((HV.out.nbw (fun b hb h => o2 b hb h)).grow hB)
  replace HVp := Lib.hid ((HVp.out.wide (fun b hb h => o2 b hb h)).grow hB)
  replace HB := Lib.hid (HB.out.trans (hB.mono HB.out.size))
  have NOHZ := Lib.hid o4
  clear o1 o2 o3 o4
  clear hla hlb hB
  have IOHZ : Hid (IsIface (u)) := Lib.hid (shu.out)
  have cHZ := HZ.out.2.1
  
  have hE1 := hWn
  clear hWn
  have HFR2 := HFR
  obtain ⟨W3, hL8⟩ : ∃ X, (W2.alloc (.cells #[.int .i64 (l.length : Int)] 3)) = X := ⟨_, rfl⟩
  have hB : Below W2.heap.size W2 W3 := by rw [← hL8]; exact below_new _ _
  have HSHa := Lib.hid (show Slc W3 (fun _ => True) (.slice (some ⟨W2.heap.size, 0, none⟩) 1 1) 1 (ints [(l.length : Int)]) by rw [← hL8]; exact (Slc.owned (World.ownsRow_lit (base := W2.heap.size) (e := 3) (size := 1) W2 #[.int .i64 (l.length : Int)] 1 (Nat.le_refl _) (by unfold maxLen; omega) rfl)).any)
  clear cHZ
  replace HT := Lib.hid (fun j hj => keep_below hB _ _ (HT.out j hj))
  replace HS1 := Lib.hid (HS1.out.below hB)
  replace HV := Lib.hid (HV.out.grow hB)
  replace HVp := Lib.hid (HVp.out.grow hB)
  replace HZ := Lib.hid (HZ.out.below hB)
  replace HB := Lib.hid (HB.out.trans (hB.mono HB.out.size))
  replace HFR := Lib.hid (fun b h => HFR.out b (Nat.le_trans hB.size h))
  clear hB
  have cHZ := HZ.out.2.1
  have HSH := Lib.hid (show Slc W3 (ok1) (.slice (some ⟨W2.heap.size, 0, none⟩) 1 1) 1 (ints [(l.length : Int)]) by
    rw [← hL8]
    exact (Slc.owned (World.ownsRow_lit (base := W2.heap.size) (e := 3) (size := 1) W2 #[.int .i64 (l.length : Int)] 1 (Nat.le_refl _) (by unfold maxLen; omega) rfl)).keep (Kept.refl _ _) (fun b _ h => HFR2.out b h))
  obtain ⟨W4, hL9⟩ : ∃ X, (W3.alloc (.cells #[.slice (some ⟨W2.heap.size, 0, none⟩) 1 1, u] 46)) = X := ⟨_, rfl⟩
  have hB : Below W3.heap.size W3 W4 := by rw [← hL9]; exact below_new _ _
  have hne : ok1 W3.heap.size := HFR.out _ (Nat.le_refl _)
  have c3 := HZ.out.2.1
  clear cHZ
  replace HT := Lib.hid (fun j hj => keep_below hB _ _ (HT.out j hj))
  replace HS1 := Lib.hid (HS1.out.below hB)
  replace HV := Lib.hid (HV.out.grow hB)
  replace HVp := Lib.hid (HVp.out.grow hB)
  replace HZ := Lib.hid (HZ.out.below hB)
  replace HSH := Lib.hid (HSH.out.below hB)
  replace HB := Lib.hid (HB.out.trans (hB.mono HB.out.size))
  replace HFR := Lib.hid (fun b h => HFR.out b (Nat.le_trans hB.size h))
  have HARR := Lib.hid (show Arrs W4 ok1 (.slice (some ⟨W3.heap.size, 0, none⟩) 1 1) [([(l.length : Int)], C)] by
    have hA := At2.new W3 (.slice (some ⟨W2.heap.size, 0, none⟩) 1 1) u 46
    rw [hL9] at hA
    refine ⟨_, _, fun _ => .slice (some ⟨W2.heap.size, 0, none⟩) 1 1, fun _ => u, rfl, Nat.le_refl _, by unfold maxLen; decide, fun i hi => ?_, fun i hi => ?_, fun i hi => ?_⟩
    · have h0 : i = 0 := by simp at hi; exact hi
      subst h0
      exact ⟨_, _, rfl, hne, hA.2.1, hA.2.2.1⟩
    · have h0 : i = 0 := by simp at hi; exact hi
      subst h0
      exact HSH.out
    · have h0 : i = 0 := by simp at hi; exact hi
      subst h0
      exact HVp.out)
  clear hB hne
  have cHZ := HZ.out.2.1
  go_wp2_with fail
  clear hE1 hL8 hL9 c3
  refine (vboxes_calls _ [([(l.length : Int)], C)] _ HARR.out (by simp) HBS.out).mono ?_
  clear cHZ
  rintro e W5 ⟨x, rfl, hu0, hB⟩
  rw [HBB.out] at hu0
  have hu := hu0.nbk (ok' := fun b => ok1 b ∨ W4.heap.size ≤ b) (fun b _ h => h.imp (fun h => h.1) id)
  clear hu0
  have stx := hu.store
  have shx := Lib.hid hu.shape
  have HX := Lib.hid (hu.nbw (ok' := ok1) (fun b _ h => h.elim id (HFR.out b)))
  clear hu
  replace HT := Lib.hid (fun j hj => keep_below hB _ _ (HT.out j hj))
  replace HS1 := Lib.hid (HS1.out.below hB)
  replace HV := Lib.hid (HV.out.grow hB)
  replace HVp := Lib.hid (HVp.out.grow hB)
  replace HZ := Lib.hid (HZ.out.below hB)
  replace HSH := Lib.hid (HSH.out.below hB)
  replace HARR := Lib.hid (HARR.out.grow hB)
  replace HB := Lib.hid (HB.out.trans (hB.mono HB.out.size))
  replace HFR := Lib.hid (fun b h => HFR.out b (Nat.le_trans hB.size h))
  clear hB
  have cHZ := HZ.out.2.1
  clear HVp HSH HARR
  obtain ⟨W6, hWn⟩ : ∃ X, (W5.alloc (.cells #[x] 27)) = X := ⟨_, rfl⟩
  have hB : Below W5.heap.size W5 W6 := by rw [← hWn]; exact below_new _ _
  have hla : W5.heap.size ≤ W5.heap.size := by omega
  have hlb : W5.heap.size < W6.heap.size := by rw [← hWn]; simp; try omega
  have HXa := Lib.hid (show At1 W6 W5.heap.size (x) by rw [← hWn]; exact At1.new _ (x) 27)
  clear cHZ
  have NEHZHXa := Lib.hid (show W1.heap.size ≠ W5.heap.size by have := HZ.out.1; omega)
  have GEHXa := Lib.hid (show w.heap.size ≤ W5.heap.size from Nat.le_trans HB.out.size hla)
  obtain ⟨ok2, o1, o2, o3, o4⟩ := ok_step ok1 W5.heap.size W5.heap.size W6.heap.size HFR.out hla hlb
  replace HOKP := Lib.hid (fun b h => HOKP.out b (o1 b h))
  replace HFR := Lib.hid o3
  replace NOHZ := Lib.hid (fun h => NOHZ.out (o1 _ h))
  replace HT := Lib.hid (fun j hj => keep_below hB _ _ (HT.out j hj))
  replace HS1 := Lib.hid (HS1.out.below hB)
  replace HV := Lib.hid ((HV.out.nbw (fun b hb h => o2 b hb h)).grow hB)
  replace HZ := Lib.hid (HZ.out.below hB)
  replace HX := Lib.hid ((HX.out.nbw (fun b hb h => o2 b hb h)).grow hB)
  replace HB := Lib.hid (HB.out.trans (hB.mono HB.out.size))
  have NOHXa := Lib.hid o4
  clear o1 o2 o3 o4
  clear hla hlb hB
  have IOHXa : Hid (IsIface (x)) := Lib.hid (shx.out)
  have cHZ := HZ.out.2.1
  have cHXa := HXa.out.2.1
  
  have hE1 := hWn
  clear hWn
  go_wp2_with fail
  clear hE1
  refine (sinto_calls _ _ _ _ HV.out HCo.out HCn.out HT.out).mono ?_
  clear cHZ cHXa
  rintro e W7 ⟨y, rfl, hu, hB⟩
  rw [HF5.out]
  rw [others_into HCc.out (by rw [HCk.out]; exact fun e => HQ5.out e.symm)] at hu
  have sty := hu.store
  have shy := Lib.hid hu.shape
  have HY := Lib.hid (hu.nbw (ok' := ok2) (fun b _ h => h.elim id (HFR.out b)))
  clear hu
  replace HT := Lib.hid (fun j hj => keep_below hB _ _ (HT.out j hj))
  replace HS1 := Lib.hid (HS1.out.below hB)
  replace HV := Lib.hid (HV.out.grow hB)
  replace HZ := Lib.hid (HZ.out.below hB)
  replace HX := Lib.hid (HX.out.grow hB)
  replace HXa := Lib.hid (HXa.out.below hB)
  replace HB := Lib.hid (HB.out.trans (hB.mono HB.out.size))
  replace HFR := Lib.hid (fun b h => HFR.out b (Nat.le_trans hB.size h))
  clear hB
  have cHZ := HZ.out.2.1
  have cHXa := HXa.out.2.1
  have hy0 : y = .nilIface := by cases HY.out; rfl
  subst hy0
  obtain ⟨W8, hWn⟩ : ∃ X, (W7.alloc (.cells #[.nilIface] 27)) = X := ⟨_, rfl⟩
  have hB : Below W7.heap.size W7 W8 := by rw [← hWn]; exact below_new _ _
  have hla : W7.heap.size ≤ W7.heap.size := by omega
  have hlb : W7.heap.size < W8.heap.size := by rw [← hWn]; simp; try omega
  have HYa := Lib.hid (show At1 W8 W7.heap.size (.nilIface) by rw [← hWn]; exact At1.new _ (.nilIface) 27)
  clear cHZ cHXa
  have NEHZHYa := Lib.hid (show W1.heap.size ≠ W7.heap.size by have := HZ.out.1; omega)
  have NEHXaHYa := Lib.hid (show W5.heap.size ≠ W7.heap.size by have := HXa.out.1; omega)
  have GEHYa := Lib.hid (show w.heap.size ≤ W7.heap.size from Nat.le_trans HB.out.size hla)
  obtain ⟨ok3, o1, o2, o3, o4⟩ := ok_step ok2 W7.heap.size W7.heap.size W8.heap.size HFR.out hla hlb
  replace HOKP := Lib.hid (fun b h => HOKP.out b (o1 b h))
  replace HFR := Lib.hid o3
  replace NOHZ := Lib.hid (fun h => NOHZ.out (o1 _ h))
  replace NOHXa := Lib.hid (fun h => NOHXa.out (o1 _ h))
  replace HT := Lib.hid (fun j hj => keep_below hB _ _ (HT.out j hj))
  replace HS1 := Lib.hid (HS1.out.below hB)
  replace HV := Lib.hid ((HV.out.nbw (fun b hb h => o2 b hb h)).grow hB)
  replace HZ := Lib.hid (HZ.out.below hB)
  replace HX := Lib.hid ((HX.out.nbw (fun b hb h => o2 b hb h)).grow hB)
  replace HXa := Lib.hid (HXa.out.below hB)
  replace HY := Lib.hid ((HY.out.nbw (fun b hb h => o2 b hb h)).grow hB)
  replace HB := Lib.hid (HB.out.trans (hB.mono HB.out.size))
  have NOHYa := Lib.hid o4
  clear o1 o2 o3 o4
  clear hla hlb hB
  have IOHYa : Hid (IsIface (.nilIface)) := Lib.hid (.inl rfl)
  have cHZ := HZ.out.2.1
  have cHXa := HXa.out.2.1
  have cHYa := HYa.out.2.1
  
  have hE1 := hWn
  clear hWn
  have fHYa := HYa.out.2.2 0
  have neHZ := NEHZHYa.out
  have nfHZ := Ne.symm NEHZHYa.out
  have neHXa := NEHXaHYa.out
  have nfHXa := Ne.symm NEHXaHYa.out
  go_wp2_with fail
  clear neHZ nfHZ neHXa nfHXa
  clear hE1 fHYa
  obtain ⟨W9, hWn⟩ : ∃ X, W8.setCell ⟨W7.heap.size, 0, none⟩ (.nilIface) = X := ⟨_, rfl⟩
  have cHYa0 := HYa.out.2.1
  clear cHZ cHXa cHYa
  have hg : W8.grownBy W9 (some W7.heap.size) := by rw [← hWn]; exact grown_setCell _ _ _
  have hz : W9.heap.size = W8.heap.size := by rw [← hWn]; simp
  replace HT := Lib.hid (show TabAt W9 by rw [← hWn]; exact TabAt.setc HT.out cHYa0 IOHYa.out _)
  replace HS1 := Lib.hid (by have hq := Slc.setc HS1.out cHYa0 (by intro z hz; (first | (simp only [f64s, List.mem_map] at hz) | (simp only [i8s, List.mem_map] at hz) | (simp only [i32s, List.mem_map] at hz) | (simp only [Go.Proofs.YtnicoddkbcfijaaDoor.ints, List.mem_map] at hz) | (simp only [u64s, List.mem_map] at hz)); obtain ⟨q, _, rfl⟩ := hz; first | exact IOHYa.out.ne_int _ _ | exact IOHYa.out.ne_float _ _) (.nilIface); rw [hWn] at hq; exact hq)
  replace HV := Lib.hid (show IsV W9 _ _ _ by rw [← hWn]; exact HV.out.setw cHYa0 IOHYa.out NOHYa.out _)
  replace HZ := Lib.hid (HZ.out.grown hg (fun e => NEHZHYa.out (Option.some.inj e)))
  replace HX := Lib.hid (show IsV W9 _ _ _ by rw [← hWn]; exact HX.out.setw cHYa0 IOHYa.out NOHYa.out _)
  replace HXa := Lib.hid (HXa.out.grown hg (fun e => NEHXaHYa.out (Option.some.inj e)))
  replace HY := Lib.hid (show IsV W9 _ _ _ by rw [← hWn]; exact HY.out.setw cHYa0 IOHYa.out NOHYa.out _)
  replace HYa := Lib.hid (show At1 W9 W7.heap.size (.nilIface) by rw [← hWn]; exact HYa.out.set _)
  replace IOHYa : Hid (IsIface (.nilIface)) := Lib.hid (.inl rfl)
  replace HB := Lib.hid (show Below w.heap.size w W9 by rw [← hWn]; exact HB.out.setCell GEHYa.out _)
  replace HFR := Lib.hid (fun b h => HFR.out b (by rw [← hz]; exact h))
  have cHZ := HZ.out.2.1
  have cHXa := HXa.out.2.1
  have cHYa := HYa.out.2.1
  rw [hWn]
  clear hWn hg hz cHYa0
  try go_wp2_with fail
  refine (sinto_calls _ _ _ _ HX.out HBo.out HBn.out HT.out).mono ?_
  clear cHZ cHXa cHYa
  rintro e W10 ⟨z, rfl, hu, hB⟩
  rw [HF6.out]
  rw [others_into HBc.out (by rw [HBk.out]; exact fun e => HQ6.out e.symm)] at hu
  have stz := hu.store
  have shz := Lib.hid hu.shape
  have HZ1 := Lib.hid (hu.nbw (ok' := ok3) (fun b _ h => h.elim id (HFR.out b)))
  clear hu
  replace HT := Lib.hid (fun j hj => keep_below hB _ _ (HT.out j hj))
  replace HS1 := Lib.hid (HS1.out.below hB)
  replace HV := Lib.hid (HV.out.grow hB)
  replace HZ := Lib.hid (HZ.out.below hB)
  replace HX := Lib.hid (HX.out.grow hB)
  replace HXa := Lib.hid (HXa.out.below hB)
  replace HY := Lib.hid (HY.out.grow hB)
  replace HYa := Lib.hid (HYa.out.below hB)
  replace HB := Lib.hid (HB.out.trans (hB.mono HB.out.size))
  replace HFR := Lib.hid (fun b h => HFR.out b (Nat.le_trans hB.size h))
  clear hB
  have cHZ := HZ.out.2.1
  have cHXa := HXa.out.2.1
  have cHYa := HYa.out.2.1
  have hz0 : z = .nilIface := by cases HZ1.out; rfl
  subst hz0
  obtain ⟨W11, hWn⟩ : ∃ X, (W10.alloc (.cells #[.nilIface] 27)) = X := ⟨_, rfl⟩
  have hB : Below W10.heap.size W10 W11 := by rw [← hWn]; exact below_new _ _
  have hla : W10.heap.size ≤ W10.heap.size := by omega
  have hlb : W10.heap.size < W11.heap.size := by rw [← hWn]; simp; try omega
  have HZa := Lib.hid (show At1 W11 W10.heap.size (.nilIface) by rw [← hWn]; exact At1.new _ (.nilIface) 27)
  clear cHZ cHXa cHYa
  have NEHZHZa := Lib.hid (show W1.heap.size ≠ W10.heap.size by have := HZ.out.1; omega)
  have NEHXaHZa := Lib.hid (show W5.heap.size ≠ W10.heap.size by have := HXa.out.1; omega)
  have NEHYaHZa := Lib.hid (show W7.heap.size ≠ W10.heap.size by have := HYa.out.1; omega)
  have GEHZa := Lib.hid (show w.heap.size ≤ W10.heap.size from Nat.le_trans HB.out.size hla)
  obtain ⟨ok4, o1, o2, o3, o4⟩ := ok_step ok3 W10.heap.size W10.heap.size W11.heap.size HFR.out hla hlb
  replace HOKP := Lib.hid (fun b h => HOKP.out b (o1 b h))
  replace HFR := Lib.hid o3
  replace NOHZ := Lib.hid (fun h => NOHZ.out (o1 _ h))
  replace NOHXa := Lib.hid (fun h => NOHXa.out (o1 _ h))
  replace NOHYa := Lib.hid (fun h => NOHYa.out (o1 _ h))
  replace HT := Lib.hid (fun j hj => keep_below hB _ _ (HT.out j hj))
  replace HS1 := Lib.hid (HS1.out.below hB)
  replace HV := Lib.hid ((HV.out.nbw (fun b hb h => o2 b hb h)).grow hB)
  replace HZ := Lib.hid (HZ.out.below hB)
  replace HX := Lib.hid ((HX.out.nbw (fun b hb h => o2 b hb h)).grow hB)
  replace HXa := Lib.hid (HXa.out.below hB)
  replace HY := Lib.hid ((HY.out.nbw (fun b hb h => o2 b hb h)).grow hB)
  replace HYa := Lib.hid (HYa.out.below hB)
  replace HZ1 := Lib.hid ((HZ1.out.nbw (fun b hb h => o2 b hb h)).grow hB)
  replace HB := Lib.hid (HB.out.trans (hB.mono HB.out.size))
  have NOHZa := Lib.hid o4
  clear o1 o2 o3 o4
  clear hla hlb hB
  have IOHZa : Hid (IsIface (.nilIface)) := Lib.hid (.inl rfl)
  have cHZ := HZ.out.2.1
  have cHXa := HXa.out.2.1
  have cHYa := HYa.out.2.1
  have cHZa := HZa.out.2.1
  
  have hE1 := hWn
  clear hWn
  have fHZa := HZa.out.2.2 0
  have neHZ := NEHZHZa.out
  have nfHZ := Ne.symm NEHZHZa.out
  have neHXa := NEHXaHZa.out
  have nfHXa := Ne.symm NEHXaHZa.out
  have neHYa := NEHYaHZa.out
  have nfHYa := Ne.symm NEHYaHZa.out
  go_wp2_with fail
  clear neHZ nfHZ neHXa nfHXa neHYa nfHYa
  clear hE1 fHZa
  obtain ⟨W12, hWn⟩ : ∃ X, W11.setCell ⟨W10.heap.size, 0, none⟩ (.nilIface) = X := ⟨_, rfl⟩
  have cHZa0 := HZa.out.2.1
  clear cHZ cHXa cHYa cHZa
  have hg : W11.grownBy W12 (some W10.heap.size) := by rw [← hWn]; exact grown_setCell _ _ _
  have hz : W12.heap.size = W11.heap.size := by rw [← hWn]; simp
  replace HT := Lib.hid (show TabAt W12 by rw [← hWn]; exact TabAt.setc HT.out cHZa0 IOHZa.out _)
  replace HS1 := Lib.hid (by have hq := Slc.setc HS1.out cHZa0 (by intro z hz; (first | (simp only [f64s, List.mem_map] at hz) | (simp only [i8s, List.mem_map] at hz) | (simp only [i32s, List.mem_map] at hz) | (simp only [Go.Proofs.YtnicoddkbcfijaaDoor.ints, List.mem_map] at hz) | (simp only [u64s, List.mem_map] at hz)); obtain ⟨q, _, rfl⟩ := hz; first | exact IOHZa.out.ne_int _ _ | exact IOHZa.out.ne_float _ _) (.nilIface); rw [hWn] at hq; exact hq)
  replace HV := Lib.hid (show IsV W12 _ _ _ by rw [← hWn]; exact HV.out.setw cHZa0 IOHZa.out NOHZa.out _)
  replace HZ := Lib.hid (HZ.out.grown hg (fun e => NEHZHZa.out (Option.some.inj e)))
  replace HX := Lib.hid (show IsV W12 _ _ _ by rw [← hWn]; exact HX.out.setw cHZa0 IOHZa.out NOHZa.out _)
  replace HXa := Lib.hid (HXa.out.grown hg (fun e => NEHXaHZa.out (Option.some.inj e)))
  replace HY := Lib.hid (show IsV W12 _ _ _ by rw [← hWn]; exact HY.out.setw cHZa0 IOHZa.out NOHZa.out _)
  replace HYa := Lib.hid (HYa.out.grown hg (fun e => NEHYaHZa.out (Option.some.inj e)))
  replace HZ1 := Lib.hid (show IsV W12 _ _ _ by rw [← hWn]; exact HZ1.out.setw cHZa0 IOHZa.out NOHZa.out _)
  replace HZa := Lib.hid (show At1 W12 W10.heap.size (.nilIface) by rw [← hWn]; exact HZa.out.set _)
  replace IOHZa : Hid (IsIface (.nilIface)) := Lib.hid (.inl rfl)
  replace HB := Lib.hid (show Below w.heap.size w W12 by rw [← hWn]; exact HB.out.setCell GEHZa.out _)
  replace HFR := Lib.hid (fun b h => HFR.out b (by rw [← hz]; exact h))
  have cHZ := HZ.out.2.1
  have cHXa := HXa.out.2.1
  have cHYa := HYa.out.2.1
  have cHZa := HZa.out.2.1
  rw [hWn]
  clear hWn hg hz cHZa0
  try go_wp2_with fail
  refine (squeeze_calls _ _ _ HV.out HCo.out HCn.out HT.out).mono ?_
  clear cHZ cHXa cHYa cHZa
  rintro e W13 ⟨s, rfl, hu, hB⟩
  rw [others_sq HCc.out] at hu
  have sts := hu.store
  have shs := Lib.hid hu.shape
  have HQ1 := Lib.hid (hu.nbw (ok' := ok4) (fun b _ h => h.elim id (HFR.out b)))
  clear hu
  replace HT := Lib.hid (fun j hj => keep_below hB _ _ (HT.out j hj))
  replace HS1 := Lib.hid (HS1.out.below hB)
  replace HV := Lib.hid (HV.out.grow hB)
  replace HZ := Lib.hid (HZ.out.below hB)
  replace HX := Lib.hid (HX.out.grow hB)
  replace HXa := Lib.hid (HXa.out.below hB)
  replace HY := Lib.hid (HY.out.grow hB)
  replace HYa := Lib.hid (HYa.out.below hB)
  replace HZ1 := Lib.hid (HZ1.out.grow hB)
  replace HZa := Lib.hid (HZa.out.below hB)
  replace HB := Lib.hid (HB.out.trans (hB.mono HB.out.size))
  replace HFR := Lib.hid (fun b h => HFR.out b (Nat.le_trans hB.size h))
  clear hB
  have cHZ := HZ.out.2.1
  have cHXa := HXa.out.2.1
  have cHYa := HYa.out.2.1
  have cHZa := HZa.out.2.1
  obtain ⟨W14, hWn⟩ : ∃ X, (W13.alloc (.cells #[s] 27)) = X := ⟨_, rfl⟩
  have hB : Below W13.heap.size W13 W14 := by rw [← hWn]; exact below_new _ _
  have hla : W13.heap.size ≤ W13.heap.size := by omega
  have hlb : W13.heap.size < W14.heap.size := by rw [← hWn]; simp; try omega
  have HQa := Lib.hid (show At1 W14 W13.heap.size (s) by rw [← hWn]; exact At1.new _ (s) 27)
  clear cHZ cHXa cHYa cHZa
  have NEHZHQa := Lib.hid (show W1.heap.size ≠ W13.heap.size by have := HZ.out.1; omega)
  have NEHXaHQa := Lib.hid (show W5.heap.size ≠ W13.heap.size by have := HXa.out.1; omega)
  have NEHYaHQa := Lib.hid (show W7.heap.size ≠ W13.heap.size by have := HYa.out.1; omega)
  have NEHZaHQa := Lib.hid (show W10.heap.size ≠ W13.heap.size by have := HZa.out.1; omega)
  have GEHQa := Lib.hid (show w.heap.size ≤ W13.heap.size from Nat.le_trans HB.out.size hla)
  obtain ⟨ok5, o1, o2, o3, o4⟩ := ok_step ok4 W13.heap.size W13.heap.size W14.heap.size HFR.out hla hlb
  replace HOKP := Lib.hid (fun b h => HOKP.out b (o1 b h))
  replace HFR := Lib.hid o3
  replace NOHZ := Lib.hid (fun h => NOHZ.out (o1 _ h))
  replace NOHXa := Lib.hid (fun h => NOHXa.out (o1 _ h))
  replace NOHYa := Lib.hid (fun h => NOHYa.out (o1 _ h))
  replace NOHZa := Lib.hid (fun h => NOHZa.out (o1 _ h))
  replace HT := Lib.hid (fun j hj => keep_below hB _ _ (HT.out j hj))
  replace HS1 := Lib.hid (HS1.out.below hB)
  replace HV := Lib.hid ((HV.out.nbw (fun b hb h => o2 b hb h)).grow hB)
  replace HZ := Lib.hid (HZ.out.below hB)
  replace HX := Lib.hid ((HX.out.nbw (fun b hb h => o2 b hb h)).grow hB)
  replace HXa := Lib.hid (HXa.out.below hB)
  replace HY := Lib.hid ((HY.out.nbw (fun b hb h => o2 b hb h)).grow hB)
  replace HYa := Lib.hid (HYa.out.below hB)
  replace HZ1 := Lib.hid ((HZ1.out.nbw (fun b hb h => o2 b hb h)).grow hB)
  replace HZa := Lib.hid (HZa.out.below hB)
  replace HQ1 := Lib.hid ((HQ1.out.nbw (fun b hb h => o2 b hb h)).grow hB)
  replace HB := Lib.hid (HB.out.trans (hB.mono HB.out.size))
  have NOHQa := Lib.hid o4
  clear o1 o2 o3 o4
  clear hla hlb hB
  have IOHQa : Hid (IsIface (s)) := Lib.hid (shs.out)
  have cHZ := HZ.out.2.1
  have cHXa := HXa.out.2.1
  have cHYa := HYa.out.2.1
  have cHZa := HZa.out.2.1
  have cHQa := HQa.out.2.1
  
  have hE1 := hWn
  clear hWn
  go_wp2_with fail
  clear hE1
  refine (kind_calls _ _ _ (.none (ok := fun _ => True))).mono ?_
  clear cHZ cHXa cHYa cHZa cHQa
  rintro e W15 ⟨rfl, hB⟩
  replace HT := Lib.hid (fun j hj => keep_below hB _ _ (HT.out j hj))
  replace HS1 := Lib.hid (HS1.out.below hB)
  replace HV := Lib.hid (HV.out.grow hB)
  replace HZ := Lib.hid (HZ.out.below hB)
  replace HX := Lib.hid (HX.out.grow hB)
  replace HXa := Lib.hid (HXa.out.below hB)
  replace HY := Lib.hid (HY.out.grow hB)
  replace HYa := Lib.hid (HYa.out.below hB)
  replace HZ1 := Lib.hid (HZ1.out.grow hB)
  replace HZa := Lib.hid (HZa.out.below hB)
  replace HQ1 := Lib.hid (HQ1.out.grow hB)
  replace HQa := Lib.hid (HQa.out.below hB)
  replace HB := Lib.hid (HB.out.trans (hB.mono HB.out.size))
  replace HFR := Lib.hid (fun b h => HFR.out b (Nat.le_trans hB.size h))
  clear hB
  have cHZ := HZ.out.2.1
  have cHXa := HXa.out.2.1
  have cHYa := HYa.out.2.1
  have cHZa := HZa.out.2.1
  have cHQa := HQa.out.2.1
  go_wp2_with fail
  refine (kind_calls _ _ _ (.none (ok := fun _ => True))).mono ?_
  clear cHZ cHXa cHYa cHZa cHQa
  rintro e W16 ⟨rfl, hB⟩
  replace HT := Lib.hid (fun j hj => keep_below hB _ _ (HT.out j hj))
  replace HS1 := Lib.hid (HS1.out.below hB)
  replace HV := Lib.hid (HV.out.grow hB)
  replace HZ := Lib.hid (HZ.out.below hB)
  replace HX := Lib.hid (HX.out.grow hB)
  replace HXa := Lib.hid (HXa.out.below hB)
  replace HY := Lib.hid (HY.out.grow hB)
  replace HYa := Lib.hid (HYa.out.below hB)
  replace HZ1 := Lib.hid (HZ1.out.grow hB)
  replace HZa := Lib.hid (HZa.out.below hB)
  replace HQ1 := Lib.hid (HQ1.out.grow hB)
  replace HQa := Lib.hid (HQa.out.below hB)
  replace HB := Lib.hid (HB.out.trans (hB.mono HB.out.size))
  replace HFR := Lib.hid (fun b h => HFR.out b (Nat.le_trans hB.size h))
  clear hB
  have cHZ := HZ.out.2.1
  have cHXa := HXa.out.2.1
  have cHYa := HYa.out.2.1
  have cHZa := HZa.out.2.1
  have cHQa := HQa.out.2.1
  go_wp2_with fail
  refine (vtext_calls _ _ _ HQ1.out HCo.out).mono ?_
  clear cHZ cHXa cHYa cHZa cHQa
  rintro e W17 ⟨vt, rfl, hs, hB⟩
  replace HT := Lib.hid (fun j hj => keep_below hB _ _ (HT.out j hj))
  replace HS1 := Lib.hid (HS1.out.below hB)
  replace HV := Lib.hid (HV.out.grow hB)
  replace HZ := Lib.hid (HZ.out.below hB)
  replace HX := Lib.hid (HX.out.grow hB)
  replace HXa := Lib.hid (HXa.out.below hB)
  replace HY := Lib.hid (HY.out.grow hB)
  replace HYa := Lib.hid (HYa.out.below hB)
  replace HZ1 := Lib.hid (HZ1.out.grow hB)
  replace HZa := Lib.hid (HZa.out.below hB)
  replace HQ1 := Lib.hid (HQ1.out.grow hB)
  replace HQa := Lib.hid (HQa.out.below hB)
  replace HB := Lib.hid (HB.out.trans (hB.mono HB.out.size))
  replace HFR := Lib.hid (fun b h => HFR.out b (Nat.le_trans hB.size h))
  have HTX := Lib.hid (show Slc W17 _ vt l.length (i32s l) from by have := hs.any; rw [HCt.out] at this; exact this)
  clear hs
  clear hB
  have cHZ := HZ.out.2.1
  have cHXa := HXa.out.2.1
  have cHYa := HYa.out.2.1
  have cHZa := HZa.out.2.1
  have cHQa := HQa.out.2.1
  go_wp2_with fail
  refine (runes_same _ _ l _ HTX.out HS1.out HL.out).mono ?_
  clear cHZ cHXa cHYa cHZa cHQa
  rintro e W18 ⟨rfl, hB⟩
  replace HT := Lib.hid (fun j hj => keep_below hB _ _ (HT.out j hj))
  replace HS1 := Lib.hid (HS1.out.below hB)
  replace HV := Lib.hid (HV.out.grow hB)
  replace HZ := Lib.hid (HZ.out.below hB)
  replace HX := Lib.hid (HX.out.grow hB)
  replace HXa := Lib.hid (HXa.out.below hB)
  replace HY := Lib.hid (HY.out.grow hB)
  replace HYa := Lib.hid (HYa.out.below hB)
  replace HZ1 := Lib.hid (HZ1.out.grow hB)
  replace HZa := Lib.hid (HZa.out.below hB)
  replace HQ1 := Lib.hid (HQ1.out.grow hB)
  replace HQa := Lib.hid (HQa.out.below hB)
  replace HTX := Lib.hid (HTX.out.below hB)
  replace HB := Lib.hid (HB.out.trans (hB.mono HB.out.size))
  replace HFR := Lib.hid (fun b h => HFR.out b (Nat.le_trans hB.size h))
  clear hB
  have cHZ := HZ.out.2.1
  have cHXa := HXa.out.2.1
  have cHYa := HYa.out.2.1
  have cHZa := HZa.out.2.1
  have cHQa := HQa.out.2.1
  go_wp2_with fail
  refine (least_calls _ _ _ HV.out HCo.out HCn.out HT.out).mono ?_
  clear cHZ cHXa cHYa cHZa cHQa
  rintro e W19 ⟨rfl, hB⟩
  replace HT := Lib.hid (fun j hj => keep_below hB _ _ (HT.out j hj))
  replace HS1 := Lib.hid (HS1.out.below hB)
  replace HV := Lib.hid (HV.out.grow hB)
  replace HZ := Lib.hid (HZ.out.below hB)
  replace HX := Lib.hid (HX.out.grow hB)
  replace HXa := Lib.hid (HXa.out.below hB)
  replace HY := Lib.hid (HY.out.grow hB)
  replace HYa := Lib.hid (HYa.out.below hB)
  replace HZ1 := Lib.hid (HZ1.out.grow hB)
  replace HZa := Lib.hid (HZa.out.below hB)
  replace HQ1 := Lib.hid (HQ1.out.grow hB)
  replace HQa := Lib.hid (HQa.out.below hB)
  replace HTX := Lib.hid (HTX.out.below hB)
  replace HB := Lib.hid (HB.out.trans (hB.mono HB.out.size))
  replace HFR := Lib.hid (fun b h => HFR.out b (Nat.le_trans hB.size h))
  rw [VV.least_oth (.inr HCc.out), HCk.out]
  clear hB
  have cHZ := HZ.out.2.1
  have cHXa := HXa.out.2.1
  have cHYa := HYa.out.2.1
  have cHZa := HZa.out.2.1
  have cHQa := HQa.out.2.1
  go_wp2_with fail
  refine (squeeze_calls _ _ _ HX.out HBo.out HBn.out HT.out).mono ?_
  clear cHZ cHXa cHYa cHZa cHQa
  rintro e W20 ⟨p, rfl, hu, hB⟩
  rw [others_sq HBc.out] at hu
  have stp := hu.store
  have shp := Lib.hid hu.shape
  have HP := Lib.hid (hu.nbw (ok' := ok5) (fun b _ h => h.elim id (HFR.out b)))
  clear hu
  replace HT := Lib.hid (fun j hj => keep_below hB _ _ (HT.out j hj))
  replace HS1 := Lib.hid (HS1.out.below hB)
  replace HV := Lib.hid (HV.out.grow hB)
  replace HZ := Lib.hid (HZ.out.below hB)
  replace HX := Lib.hid (HX.out.grow hB)
  replace HXa := Lib.hid (HXa.out.below hB)
  replace HY := Lib.hid (HY.out.grow hB)
  replace HYa := Lib.hid (HYa.out.below hB)
  replace HZ1 := Lib.hid (HZ1.out.grow hB)
  replace HZa := Lib.hid (HZa.out.below hB)
  replace HQ1 := Lib.hid (HQ1.out.grow hB)
  replace HQa := Lib.hid (HQa.out.below hB)
  replace HTX := Lib.hid (HTX.out.below hB)
  replace HB := Lib.hid (HB.out.trans (hB.mono HB.out.size))
  replace HFR := Lib.hid (fun b h => HFR.out b (Nat.le_trans hB.size h))
  clear hB
  have cHZ := HZ.out.2.1
  have cHXa := HXa.out.2.1
  have cHYa := HYa.out.2.1
  have cHZa := HZa.out.2.1
  have cHQa := HQa.out.2.1
  go_wp2_with fail
  refine (vlen_calls _ _ _ HP.out).mono ?_
  clear cHZ cHXa cHYa cHZa cHQa
  rintro e W21 ⟨rfl, hB⟩
  replace HT := Lib.hid (fun j hj => keep_below hB _ _ (HT.out j hj))
  replace HS1 := Lib.hid (HS1.out.below hB)
  replace HV := Lib.hid (HV.out.grow hB)
  replace HZ := Lib.hid (HZ.out.below hB)
  replace HX := Lib.hid (HX.out.grow hB)
  replace HXa := Lib.hid (HXa.out.below hB)
  replace HY := Lib.hid (HY.out.grow hB)
  replace HYa := Lib.hid (HYa.out.below hB)
  replace HZ1 := Lib.hid (HZ1.out.grow hB)
  replace HZa := Lib.hid (HZa.out.below hB)
  replace HQ1 := Lib.hid (HQ1.out.grow hB)
  replace HQa := Lib.hid (HQa.out.below hB)
  replace HTX := Lib.hid (HTX.out.below hB)
  replace HP := Lib.hid (HP.out.grow hB)
  replace HB := Lib.hid (HB.out.trans (hB.mono HB.out.size))
  replace HFR := Lib.hid (fun b h => HFR.out b (Nat.le_trans hB.size h))
  rw [HBl.out]
  clear hB
  have cHZ := HZ.out.2.1
  have cHXa := HXa.out.2.1
  have cHYa := HYa.out.2.1
  have cHZa := HZa.out.2.1
  have cHQa := HQa.out.2.1
  go_wp2_with fail
  refine (tight_calls _ _ _ HX.out HBo.out HBn.out HT.out).mono ?_
  clear cHZ cHXa cHYa cHZa cHQa
  rintro e W22 ⟨rfl, hB⟩
  replace HT := Lib.hid (fun j hj => keep_below hB _ _ (HT.out j hj))
  replace HS1 := Lib.hid (HS1.out.below hB)
  replace HV := Lib.hid (HV.out.grow hB)
  replace HZ := Lib.hid (HZ.out.below hB)
  replace HX := Lib.hid (HX.out.grow hB)
  replace HXa := Lib.hid (HXa.out.below hB)
  replace HY := Lib.hid (HY.out.grow hB)
  replace HYa := Lib.hid (HYa.out.below hB)
  replace HZ1 := Lib.hid (HZ1.out.grow hB)
  replace HZa := Lib.hid (HZa.out.below hB)
  replace HQ1 := Lib.hid (HQ1.out.grow hB)
  replace HQa := Lib.hid (HQa.out.below hB)
  replace HTX := Lib.hid (HTX.out.below hB)
  replace HP := Lib.hid (HP.out.grow hB)
  replace HB := Lib.hid (HB.out.trans (hB.mono HB.out.size))
  replace HFR := Lib.hid (fun b h => HFR.out b (Nat.le_trans hB.size h))
  rw [others_tight HBc.out]
  clear hB
  have cHZ := HZ.out.2.1
  have cHXa := HXa.out.2.1
  have cHYa := HYa.out.2.1
  have cHZa := HZa.out.2.1
  have cHQa := HQa.out.2.1
  go_wp2_with fail
  refine (tight_calls _ _ _ HV.out HCo.out HCn.out HT.out).mono ?_
  clear cHZ cHXa cHYa cHZa cHQa
  rintro e W23 ⟨rfl, hB⟩
  replace HT := Lib.hid (fun j hj => keep_below hB _ _ (HT.out j hj))
  replace HS1 := Lib.hid (HS1.out.below hB)
  replace HV := Lib.hid (HV.out.grow hB)
  replace HZ := Lib.hid (HZ.out.below hB)
  replace HX := Lib.hid (HX.out.grow hB)
  replace HXa := Lib.hid (HXa.out.below hB)
  replace HY := Lib.hid (HY.out.grow hB)
  replace HYa := Lib.hid (HYa.out.below hB)
  replace HZ1 := Lib.hid (HZ1.out.grow hB)
  replace HZa := Lib.hid (HZa.out.below hB)
  replace HQ1 := Lib.hid (HQ1.out.grow hB)
  replace HQa := Lib.hid (HQa.out.below hB)
  replace HTX := Lib.hid (HTX.out.below hB)
  replace HP := Lib.hid (HP.out.grow hB)
  replace HB := Lib.hid (HB.out.trans (hB.mono HB.out.size))
  replace HFR := Lib.hid (fun b h => HFR.out b (Nat.le_trans hB.size h))
  rw [others_tight HCc.out]
  clear hB
  have cHZ := HZ.out.2.1
  have cHXa := HXa.out.2.1
  have cHYa := HYa.out.2.1
  have cHZa := HZa.out.2.1
  have cHQa := HQa.out.2.1
  go_wp2_with fail
  refine (awake5_calls _ HT.out).mono ?_
  clear cHZ cHXa cHYa cHZa cHQa
  rintro e W24 ⟨rfl, hB⟩
  replace HT := Lib.hid (fun j hj => keep_below hB _ _ (HT.out j hj))
  replace HS1 := Lib.hid (HS1.out.below hB)
  replace HV := Lib.hid (HV.out.grow hB)
  replace HZ := Lib.hid (HZ.out.below hB)
  replace HX := Lib.hid (HX.out.grow hB)
  replace HXa := Lib.hid (HXa.out.below hB)
  replace HY := Lib.hid (HY.out.grow hB)
  replace HYa := Lib.hid (HYa.out.below hB)
  replace HZ1 := Lib.hid (HZ1.out.grow hB)
  replace HZa := Lib.hid (HZa.out.below hB)
  replace HQ1 := Lib.hid (HQ1.out.grow hB)
  replace HQa := Lib.hid (HQa.out.below hB)
  replace HTX := Lib.hid (HTX.out.below hB)
  replace HP := Lib.hid (HP.out.grow hB)
  replace HB := Lib.hid (HB.out.trans (hB.mono HB.out.size))
  replace HFR := Lib.hid (fun b h => HFR.out b (Nat.le_trans hB.size h))
  clear hB
  have cHZ := HZ.out.2.1
  have cHXa := HXa.out.2.1
  have cHYa := HYa.out.2.1
  have cHZa := HZa.out.2.1
  have cHQa := HQa.out.2.1
  go_wp2
  go_ret
  exact ⟨rfl, HB.out⟩

theorem squeezeOthers_calls (w : World) (v1 : Value) (l : List Int) (hr1 : RowC w v1 (l.map (Value.int .i32))) (hz1 : ∀ z ∈ l, (Lit.int .i32 z).wf = true) (hl1 : l.length ≤ maxLen) (kind : Int) (hk : (Lit.int .i64 kind).wf = true) (hT : TabAt w) :
    Calls Tryd.prog 5 #[v1, .int .i64 kind] w fun e w' => e = .returned (.bool true) ∧ Below w.heap.size w w' := by
  have HT := Lib.hid hT
  have HS1 := Lib.hid (show Slc w (fun _ => True) v1 l.length (i32s l) by have := hr1.slc; rw [List.length_map] at this; exact this)
  unfold maxLen at hl1
  clear hr1 hz1 hT hk
  by_cases hbig : 200 < l.length
  · obtain ⟨ao1, cap1, rfl, _⟩ := HS1.out.opened
    go_enter Tryd.func5, Tryd.ntmps5
    go_wp2_with fail
    refine (awake5_calls w HT.out).mono ?_
    rintro e w1 ⟨rfl, hB⟩
    have HB := Lib.hid hB
    clear hB
    go_wp2
    go_ret
    exact ⟨rfl, HB.out⟩
  by_cases h5 : kind = 5
  · exact sqOthers_10 w v1 l kind HS1 HT (by omega) h5 (by omega)
  · by_cases h6 : kind = 6
    · exact sqOthers_01 w v1 l kind HS1 HT (by omega) h5 h6
    · exact sqOthers_00 w v1 l kind HS1 HT (by omega) h5 h6
end Go.Proofs.YtnicoddkbcfijaaDoor

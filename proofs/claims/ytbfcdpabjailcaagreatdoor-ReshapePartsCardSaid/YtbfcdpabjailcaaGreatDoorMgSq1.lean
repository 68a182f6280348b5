/- Merged: SqM, SqA, SqB, SqC, SqD, Walk2, SqE, SqF. -/
import Derived.Deep.RegionHeld3
import Derived.Test.YtbfcdpabjailcaaGreatDoorMgNu1
import Derived.Test.YtbfcdpabjailcaaGreatDoorMgVe1
import Derived.Test.YtbfcdpabjailcaaGreatDoorMgBv1
/- Numbers and the least store that they fit: plain. -/
namespace Go.Proofs.YtbfcdpabjailcaaGreatDoor
set_option maxRecDepth 100000
open Go.RowKit Fl
set_option linter.unusedVariables false

/-- The whole number of a word that is one. -/
def wnOf (x : Nat) : Int := V x / pw 1074
theorem wnOf_wh {x : Nat} {n : Int} (h : Wh x n) : wnOf x = n := by
  unfold wnOf
  rw [h.2.2]
  exact Int.mul_ediv_cancel _ (by have := pw_pos 1074; omega)
theorem num_of_wh {x : Nat} {n : Int} (hx : Num x) (h : Wh x n) : x = floatOfInt .f64 n := by
  have h1 : Num (floatOfInt .f64 n) := by
    refine ⟨ofInt_fin n (by have := h.2.1; omega), fun hz => ?_⟩
    have hv := ofInt_val n h.2.1
    rw [V_eq_zero.2 hz] at hv
    have hp := pw_pos 1074
    have hn : n = 0 := by
      rcases Int.mul_eq_zero.1 hv.symm with h | h
      · exact h
      · omega
    subst hn
    decide +kernel
  exact V_inj hx h1 (h.2.2.trans (ofInt_val n h.2.1).symm)
/-- The least kind of a whole number; of a number. -/
def kindZ (n : Int) : Nat := if n = 0 ∨ n = 1 then 1 else if -128 ≤ n ∧ n ≤ 127 then 2 else 3
open Classical in
noncomputable def kindW (x : Nat) : Nat := if ∃ n, Wh x n then kindZ (wnOf x) else 4
theorem kindW_wh {x : Nat} {n : Int} (h : Wh x n) : kindW x = kindZ n := by unfold kindW; rw [if_pos ⟨n, h⟩, wnOf_wh h]
theorem kindW_no {x : Nat} (h : ∀ n, ¬ Wh x n) : kindW x = 4 := by unfold kindW; rw [if_neg (fun ⟨n, hn⟩ => h n hn)]
theorem kindZ_le (n : Int) : 1 ≤ kindZ n ∧ kindZ n ≤ 3 := by unfold kindZ; split <;> (try split) <;> omega
theorem kindW_le (x : Nat) : 1 ≤ kindW x ∧ kindW x ≤ 4 := by
  by_cases h : ∃ n, Wh x n
  · obtain ⟨n, hn⟩ := h
    rw [kindW_wh hn]
    have := kindZ_le n
    omega
  · rw [kindW_no (fun n hn => h ⟨n, hn⟩)]; omega
theorem kindW_lt {x : Nat} (h : kindW x < 4) : ∃ n, Wh x n ∧ kindW x = kindZ n := by
  by_cases hw : ∃ n, Wh x n
  · obtain ⟨n, hn⟩ := hw; exact ⟨n, hn, kindW_wh hn⟩
  · rw [kindW_no (fun n hn => hw ⟨n, hn⟩)] at h; omega
/-- The least kind of numbers. -/
noncomputable def leastW (l : List Nat) : Nat := l.foldl (fun k x => max k (kindW x)) 1
theorem leastW_nil : leastW [] = 1 := rfl
theorem foldl_max (l : List Nat) : ∀ a, l.foldl (fun k x => max k (kindW x)) a = max a (l.foldl (fun k x => max k (kindW x)) 0) := by
  induction l with
  | nil => intro a; simp
  | cons x l ih => intro a; rw [List.foldl_cons, List.foldl_cons, ih, ih (max 0 (kindW x))]; omega
theorem leastW_append (l m : List Nat) : leastW (l ++ m) = max (leastW l) (leastW m) := by
  unfold leastW
  rw [List.foldl_append, foldl_max m (List.foldl _ 1 l), foldl_max m 1, foldl_max l 1]
  omega
theorem leastW_one (x : Nat) : leastW [x] = kindW x := by unfold leastW; have := kindW_le x; simp; omega
theorem leastW_cons (x : Nat) (l : List Nat) : leastW (x :: l) = max (kindW x) (leastW l) := by
  have := leastW_append [x] l
  rwa [leastW_one] at this
theorem leastW_take {l : List Nat} {k : Nat} {x : Nat} (h : l[k]? = some x) : leastW (l.take (k + 1)) = max (leastW (l.take k)) (kindW x) := by
  obtain ⟨hk, e⟩ := List.getElem?_eq_some_iff.1 h
  rw [List.take_succ_eq_append_getElem hk, leastW_append, e, leastW_one]
theorem leastW_le (l : List Nat) : 1 ≤ leastW l ∧ leastW l ≤ 4 := by
  induction l with
  | nil => rw [leastW_nil]; omega
  | cons x l ih => rw [leastW_cons]; have := kindW_le x; omega
theorem leastW_mem {l : List Nat} {x : Nat} (h : x ∈ l) : kindW x ≤ leastW l := by
  induction l with
  | nil => cases h
  | cons y l ih =>
    rw [leastW_cons]
    rcases List.mem_cons.1 h with rfl | h
    · omega
    · have := ih h; omega
theorem leastW_all {l : List Nat} {k : Nat} (h1 : 1 ≤ k) (h : ∀ x ∈ l, kindW x ≤ k) : leastW l ≤ k := by
  induction l with
  | nil => rw [leastW_nil]; exact h1
  | cons y l ih =>
    rw [leastW_cons]
    have a := h y List.mem_cons_self
    have b := ih (fun x hx => h x (List.mem_cons_of_mem _ hx))
    omega
/-- Numbers of a kind below 4 are whole numbers. -/
theorem whole_list {l : List Nat} (hN : ∀ x ∈ l, Num x) (h : leastW l < 4) : l = (l.map wnOf).map (floatOfInt .f64) ∧ ∀ n ∈ l.map wnOf, n.natAbs ≤ 9007199254740992 ∧ kindZ n ≤ leastW l := by
  constructor
  · rw [List.map_map]
    apply List.ext_getElem (by simp)
    intro i h1 h2
    have hm := List.getElem_mem h1
    have hk := leastW_mem hm
    obtain ⟨n, hn, _⟩ := kindW_lt (x := l[i]) (by omega)
    simp only [List.getElem_map, Function.comp]
    rw [wnOf_wh hn]
    exact num_of_wh (hN _ hm) hn
  · intro n hn
    obtain ⟨x, hx, rfl⟩ := List.mem_map.1 hn
    have hk := leastW_mem hx
    obtain ⟨m, hm, e⟩ := kindW_lt (x := x) (by omega)
    rw [wnOf_wh hm]
    exact ⟨hm.2.1, by omega⟩
end Go.Proofs.YtbfcdpabjailcaaGreatDoor

/- The reference's kinds of numbers, walked: Least, Fits. -/
namespace Go.Proofs.YtbfcdpabjailcaaGreatDoor
open Go.RowKit Fl
set_option linter.unusedVariables false
set_option maxRecDepth 100000

theorem kz3 {n : Int} (h : n < -128 ∨ 127 < n) : kindZ n = 3 := by unfold kindZ; rw [if_neg (by omega), if_neg (by omega)]
end Go.Proofs.YtbfcdpabjailcaaGreatDoor

/- Package squeeze, walked: numeric, Common, leastOf, packed, whole. -/
namespace Go.Proofs.YtbfcdpabjailcaaGreatDoor
open Go.RowKit Fl
set_option linter.unusedVariables false
set_option maxRecDepth 100000

theorem numeric_calls (k : Int) (w : World) : Calls Tryz.prog 107 #[.int .i64 k] w fun e w' => e = .returned (.bool (decide (1 ≤ k ∧ k ≤ 4))) ∧ w = w' := by
  by_cases h1 : (1 : Int) ≤ k
  · by_cases h2 : k ≤ (4 : Int)
    · have HD := Lib.hid (decide_eq_true (show 1 ≤ k ∧ k ≤ 4 from ⟨h1, h2⟩))
      go_enter Tryz.func107, Tryz.ntmps107
      go_wp2
      go_ret
      exact ⟨ret_b (by first | rfl | (rw [HD.out]; done) | (rw [HD.out]; rfl) | (simp; omega)), rfl⟩
    · have HD := Lib.hid (decide_eq_false (show ¬ (1 ≤ k ∧ k ≤ 4) from fun h => h2 h.2))
      go_enter Tryz.func107, Tryz.ntmps107
      go_wp2
      go_ret
      exact ⟨ret_b (by first | (simp; omega) | (simp; done) | (rw [HD.out]; rfl)), rfl⟩
  · have HD := Lib.hid (decide_eq_false (show ¬ (1 ≤ k ∧ k ≤ 4) from fun h => h1 h.1))
    go_enter Tryz.func107, Tryz.ntmps107
    go_wp2
    go_ret
    exact ⟨ret_b (by first | (simp; omega) | (simp; done) | (rw [HD.out]; rfl)), rfl⟩
theorem kind_one {x : Nat} (h : Num x) (h1 : V x = 0 ∨ V x = pw 1074) : kindW x = 1 := by
  have hp := pw_pos 1074
  rcases h1 with h1 | h1
  · rw [kindW_wh (x := x) (n := 0) ⟨h.1, by decide, by rw [h1]; simp⟩]; rfl
  · rw [kindW_wh (x := x) (n := 1) ⟨h.1, by decide, by rw [h1]; simp⟩]; rfl
theorem kind_one' {x : Nat} (h : Num x) (h1 : kindW x = 1) : V x = 0 ∨ V x = pw 1074 := by
  obtain ⟨n, hn, e⟩ := kindW_lt (x := x) (by omega)
  rw [h1] at e
  have : n = 0 ∨ n = 1 := by unfold kindZ at e; split at e; assumption; split at e <;> omega
  have hv := hn.2.2
  rcases this with rfl | rfl
  · left; rw [hv]; simp
  · right; rw [hv]; simp
theorem ntruth_yes (x : Nat) (w : World) (h : Num x) (h1 : kindW x = 1) : Calls Tryz.prog 122 #[.float .f64 x] w fun e w' => e = .returned (.tuple #[.bool (decide (V x = pw 1074)), .bool true]) ∧ w = w' := by
  refine (truth_calls x w h.1).mono ?_
  rintro e w' ⟨rfl, rfl⟩
  have : (decide (V x = 0) || decide (V x = (pw 1074 : Int))) = true := by rcases kind_one' h h1 with h | h <;> simp [h]
  rw [this]; exact ⟨rfl, rfl⟩
theorem ntruth_no (x : Nat) (w : World) (h : Num x) (h1 : kindW x ≠ 1) : Calls Tryz.prog 122 #[.float .f64 x] w fun e w' => e = .returned (.tuple #[.bool false, .bool false]) ∧ w = w' := by
  refine (truth_calls x w h.1).mono ?_
  rintro e w' ⟨rfl, rfl⟩
  have e1 : decide (V x = (pw 1074 : Int)) = false := decide_eq_false fun hh => h1 (kind_one h (.inr hh))
  have e2 : decide (V x = 0) = false := decide_eq_false fun hh => h1 (kind_one h (.inl hh))
  rw [e1, e2]; exact ⟨rfl, rfl⟩
theorem leastof_calls (x : Nat) (w : World) (h : Num x) : Calls Tryz.prog 114 #[.float .f64 x] w fun e w' => e = .returned (.int .i64 (kindW x : Int)) ∧ w = w' := by
  have H := Lib.hid h
  clear h
  by_cases h1 : kindW x = 1
  · have H1 := Lib.hid h1
    rw [h1]
    clear h1
    go_enter Tryz.func114, Tryz.ntmps114
    go_wp2_with fail
    refine (ntruth_yes _ _ H.out H1.out).mono ?_
    rintro e w1 ⟨rfl, rfl⟩
    go_wp2
    go_ret
    exact ⟨rfl, rfl⟩
  · have H1 := Lib.hid h1
    by_cases hw : ∃ n, Wh x n
    · obtain ⟨n, hn⟩ := hw
      have HN := Lib.hid hn
      have hk := kindW_wh hn
      rw [hk] at h1 ⊢
      have HB := Lib.hid hn.2.1
      clear hn hk
      by_cases h2 : -128 ≤ n
      · by_cases h3 : n ≤ 127
        · have HZ := Lib.hid (show kindZ n = 2 by unfold kindZ at h1 ⊢; split; rename_i hh; rw [if_pos hh] at h1; exact absurd rfl h1; rw [if_pos ⟨h2, h3⟩])
          rw [HZ.out]
          clear h1
          go_enter Tryz.func114, Tryz.ntmps114
          go_wp2_with fail
          refine (ntruth_no _ _ H.out H1.out).mono ?_
          rintro e w1 ⟨rfl, rfl⟩
          go_wp2_with fail
          refine (whole_yes _ _ _ HN.out).mono ?_
          rintro e w1 ⟨rfl, rfl⟩
          go_wp2
          go_ret
          exact ⟨rfl, rfl⟩
        · have HZ := Lib.hid (kz3 (n := n) (.inr (by omega)))
          rw [HZ.out]
          clear h1
          go_enter Tryz.func114, Tryz.ntmps114
          go_wp2_with fail
          refine (ntruth_no _ _ H.out H1.out).mono ?_
          rintro e w1 ⟨rfl, rfl⟩
          go_wp2_with fail
          refine (whole_yes _ _ _ HN.out).mono ?_
          rintro e w1 ⟨rfl, rfl⟩
          go_wp2
          go_ret
          exact ⟨rfl, rfl⟩
      · have HZ := Lib.hid (kz3 (n := n) (.inl (by omega)))
        rw [HZ.out]
        clear h1
        go_enter Tryz.func114, Tryz.ntmps114
        go_wp2_with fail
        refine (ntruth_no _ _ H.out H1.out).mono ?_
        rintro e w1 ⟨rfl, rfl⟩
        go_wp2_with fail
        refine (whole_yes _ _ _ HN.out).mono ?_
        rintro e w1 ⟨rfl, rfl⟩
        go_wp2
        go_ret
        exact ⟨rfl, rfl⟩
    · have HW := Lib.hid (show ∀ n, ¬ Wh x n from fun n hn => hw ⟨n, hn⟩)
      have HK := Lib.hid (kindW_no HW.out)
      rw [HK.out]
      clear h1 hw
      go_enter Tryz.func114, Tryz.ntmps114
      go_wp2_with fail
      refine (ntruth_no _ _ H.out H1.out).mono ?_
      rintro e w1 ⟨rfl, rfl⟩
      go_wp2_with fail
      refine (whole_no _ _ H.out.1.1 HW.out).mono ?_
      rintro e w1 ⟨rfl, rfl⟩
      go_wp2
      go_ret
      exact ⟨rfl, rfl⟩
/-- A number of the least kind as a truth. -/
def bitW (x : Nat) : Bool := decide (V x = pw 1074)
theorem mkB1 (n : Nat) (hn : n ≤ 2000000) (w : World) : (Instr.makeSlice 122 (.int .i64 (n : Int)) (.int .i64 (n : Int))).run Tryz.prog w = .ok (.slice (some ⟨w.heap.size, 0, none⟩) n n) (w.alloc (.cells (zerosV (.bool false) n) 4)) := by
  obtain ⟨i0, hi, hz0, hz1, hz2⟩ := info_parts info_bool
  have hr := run_make (P := Tryz.prog) w 122 4 i0 _ Tryz.underlying122 hi hz0 .i64 .i64 n n (by omega) (Int.le_refl _) (by rw [hz2]; omega) (by omega)
  simp only [Int.toNat_natCast, hz1] at hr
  exact hr
theorem mkI8 (n : Nat) (hn : n ≤ 2000000) (w : World) : (Instr.makeSlice 79 (.int .i64 (n : Int)) (.int .i64 (n : Int))).run Tryz.prog w = .ok (.slice (some ⟨w.heap.size, 0, none⟩) n n) (w.alloc (.cells (zerosV (.int .i8 0) n) 118)) := by
  obtain ⟨i0, hi, hz0, hz1, hz2⟩ := info_parts info_i8
  have hr := run_make (P := Tryz.prog) w 79 118 i0 _ Tryz.underlying79 hi hz0 .i64 .i64 n n (by omega) (Int.le_refl _) (by rw [hz2]; omega) (by omega)
  simp only [Int.toNat_natCast, hz1] at hr
  exact hr
theorem wh_i8 {x : Nat} {n : Int} (h : Wh x n) (h1 : -128 ≤ n) (h2 : n ≤ 127) : floatToIntVal .f64 x .i8 = some n := by
  have h0 := wh_int x n h
  unfold floatToIntVal at h0 ⊢
  cases ht : (FloatKind.f64.decode x).toInt .zero with
  | none => rw [ht] at h0; cases h0
  | some m =>
    rw [ht] at h0
    simp only at h0 ⊢
    split at h0
    · cases h0
      have hm : IntKind.i8.min = -128 ∧ IntKind.i8.max = 127 := by decide
      rw [if_pos ⟨by omega, by omega⟩]
    · cases h0

set_option maxHeartbeats 1000000 in
theorem packed_fresh {ok : Nat → Prop} (v : Value) (l : List Nat) (w : World) (hv : Slc w ok v l.length (f64s l)) (hm : l.length ≤ 1048576) (hN : ∀ x ∈ l, Num x ∧ kindW x = 1) :
    Calls Tryz.prog 108 #[v] w fun e w' => ∃ v, e = .returned v ∧ IsBitsX w' (fun b => w.heap.size + 1 ≤ b) v (l.map bitW) ∧ Below w.heap.size w w' := by
  obtain ⟨ao, cap, rfl, _, _, _, hc⟩ := hv.opened
  have HC := Lib.hid hc
  have HM := Lib.hid hm
  clear hv hc
  have HN := Lib.hid hN
  clear hN
  obtain ⟨xs, hxs⟩ : ∃ xs : List Value, xs = l.map (fun x => .bool (bitW x)) := ⟨_, rfl⟩
  have HXS := Lib.hid hxs
  have hxl : xs.length = l.length := by rw [hxs]; simp
  have hget : ∀ k (h : k < xs.length) (h2 : k < l.length), ∃ x : Nat, x = l[k]'h2 ∧ xs[k]'h = .bool (bitW x) := by intro k h h2; refine ⟨_, rfl, ?_⟩; simp [hxs]
  have HX := Lib.hid hget
  have HXL := Lib.hid hxl
  have hmk := mkB1 l.length (by omega) (w.alloc (.cells #[.int .i64 0, .slice none 0 0] 78))
  clear hxs hget hxl
  obtain ⟨W0, hW0⟩ : ∃ W0, W0 = (w.alloc (.cells #[.int .i64 0, .slice none 0 0] 78)).alloc (.cells (zerosV (.bool false) l.length) 4) := ⟨_, rfl⟩
  have HO0 : Hid (W0.ownsRow (w.heap.size + 1) 4 1 (.slice (some ⟨w.heap.size + 1, 0, none⟩) l.length l.length) l.length (List.replicate l.length (.bool false))) := Lib.hid (by have := own_make1 (.bool false) 4 l.length (by omega) (w.alloc (.cells #[.int .i64 0, .slice none 0 0] 78)) (w.heap.size + 1) (by simp); rw [hW0]; simpa using this)
  have HA := Lib.hid (show At2 W0 w.heap.size (.int .i64 0) (.slice none 0 0) by rw [hW0]; exact (At2.new _ _ _ _).alloc _)
  have HW := Lib.hid (show Below w.heap.size w W0 by rw [hW0]; exact (below_new _ _).alloc (by simp) _)
  go_enter Tryz.func108, Tryz.ntmps108
  go_wp2
  rw [← hW0]
  clear hW0 hmk
  go_loopw [11] (fun i wr => ∃ k : Nat, k ≤ l.length ∧ i = .int .i64 k ∧ wr.ownsRow (w.heap.size + 1) 4 1 (.slice (some ⟨w.heap.size + 1, 0, none⟩) l.length l.length) l.length (fillTo xs (.bool false) k) ∧ W0.grownBy wr (some (w.heap.size + 1))) (fun i _ => l.length - (intOf i).toNat)
  case atStart => exact ⟨0, by omega, rfl, by rw [fillTo_zero, HXL.out]; exact HO0.out, grown_refl _ _⟩
  case round =>
    obtain ⟨k, hk, rfl, hown, hgr⟩ := hrel
    have HO := Lib.hid hown
    have HG := Lib.hid hgr
    have HB := Lib.hid (HW.out.grown hgr HW.out.size (fun j hj => by cases hj; omega))
    have hA2 := Lib.hid (HA.out.grown hgr (by simp))
    by_cases hlt : k < l.length
    · obtain ⟨b, off, rfl, _, hcl0⟩ := HC.out k (by rw [f64s_len]; exact hlt)
      have hcl := keep_below HB.out _ _ hcl0
      rw [f64s_get] at hcl
      obtain ⟨x, hx, hxk⟩ := HX.out k (by rw [HXL.out]; exact hlt) hlt
      have hcw := owns_cell HO.out k (by rw [fillTo_len _ _ _ (by rw [HXL.out]; exact hk), HXL.out]; exact hlt)
      have hfr := World.ownsRow.frozenAt HO.out k
      rw [← hx] at hcl
      have HNX := Lib.hid (HN.out x (by rw [hx]; exact List.getElem_mem hlt))
      have HXK := Lib.hid hxk
      clear hown hgr hcl0 hx hxk
      go_wp2_with fail
      refine (ntruth_yes _ _ HNX.out.1 HNX.out.2).mono ?_
      rintro e w2 ⟨rfl, rfl⟩
      rw [show decide (V x = (pw 1074 : Int)) = bitW x from rfl]
      go_wp2
      go_roundw
      case rel =>
        refine ⟨k + 1, by omega, by go_num, ?_, grown_trans HG.out (grown_setCell _ ⟨w.heap.size + 1, k, none⟩ _)⟩
        have := (World.ownsRow.stored HO.out k (.bool (bitW x))).1
        rw [← HXK.out, fillTo_set] at this
        rw [← HXK.out]
        exact this
      case measure => simp [intOf]; omega
    · have hkl : k = l.length := by omega
      have HK := Lib.hid hkl
      have HOW := Lib.hid (show wr.ownsRow (w.heap.size + 1) 4 1 (.slice (some ⟨w.heap.size + 1, 0, none⟩) l.length l.length) l.length xs by
        have := HO.out
        rw [HK.out, ← HXL.out, fillTo_all, HXL.out] at this
        exact this)
      clear hown hgr hkl
      have HXB := Lib.hid (show xs = bools (l.map bitW) by rw [HXS.out]; simp [bools])
      have HLM := Lib.hid (show (l.map bitW).length = l.length by simp)
      have HS := Lib.hid (show Sl wr (.slice (some ⟨w.heap.size + 1, 0, none⟩) l.length l.length) (l.map bitW).length (bools (l.map bitW)) by rw [HLM.out, ← HXB.out]; exact Sl.owned HOW.out)
      go_wp2_with fail
      refine (pack_fresh _ (l.map bitW) _ HS.out (by rw [HLM.out]; exact HM.out)).mono ?_
      rintro e w2 ⟨v, rfl, hb, hB2⟩
      have HV := Lib.hid hb
      have HB3 := Lib.hid (HB.out.trans (hB2.mono HB.out.size))
      have hA3 := hA2.out.below hB2
      have HA3 := Lib.hid hA3
      have HGE := Lib.hid (show w.heap.size + 1 ≤ wr.heap.size from Nat.le_trans (Nat.le_of_lt (HO0.out.lt _ rfl).2) HG.out.size)
      obtain ⟨ao', cap', rfl, _⟩ := hb.bits.opened
      clear hb
      obtain ⟨_, a0, a1, af⟩ := hA3
      have af0 := af 0
      have af1 := af 1
      clear hB2 af
      go_wp2
      refine bodyPost_ret (v := .agg #[.int .i64 ((l.map bitW).length : Int), .slice ao' (((l.map bitW).length + 63) / 64 : Nat) cap']) (by simp [results, Tryz.results108, go_sem, a0, a1]) rfl ⟨_, rfl, HV.out.keep ((Kept.setCell _ _ _ (by simp; have := HGE.out; omega)).trans (Kept.setCell _ _ _ (by simp; have := HGE.out; omega))) (fun b _ h => by have := HGE.out; omega), below_set2 _ _ HB3.out (Nat.le_refl _)⟩

set_option maxHeartbeats 1000000 in
theorem whole8_calls {ok : Nat → Prop} (v : Value) (l : List Nat) (w : World) (hv : Slc w ok v l.length (f64s l)) (hm : l.length ≤ 2000000) (hN : ∀ x ∈ l, ∃ n, Wh x n ∧ -128 ≤ n ∧ n ≤ 127) :
    Calls Tryz.prog 111 #[v] w fun e w' => ∃ v, e = .returned v ∧ Slc w' (fun b => w.heap.size ≤ b) v l.length (i8s (l.map wnOf)) ∧ Below w.heap.size w w' := by
  obtain ⟨ao, cap, rfl, _, _, _, hc⟩ := hv.opened
  have HC := Lib.hid hc
  have HM := Lib.hid hm
  clear hv hc
  have HN := Lib.hid hN
  clear hN
  obtain ⟨xs, hxs⟩ : ∃ xs : List Value, xs = l.map (fun x => .int .i8 (wnOf x)) := ⟨_, rfl⟩
  have HXS := Lib.hid hxs
  have hxl : xs.length = l.length := by rw [hxs]; simp
  have hget : ∀ k (h : k < xs.length) (h2 : k < l.length), ∃ x : Nat, x = l[k]'h2 ∧ xs[k]'h = .int .i8 (wnOf x) := by intro k h h2; refine ⟨_, rfl, ?_⟩; simp [hxs]
  have HX := Lib.hid hget
  have HXL := Lib.hid hxl
  have hmk := mkI8 l.length (by omega) w
  clear hxs hget hxl
  obtain ⟨W0, hW0⟩ : ∃ W0, W0 = w.alloc (.cells (zerosV (.int .i8 0) l.length) 118) := ⟨_, rfl⟩
  have HO0 : Hid (W0.ownsRow w.heap.size 118 1 (.slice (some ⟨w.heap.size, 0, none⟩) l.length l.length) l.length (List.replicate l.length (.int .i8 0))) := Lib.hid (by rw [hW0]; exact own_make1 _ _ _ (by omega) _ _ (Nat.le_refl _))
  have HW := Lib.hid (show Below w.heap.size w W0 by rw [hW0]; exact below_new _ _)
  go_enter Tryz.func111, Tryz.ntmps111
  go_wp2
  rw [← hW0]
  clear hW0 hmk
  go_loopw [11] (fun i wr => ∃ k : Nat, k ≤ l.length ∧ i = .int .i64 k ∧ wr.ownsRow w.heap.size 118 1 (.slice (some ⟨w.heap.size, 0, none⟩) l.length l.length) l.length (fillTo xs (.int .i8 0) k) ∧ W0.grownBy wr (some w.heap.size)) (fun i _ => l.length - (intOf i).toNat)
  case atStart => exact ⟨0, by omega, rfl, by rw [fillTo_zero, HXL.out]; exact HO0.out, grown_refl _ _⟩
  case round =>
    obtain ⟨k, hk, rfl, hown, hgr⟩ := hrel
    have HO := Lib.hid hown
    have HG := Lib.hid hgr
    have HB := Lib.hid (HW.out.grown hgr HW.out.size (fun j hj => by cases hj; omega))
    by_cases hlt : k < l.length
    · obtain ⟨b, off, rfl, _, hcl0⟩ := HC.out k (by rw [f64s_len]; exact hlt)
      have hcl := keep_below HB.out _ _ hcl0
      rw [f64s_get] at hcl
      obtain ⟨x, hx, hxk⟩ := HX.out k (by rw [HXL.out]; exact hlt) hlt
      have hcw := owns_cell HO.out k (by rw [fillTo_len _ _ _ (by rw [HXL.out]; exact hk), HXL.out]; exact hlt)
      have hfr := World.ownsRow.frozenAt HO.out k
      rw [← hx] at hcl
      have HNX := Lib.hid (HN.out x (by rw [hx]; exact List.getElem_mem hlt))
      have HXK := Lib.hid hxk
      clear hown hgr hcl0 hx hxk
      obtain ⟨n, hn, hi⟩ := HNX.out
      have HNI := Lib.hid hi
      have HNN := Lib.hid hn
      have HWN := Lib.hid (wnOf_wh hn)
      clear hn hi
      have hc : ∀ w, (convert 38 118 (.float .f64 x)).run Tryz.prog w = .ok (.int .i8 (wnOf x)) w := fun w => by rw [HWN.out]; exact run_convert_float_int w 38 118 .f64 .i8 x n (by kernel_rfl) (by kernel_rfl) (wh_i8 HNN.out HNI.out.1 HNI.out.2)
      go_wp2
      go_roundw
      case rel =>
        refine ⟨k + 1, by omega, by go_num, ?_, grown_trans HG.out (grown_setCell _ ⟨w.heap.size, k, none⟩ _)⟩
        have := (World.ownsRow.stored HO.out k (.int .i8 (wnOf x))).1
        rw [← HXK.out, fillTo_set] at this
        rw [← HXK.out]
        exact this
      case measure => simp [intOf]; omega
    · have hkl : k = l.length := by omega
      have HK := Lib.hid hkl
      have HOW := Lib.hid (show wr.ownsRow w.heap.size 118 1 (.slice (some ⟨w.heap.size, 0, none⟩) l.length l.length) l.length xs by
        have := HO.out
        rw [HK.out, ← HXL.out, fillTo_all, HXL.out] at this
        exact this)
      clear hown hgr hkl
      go_wp2
      go_ret
      refine ⟨_, rfl, ?_, HB.out⟩
      have := Slc.owned HOW.out
      rw [show xs = i8s (l.map wnOf) by rw [HXS.out]; simp [i8s]] at this
      exact this

set_option maxHeartbeats 1000000 in
theorem whole64_calls {ok : Nat → Prop} (v : Value) (l : List Nat) (w : World) (hv : Slc w ok v l.length (f64s l)) (hm : l.length ≤ 2000000) (hN : ∀ x ∈ l, ∃ n, Wh x n) :
    Calls Tryz.prog 113 #[v] w fun e w' => ∃ v, e = .returned v ∧ Slc w' (fun b => w.heap.size ≤ b) v l.length (ints (l.map wnOf)) ∧ Below w.heap.size w w' := by
  obtain ⟨ao, cap, rfl, _, _, _, hc⟩ := hv.opened
  have HC := Lib.hid hc
  have HM := Lib.hid hm
  clear hv hc
  have HN := Lib.hid hN
  clear hN
  obtain ⟨xs, hxs⟩ : ∃ xs : List Value, xs = l.map (fun x => .int .i64 (wnOf x)) := ⟨_, rfl⟩
  have HXS := Lib.hid hxs
  have hxl : xs.length = l.length := by rw [hxs]; simp
  have hget : ∀ k (h : k < xs.length) (h2 : k < l.length), ∃ x : Nat, x = l[k]'h2 ∧ xs[k]'h = .int .i64 (wnOf x) := by intro k h h2; refine ⟨_, rfl, ?_⟩; simp [hxs]
  have HX := Lib.hid hget
  have HXL := Lib.hid hxl
  have hmk := run_mkI1 l.length (by omega) w
  clear hxs hget hxl
  obtain ⟨W0, hW0⟩ : ∃ W0, W0 = w.alloc (.cells (zerosV (.int .i64 0) l.length) 2) := ⟨_, rfl⟩
  have HO0 : Hid (W0.ownsRow w.heap.size 2 1 (.slice (some ⟨w.heap.size, 0, none⟩) l.length l.length) l.length (List.replicate l.length (.int .i64 0))) := Lib.hid (by rw [hW0]; exact own_make1 _ _ _ (by omega) _ _ (Nat.le_refl _))
  have HW := Lib.hid (show Below w.heap.size w W0 by rw [hW0]; exact below_new _ _)
  go_enter Tryz.func113, Tryz.ntmps113
  go_wp2
  rw [← hW0]
  clear hW0 hmk
  go_loopw [11] (fun i wr => ∃ k : Nat, k ≤ l.length ∧ i = .int .i64 k ∧ wr.ownsRow w.heap.size 2 1 (.slice (some ⟨w.heap.size, 0, none⟩) l.length l.length) l.length (fillTo xs (.int .i64 0) k) ∧ W0.grownBy wr (some w.heap.size)) (fun i _ => l.length - (intOf i).toNat)
  case atStart => exact ⟨0, by omega, rfl, by rw [fillTo_zero, HXL.out]; exact HO0.out, grown_refl _ _⟩
  case round =>
    obtain ⟨k, hk, rfl, hown, hgr⟩ := hrel
    have HO := Lib.hid hown
    have HG := Lib.hid hgr
    have HB := Lib.hid (HW.out.grown hgr HW.out.size (fun j hj => by cases hj; omega))
    by_cases hlt : k < l.length
    · obtain ⟨b, off, rfl, _, hcl0⟩ := HC.out k (by rw [f64s_len]; exact hlt)
      have hcl := keep_below HB.out _ _ hcl0
      rw [f64s_get] at hcl
      obtain ⟨x, hx, hxk⟩ := HX.out k (by rw [HXL.out]; exact hlt) hlt
      have hcw := owns_cell HO.out k (by rw [fillTo_len _ _ _ (by rw [HXL.out]; exact hk), HXL.out]; exact hlt)
      have hfr := World.ownsRow.frozenAt HO.out k
      rw [← hx] at hcl
      have HNX := Lib.hid (HN.out x (by rw [hx]; exact List.getElem_mem hlt))
      have HXK := Lib.hid hxk
      clear hown hgr hcl0 hx hxk
      obtain ⟨n, hn⟩ := HNX.out
      have HNN := Lib.hid hn
      have HWN := Lib.hid (wnOf_wh hn)
      clear hn
      have hc : ∀ w, (convert 38 2 (.float .f64 x)).run Tryz.prog w = .ok (.int .i64 (wnOf x)) w := fun w => by rw [HWN.out]; exact run_convert_float_int w 38 2 .f64 .i64 x n (by kernel_rfl) (by kernel_rfl) (wh_int _ _ HNN.out)
      go_wp2
      go_roundw
      case rel =>
        refine ⟨k + 1, by omega, by go_num, ?_, grown_trans HG.out (grown_setCell _ ⟨w.heap.size, k, none⟩ _)⟩
        have := (World.ownsRow.stored HO.out k (.int .i64 (wnOf x))).1
        rw [← HXK.out, fillTo_set] at this
        rw [← HXK.out]
        exact this
      case measure => simp [intOf]; omega
    · have hkl : k = l.length := by omega
      have HK := Lib.hid hkl
      have HOW := Lib.hid (show wr.ownsRow w.heap.size 2 1 (.slice (some ⟨w.heap.size, 0, none⟩) l.length l.length) l.length xs by
        have := HO.out
        rw [HK.out, ← HXL.out, fillTo_all, HXL.out] at this
        exact this)
      clear hown hgr hkl
      go_wp2
      go_ret
      refine ⟨_, rfl, ?_, HB.out⟩
      have := Slc.owned HOW.out
      rw [show xs = ints (l.map wnOf) by rw [HXS.out]; simp [ints]] at this
      exact this
end Go.Proofs.YtbfcdpabjailcaaGreatDoor

/- Package squeeze, walked: Least, Tight. -/
namespace Go.Proofs.YtbfcdpabjailcaaGreatDoor
open Go.RowKit Fl
set_option linter.unusedVariables false
set_option maxRecDepth 100000

/-- Its numbers are numbers of the document. -/
def VV.nm : VV → Prop
  | .ints l => ∀ z ∈ l, sm z = true | .floats l => ∀ x ∈ l, Num x | _ => True
theorem VV.nums_num {V : VV} (h : V.ok) (hn : V.nm) : ∀ x ∈ V.nums, Num x := by
  intro x hx
  cases V with
  | bits l => simp only [VV.nums, List.mem_map] at hx; obtain ⟨b, _, rfl⟩ := hx; exact num_flag b
  | smalls l => simp only [VV.nums, List.mem_map] at hx; obtain ⟨z, hz, rfl⟩ := hx; exact num_ofInt z (sm_i8 (h.2 z hz).1 (h.2 z hz).2)
  | ints l => simp only [VV.nums, List.mem_map] at hx; obtain ⟨z, hz, rfl⟩ := hx; exact num_ofInt z (hn z hz)
  | floats l => exact hn x hx
  | none => simp [VV.nums] at hx
  | chars l => simp [VV.nums] at hx
  | boxes l => simp [VV.nums] at hx
/-- The least kind of a vector. -/
noncomputable def VV.least (V : VV) : Nat := match V with | .bits _ => 1 | .chars _ => 5 | .boxes _ => 6 | V => leastW V.nums
theorem VV.least_num {V : VV} (h1 : V.kind ≠ 1) (h2 : V.cls = 0) : V.least = leastW V.nums := by
  cases V <;> first | rfl | exact absurd rfl h1 | (simp [VV.cls] at h2)
theorem VV.least_oth {V : VV} (h : V.kind = 1 ∨ V.cls ≠ 0) : (V.least : Int) = V.kind := by
  cases V <;> simp [VV.kind, VV.cls] at h <;> rfl
theorem VV.nums_lenle {V : VV} : V.nums.length ≤ V.len := by cases V <;> simp [VV.nums, VV.len]

set_option maxHeartbeats 4000000 in
theorem least_calls {ok : Nat → Prop} (u : Value) (V : VV) (w : World) (h : IsV w ok u V) (hok : V.ok) (hn : V.nm) (hT : TabAt w) : Calls Tryz.prog 76 #[.agg #[u]] w fun e w' => e = .returned (.int .i64 (V.least : Int)) ∧ Below w.heap.size w w' := by
  have H := Lib.hid h
  have HOK := Lib.hid hok
  have HNU := Lib.hid (VV.nums_num hok hn)
  have HT := Lib.hid hT
  have HB := Lib.hid (Below.refl w.heap.size w)
  have hst := h.store
  clear h hok hn hT
  by_cases hk : V.kind = 1
  · have HK := Lib.hid hk
    have HL := Lib.hid (VV.least_oth (.inl hk))
    rw [HL.out, HK.out]
    clear hk
    obtain ⟨W1, hWn⟩ : ∃ W1, (w.alloc (.cells #[u] 29)) = W1 := ⟨_, rfl⟩
    have hB : Below w.heap.size w W1 := by rw [← hWn]; exact (below_new _ _)
    replace H := Lib.hid (H.out.grow hB)
    replace HT := Lib.hid (fun j hj => keep_below hB _ _ (HT.out j hj))
    replace HB := Lib.hid (HB.out.trans (hB.mono HB.out.size))
    have HA := Lib.hid (show At1 W1 w.heap.size (u) by rw [← hWn]; exact At1.new w (u) 29)
    clear hB
    have cHA := HA.out.2.1
    go_enter Tryz.func76, Tryz.ntmps76
    go_wp2_with fail
    clear hWn
    refine (kind_calls _ _ _ H.out).mono ?_
    clear cHA
    rintro e W2 ⟨rfl, hB⟩
    replace H := Lib.hid (H.out.grow hB)
    replace HT := Lib.hid (fun j hj => keep_below hB _ _ (HT.out j hj))
    replace HA := Lib.hid (HA.out.below hB)
    replace HB := Lib.hid (HB.out.trans (hB.mono HB.out.size))
    rw [HK.out]
    clear hB
    have cHA := HA.out.2.1
    go_wp2_with fail
    refine (kind_calls _ _ _ H.out).mono ?_
    clear cHA
    rintro e W3 ⟨rfl, hB⟩
    replace H := Lib.hid (H.out.grow hB)
    replace HT := Lib.hid (fun j hj => keep_below hB _ _ (HT.out j hj))
    replace HA := Lib.hid (HA.out.below hB)
    replace HB := Lib.hid (HB.out.trans (hB.mono HB.out.size))
    rw [HK.out]
    clear hB
    have cHA := HA.out.2.1
    go_wp2
    go_ret
    exact ⟨rfl, HB.out⟩
  · have hkb : (V.kind == 1) = false := by simpa using hk
    obtain ⟨K, hK⟩ : ∃ K, V.kind = K := ⟨_, rfl⟩
    have HK := Lib.hid hK
    rw [hK] at hkb
    by_cases hc : V.cls = 0
    · have HC := Lib.hid hc
      have HL := Lib.hid (VV.least_num hk hc)
      rw [HL.out]
      have HLN := Lib.hid (show V.nums.length ≤ 2000000 from Nat.le_trans VV.nums_lenle (Nat.le_trans (VV.ok_len HOK.out) (by omega)))
      have HVL := Lib.hid (VV.ok_len HOK.out)
      clear hk hc hK
      obtain ⟨l, hl⟩ : ∃ l, V.nums = l := ⟨_, rfl⟩
      have HN := Lib.hid hl
      rw [hl] at HNU HLN ⊢
      clear hl HL
      obtain ⟨W1, hWn⟩ : ∃ W1, (w.alloc (.cells #[u] 29)) = W1 := ⟨_, rfl⟩
      have hB : Below w.heap.size w W1 := by rw [← hWn]; exact (below_new _ _)
      replace H := Lib.hid (H.out.grow hB)
      replace HT := Lib.hid (fun j hj => keep_below hB _ _ (HT.out j hj))
      replace HB := Lib.hid (HB.out.trans (hB.mono HB.out.size))
      have HA := Lib.hid (show At1 W1 w.heap.size (u) by rw [← hWn]; exact At1.new w (u) 29)
      clear hB
      have cHA := HA.out.2.1
      go_enter Tryz.func76, Tryz.ntmps76
      go_wp2_with fail
      clear hWn
      refine (kind_calls _ _ _ H.out).mono ?_
      clear cHA
      rintro e W2 ⟨rfl, hB⟩
      replace H := Lib.hid (H.out.grow hB)
      replace HT := Lib.hid (fun j hj => keep_below hB _ _ (HT.out j hj))
      replace HA := Lib.hid (HA.out.below hB)
      replace HB := Lib.hid (HB.out.trans (hB.mono HB.out.size))
      rw [HK.out]
      clear hB
      have cHA := HA.out.2.1
      go_wp2_with fail
      refine (class_calls _ _ _ H.out).mono ?_
      clear cHA
      rintro e W3 ⟨rfl, hB⟩
      replace H := Lib.hid (H.out.grow hB)
      replace HT := Lib.hid (fun j hj => keep_below hB _ _ (HT.out j hj))
      replace HA := Lib.hid (HA.out.below hB)
      replace HB := Lib.hid (HB.out.trans (hB.mono HB.out.size))
      rw [HC.out]
      clear hB
      have cHA := HA.out.2.1
      go_wp2_with fail
      refine (vnums_calls _ _ _ H.out HOK.out HT.out).mono ?_
      clear cHA
      rintro e W4 ⟨v, rfl, hs, hB⟩
      replace H := Lib.hid (H.out.grow hB)
      replace HT := Lib.hid (fun j hj => keep_below hB _ _ (HT.out j hj))
      replace HA := Lib.hid (HA.out.below hB)
      replace HB := Lib.hid (HB.out.trans (hB.mono HB.out.size))
      have HV := Lib.hid (show Slc W4 _ v l.length (f64s l) by have := hs.any; rw [HN.out] at this; exact this)
      clear hs
      clear hB
      have cHA := HA.out.2.1
      obtain ⟨ao, cap, rfl, _⟩ := HV.out.opened
      go_wp2
      have hll := HLN.out
      go_loopw [3, 19] (fun q i wr => ∃ k : Nat, k ≤ l.length ∧ i = .int .i64 k ∧ q = .int .i64 (leastW (l.take k) : Int) ∧ wr = W4) (fun _ i _ => l.length - (intOf i).toNat)
      case atStart => exact ⟨0, by omega, rfl, by rw [List.take_zero, leastW_nil]; rfl, rfl⟩
      case round =>
        obtain ⟨k, hk, rfl, rfl, rfl⟩ := hrel
        obtain ⟨q, hq⟩ : ∃ q, q = leastW (l.take k) := ⟨_, rfl⟩
        have HQ := Lib.hid hq
        rw [← hq]
        clear hq
        by_cases hlt : k < l.length
        · obtain ⟨b, off, cap', x, e1, hx, hcx⟩ := Slc.at_map (Value.float .f64) (show Slc _ _ (.slice ao l.length cap) l.length (l.map (Value.float .f64)) from HV.out) k hlt
          obtain ⟨e1a, e1b⟩ : ao = some ⟨b, off, none⟩ ∧ cap = cap' := by cases e1; exact ⟨rfl, rfl⟩
          subst e1a
          have HNx := Lib.hid (HNU.out x (List.mem_of_getElem? hx))
          have HTK := Lib.hid (leastW_take hx)
          rw [← HQ.out] at HTK
          clear hx e1 e1b
          by_cases hgt : q < kindW x
          · have HK2 := Lib.hid (show leastW (l.take (k + 1)) = kindW x by rw [HTK.out]; omega)
            obtain ⟨m, hm⟩ : ∃ m, kindW x = m := ⟨_, rfl⟩
            have HKM := Lib.hid hm
            rw [hm] at hgt
            clear hm
            go_wp2_with fail
            refine (leastof_calls _ _ HNx.out).mono ?_
            rintro e w' ⟨rfl, rfl⟩
            rw [HKM.out]
            go_wp2
            go_roundw
            case rel => exact ⟨k + 1, by omega, by go_num, by rw [HK2.out, HKM.out], by trivial⟩
            case measure => simp [intOf]; omega
          · have HK2 := Lib.hid (show leastW (l.take (k + 1)) = q by rw [HTK.out]; omega)
            obtain ⟨m, hm⟩ : ∃ m, kindW x = m := ⟨_, rfl⟩
            have HKM := Lib.hid hm
            rw [hm] at hgt
            clear hm
            go_wp2_with fail
            refine (leastof_calls _ _ HNx.out).mono ?_
            rintro e w' ⟨rfl, rfl⟩
            rw [HKM.out]
            go_wp2
            go_roundw
            case rel => exact ⟨k + 1, by omega, by go_num, by rw [HK2.out], by trivial⟩
            case measure => simp [intOf]; omega
        · have hkl : k = l.length := by omega
          have HE := Lib.hid (show leastW l = q by have := HQ.out; rw [hkl, List.take_length] at this; exact this.symm)
          clear hkl
          have hnl := HVL.out
          have cHA := HA.out.2.1
          by_cases hq1 : q = 1
          · subst hq1
            go_wp2_with fail
            refine (vlen_calls _ _ _ H.out).mono ?_
            rintro e w' ⟨rfl, hB⟩
            replace HB := Lib.hid (HB.out.trans (hB.mono HB.out.size))
            clear hB
            go_wp2
            go_ret
            exact ⟨ret_i (by rw [HE.out]; rfl), HB.out⟩
          · go_wp2
            go_ret
            exact ⟨ret_i (by rw [HE.out]), HB.out⟩
    · have HL := Lib.hid (VV.least_oth (.inr hc))
      rw [HL.out]
      have hcb : (V.cls != 0) = true := by simpa using hc
      obtain ⟨C, hC⟩ : ∃ C, V.cls = C := ⟨_, rfl⟩
      have HC := Lib.hid hC
      rw [hC] at hcb
      rw [hK]
      clear hk hc hK hC
      obtain ⟨W1, hWn⟩ : ∃ W1, (w.alloc (.cells #[u] 29)) = W1 := ⟨_, rfl⟩
      have hB : Below w.heap.size w W1 := by rw [← hWn]; exact (below_new _ _)
      replace H := Lib.hid (H.out.grow hB)
      replace HT := Lib.hid (fun j hj => keep_below hB _ _ (HT.out j hj))
      replace HB := Lib.hid (HB.out.trans (hB.mono HB.out.size))
      have HA := Lib.hid (show At1 W1 w.heap.size (u) by rw [← hWn]; exact At1.new w (u) 29)
      clear hB
      have cHA := HA.out.2.1
      go_enter Tryz.func76, Tryz.ntmps76
      go_wp2_with fail
      clear hWn
      refine (kind_calls _ _ _ H.out).mono ?_
      clear cHA
      rintro e W2 ⟨rfl, hB⟩
      replace H := Lib.hid (H.out.grow hB)
      replace HT := Lib.hid (fun j hj => keep_below hB _ _ (HT.out j hj))
      replace HA := Lib.hid (HA.out.below hB)
      replace HB := Lib.hid (HB.out.trans (hB.mono HB.out.size))
      rw [HK.out]
      clear hB
      have cHA := HA.out.2.1
      go_wp2_with fail
      refine (class_calls _ _ _ H.out).mono ?_
      clear cHA
      rintro e W3 ⟨rfl, hB⟩
      replace H := Lib.hid (H.out.grow hB)
      replace HT := Lib.hid (fun j hj => keep_below hB _ _ (HT.out j hj))
      replace HA := Lib.hid (HA.out.below hB)
      replace HB := Lib.hid (HB.out.trans (hB.mono HB.out.size))
      rw [HC.out]
      clear hB
      have cHA := HA.out.2.1
      go_wp2_with fail
      refine (kind_calls _ _ _ H.out).mono ?_
      clear cHA
      rintro e W4 ⟨rfl, hB⟩
      replace H := Lib.hid (H.out.grow hB)
      replace HT := Lib.hid (fun j hj => keep_below hB _ _ (HT.out j hj))
      replace HA := Lib.hid (HA.out.below hB)
      replace HB := Lib.hid (HB.out.trans (hB.mono HB.out.size))
      rw [HK.out]
      clear hB
      have cHA := HA.out.2.1
      go_wp2
      go_ret
      exact ⟨rfl, HB.out⟩

set_option maxHeartbeats 2000000 in
theorem tight_calls {ok : Nat → Prop} (u : Value) (V : VV) (w : World) (h : IsV w ok u V) (hok : V.ok) (hn : V.nm) (hT : TabAt w) : Calls Tryz.prog 65 #[.agg #[u]] w fun e w' => e = .returned (.bool (decide (V.kind = V.least))) ∧ Below w.heap.size w w' := by
  have H := Lib.hid h
  have HOK := Lib.hid hok
  have HN := Lib.hid hn
  have HT := Lib.hid hT
  have HB := Lib.hid (Below.refl w.heap.size w)
  have hst := h.store
  clear h hok hn hT
  obtain ⟨W1, hWn⟩ : ∃ W1, (w.alloc (.cells #[u] 29)) = W1 := ⟨_, rfl⟩
  have hB : Below w.heap.size w W1 := by rw [← hWn]; exact (below_new _ _)
  replace H := Lib.hid (H.out.grow hB)
  replace HT := Lib.hid (fun j hj => keep_below hB _ _ (HT.out j hj))
  replace HB := Lib.hid (HB.out.trans (hB.mono HB.out.size))
  have HA := Lib.hid (show At1 W1 w.heap.size (u) by rw [← hWn]; exact At1.new w (u) 29)
  clear hB
  have cHA := HA.out.2.1
  have HK := Lib.hid (show ∀ wx, Below W1.heap.size W1 wx → Calls Tryz.prog 23 #[.agg #[u]] wx fun e w' => e = .returned (.int .i64 V.kind) ∧ Below wx.heap.size wx w' from fun wx hx => kind_calls u V wx (H.out.grow hx))
  have HL := Lib.hid (show ∀ wx, Below W1.heap.size W1 wx → Calls Tryz.prog 76 #[.agg #[u]] wx fun e w' => e = .returned (.int .i64 (V.least : Int)) ∧ Below wx.heap.size wx w' from fun wx hx => least_calls u V wx (H.out.grow hx) HOK.out HN.out (fun j hj => keep_below hx _ _ (HT.out j hj)))
  obtain ⟨K, hK⟩ : ∃ K, V.kind = K := ⟨_, rfl⟩
  obtain ⟨L, hL⟩ : ∃ L : Int, (V.least : Int) = L := ⟨_, rfl⟩
  rw [hK] at HK ⊢
  rw [hL] at HL ⊢
  clear hK hL
  go_enter Tryz.func65, Tryz.ntmps65
  go_wp2_with fail
  clear hWn
  refine region_grow W1 (by kernel_rfl) (by kernel_rfl) (Below.refl _ _) ?_
  intro Ω _ WW hW hI
  have HW' := Lib.hid hW
  have HI' := Lib.hid hI
  have qHA := fun y => ((HA.out.below (hW y)).2.1)
  clear cHA
  clear hW hI
  repeat (go_big_quiet_step ((first | (go_at_call 23; exact Calls.quiet_grow HW'.out HI'.out (HK.out _ (HW'.out _))) | (go_at_call 76; exact Calls.quiet_grow HW'.out HI'.out (HL.out _ (HW'.out _))))))
  refine wpQuiet_nil ?_
  rintro W2 ⟨yy, rfl⟩
  obtain ⟨W2, hWn⟩ : ∃ X, WW yy = X := ⟨_, rfl⟩
  have hB : Below W1.heap.size W1 W2 := by rw [← hWn]; exact HW'.out yy
  rw [hWn]
  clear qHA hWn
  replace H := Lib.hid (H.out.grow hB)
  replace HT := Lib.hid (fun j hj => keep_below hB _ _ (HT.out j hj))
  replace HA := Lib.hid (HA.out.below hB)
  replace HB := Lib.hid (HB.out.trans (hB.mono HB.out.size))
  clear hB
  have cHA := HA.out.2.1
  go_wp2
  go_ret
  exact ⟨ret_b (by first | rfl | simp), HB.out⟩
end Go.Proofs.YtbfcdpabjailcaaGreatDoor

/- Package squeeze, walked: Into, Squeeze, Numbers. -/
namespace Go.Proofs.YtbfcdpabjailcaaGreatDoor
open Go.RowKit Fl
set_option linter.unusedVariables false
set_option maxRecDepth 100000

/-- Does it fit a kind? -/
noncomputable def VV.fit (V : VV) (k : Int) : Bool := decide (V.kind = k) || (decide (V.cls = 0) && decide (1 ≤ k ∧ k ≤ 4) && decide ((V.least : Int) ≤ k))
/-- .. brought there. -/
noncomputable def VV.into (V : VV) (k : Int) : VV :=
  if V.kind = k then V else if V.fit k = false then .none else if k = 1 then .bits (V.nums.map bitW) else if k = 2 then .smalls (V.nums.map wnOf) else if k = 3 then .ints (V.nums.map wnOf) else .floats V.nums
theorem ze_same {x : Nat} (h : Num x) : ze x = x := by
  unfold ze
  split
  · rename_i hv; exact (h.2 hv).symm
  · rfl
theorem map_ze {l : List Nat} (h : ∀ x ∈ l, Num x) : l.map ze = l := by
  conv => rhs; rw [← List.map_id l]
  exact List.map_congr_left (fun x hx => ze_same (h x hx))
theorem map_back {α β : Type} {f : β → α} {g : α → β} {l : List α} (h : ∀ x ∈ l, f (g x) = x) : (l.map g).map f = l := by
  rw [List.map_map]
  conv => rhs; rw [← List.map_id l]
  exact List.map_congr_left (fun x hx => h x hx)
theorem flag_bit {x : Nat} (h : Num x) (h1 : kindW x = 1) : flagW (bitW x) = x := by
  unfold flagW bitW
  rcases kind_one' h h1 with hv | hv
  · have hp := pw_pos 1074
    rw [if_neg (by rw [decide_eq_true_eq]; omega)]
    exact (h.2 (V_eq_zero.1 hv)).symm
  · rw [if_pos (decide_eq_true hv)]
    exact V_inj num_one h (V_one.trans hv.symm)
theorem VV.fit_own (V : VV) : V.fit V.kind = true := by simp [VV.fit]
theorem VV.into_own (V : VV) : V.into V.kind = V := by simp [VV.into]
theorem VV.into_no {V : VV} {k : Int} (h : V.fit k = false) : V.into k = .none := by
  unfold VV.into
  rw [if_neg (fun e => by rw [← e, VV.fit_own] at h; cases h), if_pos h]
theorem VV.least_le {V : VV} {k : Int} (h0 : V.kind ≠ k) (h : V.fit k = true) : V.cls = 0 ∧ (1 ≤ k ∧ k ≤ 4) ∧ (V.least : Int) ≤ k := by
  simp only [VV.fit, Bool.or_eq_true, Bool.and_eq_true, decide_eq_true_eq] at h
  rcases h with h | ⟨⟨h1, h2⟩, h3⟩
  · exact absurd h h0
  · exact ⟨h1, h2, h3⟩
theorem VV.leastW_le {V : VV} (hok : V.ok) (hn : V.nm) (h : V.cls = 0) : leastW V.nums ≤ V.least := by
  cases V with
  | bits l =>
    refine leastW_all (Nat.le_refl _) (fun x hx => ?_)
    simp only [VV.nums, List.mem_map] at hx
    obtain ⟨b, _, rfl⟩ := hx
    cases b
    · have : kindW 0 = 1 := kind_one num_zero (.inl V_zero)
      exact Nat.le_of_eq this
    · have : kindW 4607182418800017408 = 1 := kind_one num_one (.inr V_one)
      exact Nat.le_of_eq this
  | chars l => simp [VV.cls] at h
  | boxes l => simp [VV.cls] at h
  | none => exact Nat.le_refl _
  | smalls l => exact Nat.le_refl _
  | ints l => exact Nat.le_refl _
  | floats l => exact Nat.le_refl _
/-- What is brought into a kind that it fits keeps its numbers. -/
theorem VV.into_spec {V : VV} {k : Int} (hok : V.ok) (hn : V.nm) (h : V.fit k = true) : (V.into k).kind = k ∧ (V.into k).nums = V.nums ∧ (V.into k).cls = V.cls ∧ (V.into k).ok ∧ (V.into k).nm ∧ (V.into k).len = V.len := by
  by_cases h0 : V.kind = k
  · subst h0; rw [VV.into_own]; exact ⟨rfl, rfl, rfl, hok, hn, rfl⟩
  · obtain ⟨h1, h2, h3⟩ := VV.least_le h0 h
    have hN := VV.nums_num hok hn
    have hL := VV.leastW_le hok hn h1
    have hlen := VV.ok_len hok
    have hnl : V.nums.length = V.len := by cases V <;> simp [VV.nums, VV.len, VV.cls] at h1 ⊢
    have hnl2 : V.nums.length ≤ 1048576 := by omega
    unfold VV.into
    rw [if_neg h0, if_neg (by rw [h]; decide)]
    by_cases k1 : k = 1
    · subst k1
      rw [if_pos rfl]
      have hk : ∀ x ∈ V.nums, kindW x = 1 := fun x hx => by have := leastW_mem hx; have := kindW_le x; omega
      refine ⟨rfl, ?_, h1.symm, by simpa [VV.ok] using hnl2, trivial, by simpa [VV.len] using hnl⟩
      exact map_back (fun x hx => flag_bit (hN x hx) (hk x hx))
    · rw [if_neg k1]
      by_cases k4 : k = 4
      · subst k4
        rw [if_neg (by decide), if_neg (by decide)]
        exact ⟨rfl, rfl, h1.symm, hnl2, hN, hnl⟩
      · obtain ⟨w1, w2⟩ := whole_list hN (by omega)
        by_cases k2 : k = 2
        · subst k2
          rw [if_pos rfl]
          refine ⟨rfl, w1.symm, h1.symm, ⟨by simpa using hnl2, fun z hz => ?_⟩, trivial, by simpa [VV.len] using hnl⟩
          have := (w2 z hz).2
          unfold kindZ at this
          split at this
          · omega
          · split at this
            · assumption
            · omega
        · rw [if_neg k2, if_pos (by omega)]
          refine ⟨by show (3 : Int) = k; omega, w1.symm, h1.symm, by simpa [VV.ok] using hnl2, fun z hz => ?_, by simpa [VV.len] using hnl⟩
          have := (w2 z hz).1
          exact sm_yes (by omega) (by omega)
theorem Slx.setn {w : World} {ok : Nat → Prop} {s : Value} {n : Nat} {xs : List Value} (h : Slx w ok s n xs) {p : Addr} {u : Value} (hp : w.cell? p = some u) (hu : ∀ y ∈ xs, y ≠ u) (x : Value) : Slx (w.setCell p x) ok s n xs := by
  obtain ⟨hl, ao, cap, rfl, hc⟩ := h
  refine ⟨hl, ao, cap, rfl, fun i hi => ?_⟩
  obtain ⟨b, off, e, hb, hcell⟩ := hc i hi
  refine ⟨b, off, e, hb, ?_⟩
  rw [World.cell?_setCell_other _ _ _ _ (fun ep => ?_)]
  · exact hcell
  · rw [← ep] at hcell
    exact hu _ (List.getElem_mem hi) (Option.some.inj (hcell.symm.trans hp))
/-- A cell that holds no interface is none of a vector's, but of boxes. -/
theorem IsV.setn {w : World} {ok : Nat → Prop} {u : Value} {V : VV} (h : IsV w ok u V) (hV : V.kind ≠ 6) {p : Addr} (hp : w.cell? p = some .nilIface) (x : Value) : IsV (w.setCell p x) ok u V := by
  cases h with
  | none => exact .none
  | bits h hm => exact .bits (h.setn hp (fun y hy => by simp only [u64s, List.mem_map] at hy; obtain ⟨z, _, rfl⟩ := hy; intro e; cases e) x) hm
  | smalls h => exact .smalls ⟨h.1.setn hp (fun y hy => by simp only [i8s, List.mem_map] at hy; obtain ⟨z, _, rfl⟩ := hy; intro e; cases e) x, h.2⟩
  | ints h => exact .ints ⟨h.1.setn hp (fun y hy => by simp only [Go.Proofs.YtbfcdpabjailcaaGreatDoor.ints, List.mem_map] at hy; obtain ⟨z, _, rfl⟩ := hy; intro e; cases e) x, h.2⟩
  | floats h => exact .floats ⟨h.1.setn hp (fun y hy => by simp only [f64s, List.mem_map] at hy; obtain ⟨z, _, rfl⟩ := hy; intro e; cases e) x, h.2⟩
  | chars h => exact .chars ⟨h.1.setn hp (fun y hy => by simp only [i32s, List.mem_map] at hy; obtain ⟨z, _, rfl⟩ := hy; intro e; cases e) x, h.2⟩
  | boxes f g h1 h2 hc hs hv => exact absurd rfl hV
theorem IsV.setb {w : World} {ok : Nat → Prop} {u : Value} {V : VV} (h : IsV w ok u V) {p : Addr} (hp : ¬ ok p.block) (x : Value) : IsV (w.setCell p x) ok u V := h.keep (Kept.setCell w p x hp) (fun _ _ h => h)
/-- What a vector's cells may lie in. -/
def VV.nb (V : VV) (ok : Nat → Prop) : Nat → Prop := ok
theorem IsV.nbk {w : World} {ok : Nat → Prop} {u : Value} {V : VV} (h : IsV w ok u V) {ok' : Nat → Prop} (hm : ∀ b, b < w.heap.size → ok b → ok' b) : IsV w (V.nb ok') u V := h.wide hm
theorem IsV.nbw {w : World} {ok : Nat → Prop} {u : Value} {V : VV} (h : IsV w (V.nb ok) u V) {ok' : Nat → Prop} (hm : ∀ b, b < w.heap.size → ok b → ok' b) : IsV w (V.nb ok') u V := h.wide hm
theorem leastW_i8 {l : List Nat} (h : leastW l ≤ 2) : ∀ x ∈ l, ∃ n, Wh x n ∧ -128 ≤ n ∧ n ≤ 127 := by
  intro x hx
  have := leastW_mem hx
  obtain ⟨n, hn, e⟩ := kindW_lt (x := x) (by omega)
  refine ⟨n, hn, ?_⟩
  unfold kindZ at e
  split at e
  · omega
  · split at e
    · assumption
    · omega
theorem leastW_wh {l : List Nat} (h : leastW l ≤ 3) : ∀ x ∈ l, ∃ n, Wh x n := by
  intro x hx
  have := leastW_mem hx
  obtain ⟨n, hn, e⟩ := kindW_lt (x := x) (by omega)
  exact ⟨n, hn⟩

set_option maxHeartbeats 4000000 in
theorem sinto_calls {ok : Nat → Prop} (u : Value) (V : VV) (k : Int) (w : World) (h : IsV w (V.nb ok) u V) (hok : V.ok) (hn : V.nm) (hT : TabAt w) :
    Calls Tryz.prog 75 #[.agg #[u], .int .i64 k] w fun e w' => ∃ u', e = .returned (.tuple #[.agg #[u'], .bool (V.fit k)]) ∧ IsV w' ((V.into k).nb (fun b => ok b ∨ w.heap.size ≤ b)) u' (V.into k) ∧ Below w.heap.size w w' := by
  have H := Lib.hid h.lt
  have HOK := Lib.hid hok
  have HN := Lib.hid hn
  have HNU := Lib.hid (VV.nums_num hok hn)
  have HT := Lib.hid hT
  have HB := Lib.hid (Below.refl w.heap.size w)
  have hst := h.store
  clear h hok hn hT
  obtain ⟨K, hK⟩ : ∃ K, V.kind = K := ⟨_, rfl⟩
  have HK := Lib.hid hK
  by_cases h0 : V.kind = k
  · have HF := Lib.hid (show V.fit k = true by rw [← h0]; exact VV.fit_own V)
    have HI := Lib.hid (show V.into k = V by rw [← h0]; exact VV.into_own V)
    rw [HF.out, HI.out]
    have hb : (K == k) = true := by rw [← hK, h0]; simp
    have HE := Lib.hid (show V.kind = K from hK)
    clear h0 hK
    obtain ⟨W1, hWn⟩ : ∃ W1, ((w.alloc (.cells #[u] 29)).alloc (.cells #[.nilIface] 29)) = W1 := ⟨_, rfl⟩
    have hB : Below w.heap.size w W1 := by rw [← hWn]; exact ((below_new _ _).alloc (by simp <;> omega) _)
    replace H := Lib.hid (H.out.grow hB)
    replace HT := Lib.hid (fun j hj => keep_below hB _ _ (HT.out j hj))
    replace HB := Lib.hid (HB.out.trans (hB.mono HB.out.size))
    have HA := Lib.hid (show At1 W1 w.heap.size (u) by rw [← hWn]; exact (At1.new w (u) 29).below (below_new _ _))
    have HR := Lib.hid (show At1 W1 (w.heap.size + 1) (.nilIface) by rw [← hWn]; have := At1.new (w.alloc (.cells #[u] 29)) (.nilIface) 29; simpa using this)
    clear hB
    have cHA := HA.out.2.1
    have cHR := HR.out.2.1
    go_enter Tryz.func75, Tryz.ntmps75
    go_wp2_with fail
    clear hWn
    refine (kind_calls _ _ _ H.out).mono ?_
    clear cHA cHR
    rintro e W2 ⟨rfl, hB⟩
    replace H := Lib.hid (H.out.grow hB)
    replace HT := Lib.hid (fun j hj => keep_below hB _ _ (HT.out j hj))
    replace HA := Lib.hid (HA.out.below hB)
    replace HR := Lib.hid (HR.out.below hB)
    replace HB := Lib.hid (HB.out.trans (hB.mono HB.out.size))
    rw [HK.out]
    clear hB
    have cHA := HA.out.2.1
    have cHR := HR.out.2.1
    have fHR := HR.out.2.2 0
    go_wp2
    refine bodyPost_ret (v := .tuple #[.agg #[u], .bool true]) (by simp [results, Tryz.results75, go_sem, cHR]) rfl ⟨_, rfl, (H.out.setb (fun h => absurd h.2 (by show ¬ (_ + 1 < _); omega)) _).wide (fun b _ h => .inl h.1), below_set1 _ HB.out (by omega)⟩
  · have hb : (K == k) = false := by rw [← hK]; simpa using h0
    obtain ⟨C, hC⟩ : ∃ C, V.cls = C := ⟨_, rfl⟩
    have HC := Lib.hid hC
    by_cases hc : V.cls = 0
    · by_cases hnm : 1 ≤ k ∧ k ≤ 4
      · obtain ⟨L, hL⟩ : ∃ L : Int, (V.least : Int) = L := ⟨_, rfl⟩
        have HL := Lib.hid hL
        have HD := Lib.hid (decide_eq_true hnm)
        by_cases hle : (V.least : Int) ≤ k
        · have HF := Lib.hid (show V.fit k = true by unfold VV.fit; rw [decide_eq_true hc, decide_eq_true hnm, decide_eq_true hle]; simp)
          have hnl : V.nums.length ≤ 1048576 := Nat.le_trans VV.nums_lenle (VV.ok_len HOK.out)
          have HNL := Lib.hid hnl
          have HLW := Lib.hid (VV.leastW_le HOK.out HN.out hc)
          rw [HF.out]
          have HE := Lib.hid (show V.into k = if k = 1 then .bits (V.nums.map bitW) else if k = 2 then .smalls (V.nums.map wnOf) else if k = 3 then .ints (V.nums.map wnOf) else .floats V.nums by unfold VV.into; rw [if_neg h0, if_neg (by rw [HF.out]; decide)])
          have hcC : (C != 0) = false := by rw [← hC, hc]; rfl
          have hLk : ¬ k < L := by omega
          rw [HE.out]
          have HNM := Lib.hid hnm
          obtain ⟨l, hl⟩ : ∃ l, V.nums = l := ⟨_, rfl⟩
          rw [hl] at HNU HNL HLW HE ⊢
          have HV := Lib.hid hl
          clear h0 hc hK hC hL hl hle hnl
          have hk4 : k = 1 ∨ k = 2 ∨ k = 3 ∨ k = 4 := by omega
          clear hnm
          rcases hk4 with rfl | rfl | rfl | rfl
          · obtain ⟨W1, hWn⟩ : ∃ W1, ((w.alloc (.cells #[u] 29)).alloc (.cells #[.nilIface] 29)) = W1 := ⟨_, rfl⟩
            have hB : Below w.heap.size w W1 := by rw [← hWn]; exact ((below_new _ _).alloc (by simp <;> omega) _)
            replace H := Lib.hid (H.out.grow hB)
            replace HT := Lib.hid (fun j hj => keep_below hB _ _ (HT.out j hj))
            replace HB := Lib.hid (HB.out.trans (hB.mono HB.out.size))
            have HA := Lib.hid (show At1 W1 w.heap.size (u) by rw [← hWn]; exact (At1.new w (u) 29).below (below_new _ _))
            have HR := Lib.hid (show At1 W1 (w.heap.size + 1) (.nilIface) by rw [← hWn]; have := At1.new (w.alloc (.cells #[u] 29)) (.nilIface) 29; simpa using this)
            clear hB
            have cHA := HA.out.2.1
            have cHR := HR.out.2.1
            go_enter Tryz.func75, Tryz.ntmps75
            go_wp2_with fail
            clear hWn
            refine (kind_calls _ _ _ H.out).mono ?_
            clear cHA cHR
            rintro e W2 ⟨rfl, hB⟩
            replace H := Lib.hid (H.out.grow hB)
            replace HT := Lib.hid (fun j hj => keep_below hB _ _ (HT.out j hj))
            replace HA := Lib.hid (HA.out.below hB)
            replace HR := Lib.hid (HR.out.below hB)
            replace HB := Lib.hid (HB.out.trans (hB.mono HB.out.size))
            rw [HK.out]
            clear hB
            have cHA := HA.out.2.1
            have cHR := HR.out.2.1
            go_wp2_with fail
            refine (class_calls _ _ _ H.out).mono ?_
            clear cHA cHR
            rintro e W3 ⟨rfl, hB⟩
            replace H := Lib.hid (H.out.grow hB)
            replace HT := Lib.hid (fun j hj => keep_below hB _ _ (HT.out j hj))
            replace HA := Lib.hid (HA.out.below hB)
            replace HR := Lib.hid (HR.out.below hB)
            replace HB := Lib.hid (HB.out.trans (hB.mono HB.out.size))
            rw [HC.out]
            clear hB
            have cHA := HA.out.2.1
            have cHR := HR.out.2.1
            go_wp2_with fail
            refine (Calls.grow_same (numeric_calls _ _)).mono ?_
            clear cHA cHR
            rintro e W4 ⟨rfl, hB⟩
            replace H := Lib.hid (H.out.grow hB)
            replace HT := Lib.hid (fun j hj => keep_below hB _ _ (HT.out j hj))
            replace HA := Lib.hid (HA.out.below hB)
            replace HR := Lib.hid (HR.out.below hB)
            replace HB := Lib.hid (HB.out.trans (hB.mono HB.out.size))
            rw [HD.out]
            clear hB
            have cHA := HA.out.2.1
            have cHR := HR.out.2.1
            go_wp2_with fail
            refine (least_calls _ _ _ H.out HOK.out HN.out HT.out).mono ?_
            clear cHA cHR
            rintro e W5 ⟨rfl, hB⟩
            replace H := Lib.hid (H.out.grow hB)
            replace HT := Lib.hid (fun j hj => keep_below hB _ _ (HT.out j hj))
            replace HA := Lib.hid (HA.out.below hB)
            replace HR := Lib.hid (HR.out.below hB)
            replace HB := Lib.hid (HB.out.trans (hB.mono HB.out.size))
            rw [HL.out]
            clear hB
            have cHA := HA.out.2.1
            have cHR := HR.out.2.1
            go_wp2_with fail
            refine (vnums_calls _ _ _ H.out HOK.out HT.out).mono ?_
            clear cHA cHR
            rintro e W6 ⟨v, rfl, hs, hB⟩
            replace H := Lib.hid (H.out.grow hB)
            replace HT := Lib.hid (fun j hj => keep_below hB _ _ (HT.out j hj))
            replace HA := Lib.hid (HA.out.below hB)
            replace HR := Lib.hid (HR.out.below hB)
            replace HB := Lib.hid (HB.out.trans (hB.mono HB.out.size))
            have HS := Lib.hid (show Slc W6 _ v l.length (f64s l) by have := hs.any; rw [HV.out] at this; exact this)
            clear hs
            clear hB
            have cHA := HA.out.2.1
            have cHR := HR.out.2.1
            go_wp2_with fail
            have HK1 := Lib.hid (show ∀ x ∈ l, Num x ∧ kindW x = 1 from fun x hx => ⟨HNU.out x hx, by have h1 := leastW_mem hx; have h2 := kindW_le x; have h3 := HLW.out; have h4 := HL.out; omega⟩)
            have HZ9 := Lib.hid HB.out.size
            refine (packed_fresh _ l _ HS.out HNL.out HK1.out).mono ?_
            clear cHA cHR
            rintro e W7 ⟨b, rfl, hb2, hB⟩
            replace H := Lib.hid (H.out.grow hB)
            replace HT := Lib.hid (fun j hj => keep_below hB _ _ (HT.out j hj))
            replace HA := Lib.hid (HA.out.below hB)
            replace HR := Lib.hid (HR.out.below hB)
            replace HS := Lib.hid (HS.out.below hB)
            replace HB := Lib.hid (HB.out.trans (hB.mono HB.out.size))
            have HBI := Lib.hid (hb2.keep (Kept.refl _ _) (ok' := fun b => w.heap.size ≤ b) (fun b _ h => Nat.le_trans (Nat.le_trans HZ9.out (Nat.le_succ _)) h))
            clear hb2
            clear hB
            have cHA := HA.out.2.1
            have cHR := HR.out.2.1
            go_wp2_with fail
            have HZ9 := Lib.hid HB.out.size
            refine (vbits_ok _ _ _ HBI.out (by rw [List.length_map]; exact HNL.out)).mono ?_
            clear cHA cHR
            rintro e W8 ⟨x, rfl, hu, hB⟩
            replace H := Lib.hid (H.out.grow hB)
            replace HT := Lib.hid (fun j hj => keep_below hB _ _ (HT.out j hj))
            replace HA := Lib.hid (HA.out.below hB)
            replace HR := Lib.hid (HR.out.below hB)
            replace HS := Lib.hid (HS.out.below hB)
            replace HBI := Lib.hid (HBI.out.keep (Kept.below hB) (fun _ _ h => h))
            replace HB := Lib.hid (HB.out.trans (hB.mono HB.out.size))
            have hsx := hu.store
            have HX := Lib.hid hu
            clear hu
            clear hB
            have cHA := HA.out.2.1
            have cHR := HR.out.2.1
            have fHR := HR.out.2.2 0
            go_wp2
            refine bodyPost_ret (v := .tuple #[.agg #[x], .bool true]) (by simp [results, Tryz.results75, go_sem, cHR]) rfl ⟨_, rfl, (HX.out.setn (by simp [VV.kind]) HR.out.2.1 _).wide (fun b _ h => .inr h), below_set1 _ HB.out (by omega)⟩
          · obtain ⟨W1, hWn⟩ : ∃ W1, ((w.alloc (.cells #[u] 29)).alloc (.cells #[.nilIface] 29)) = W1 := ⟨_, rfl⟩
            have hB : Below w.heap.size w W1 := by rw [← hWn]; exact ((below_new _ _).alloc (by simp <;> omega) _)
            replace H := Lib.hid (H.out.grow hB)
            replace HT := Lib.hid (fun j hj => keep_below hB _ _ (HT.out j hj))
            replace HB := Lib.hid (HB.out.trans (hB.mono HB.out.size))
            have HA := Lib.hid (show At1 W1 w.heap.size (u) by rw [← hWn]; exact (At1.new w (u) 29).below (below_new _ _))
            have HR := Lib.hid (show At1 W1 (w.heap.size + 1) (.nilIface) by rw [← hWn]; have := At1.new (w.alloc (.cells #[u] 29)) (.nilIface) 29; simpa using this)
            clear hB
            have cHA := HA.out.2.1
            have cHR := HR.out.2.1
            go_enter Tryz.func75, Tryz.ntmps75
            go_wp2_with fail
            clear hWn
            refine (kind_calls _ _ _ H.out).mono ?_
            clear cHA cHR
            rintro e W2 ⟨rfl, hB⟩
            replace H := Lib.hid (H.out.grow hB)
            replace HT := Lib.hid (fun j hj => keep_below hB _ _ (HT.out j hj))
            replace HA := Lib.hid (HA.out.below hB)
            replace HR := Lib.hid (HR.out.below hB)
            replace HB := Lib.hid (HB.out.trans (hB.mono HB.out.size))
            rw [HK.out]
            clear hB
            have cHA := HA.out.2.1
            have cHR := HR.out.2.1
            go_wp2_with fail
            refine (class_calls _ _ _ H.out).mono ?_
            clear cHA cHR
            rintro e W3 ⟨rfl, hB⟩
            replace H := Lib.hid (H.out.grow hB)
            replace HT := Lib.hid (fun j hj => keep_below hB _ _ (HT.out j hj))
            replace HA := Lib.hid (HA.out.below hB)
            replace HR := Lib.hid (HR.out.below hB)
            replace HB := Lib.hid (HB.out.trans (hB.mono HB.out.size))
            rw [HC.out]
            clear hB
            have cHA := HA.out.2.1
            have cHR := HR.out.2.1
            go_wp2_with fail
            refine (Calls.grow_same (numeric_calls _ _)).mono ?_
            clear cHA cHR
            rintro e W4 ⟨rfl, hB⟩
            replace H := Lib.hid (H.out.grow hB)
            replace HT := Lib.hid (fun j hj => keep_below hB _ _ (HT.out j hj))
            replace HA := Lib.hid (HA.out.below hB)
            replace HR := Lib.hid (HR.out.below hB)
            replace HB := Lib.hid (HB.out.trans (hB.mono HB.out.size))
            rw [HD.out]
            clear hB
            have cHA := HA.out.2.1
            have cHR := HR.out.2.1
            go_wp2_with fail
            refine (least_calls _ _ _ H.out HOK.out HN.out HT.out).mono ?_
            clear cHA cHR
            rintro e W5 ⟨rfl, hB⟩
            replace H := Lib.hid (H.out.grow hB)
            replace HT := Lib.hid (fun j hj => keep_below hB _ _ (HT.out j hj))
            replace HA := Lib.hid (HA.out.below hB)
            replace HR := Lib.hid (HR.out.below hB)
            replace HB := Lib.hid (HB.out.trans (hB.mono HB.out.size))
            rw [HL.out]
            clear hB
            have cHA := HA.out.2.1
            have cHR := HR.out.2.1
            go_wp2_with fail
            refine (vnums_calls _ _ _ H.out HOK.out HT.out).mono ?_
            clear cHA cHR
            rintro e W6 ⟨v, rfl, hs, hB⟩
            replace H := Lib.hid (H.out.grow hB)
            replace HT := Lib.hid (fun j hj => keep_below hB _ _ (HT.out j hj))
            replace HA := Lib.hid (HA.out.below hB)
            replace HR := Lib.hid (HR.out.below hB)
            replace HB := Lib.hid (HB.out.trans (hB.mono HB.out.size))
            have HS := Lib.hid (show Slc W6 _ v l.length (f64s l) by have := hs.any; rw [HV.out] at this; exact this)
            clear hs
            clear hB
            have cHA := HA.out.2.1
            have cHR := HR.out.2.1
            go_wp2_with fail
            have HK1 := Lib.hid (leastW_i8 (l := l) (by have h3 := HLW.out; have h4 := HL.out; omega))
            have HNL2 := Lib.hid (show (l.map wnOf).length ≤ 2000000 by rw [List.length_map]; have := HNL.out; omega)
            refine (whole8_calls _ l _ HS.out (by have := HNL.out; omega) HK1.out).mono ?_
            clear cHA cHR
            rintro e W7 ⟨b, rfl, hb2, hB⟩
            replace H := Lib.hid (H.out.grow hB)
            replace HT := Lib.hid (fun j hj => keep_below hB _ _ (HT.out j hj))
            replace HA := Lib.hid (HA.out.below hB)
            replace HR := Lib.hid (HR.out.below hB)
            replace HS := Lib.hid (HS.out.below hB)
            replace HB := Lib.hid (HB.out.trans (hB.mono HB.out.size))
            have HBI := Lib.hid (show Slc W7 _ b (l.map wnOf).length (i8s (l.map wnOf)) by rw [List.length_map]; exact hb2)
            clear hb2
            clear hB
            have cHA := HA.out.2.1
            have cHR := HR.out.2.1
            go_wp2_with fail
            have HZ9 := Lib.hid HB.out.size
            refine (vsmalls_calls _ _ _ HBI.out HNL2.out).mono ?_
            clear cHA cHR
            rintro e W8 ⟨x, rfl, hu, hB⟩
            replace H := Lib.hid (H.out.grow hB)
            replace HT := Lib.hid (fun j hj => keep_below hB _ _ (HT.out j hj))
            replace HA := Lib.hid (HA.out.below hB)
            replace HR := Lib.hid (HR.out.below hB)
            replace HS := Lib.hid (HS.out.below hB)
            replace HBI := Lib.hid (HBI.out.below hB)
            replace HB := Lib.hid (HB.out.trans (hB.mono HB.out.size))
            have hsx := hu.store
            have HX := Lib.hid (hu.wide (ok' := fun b => w.heap.size ≤ b) (fun b _ h => Nat.le_trans HZ9.out h))
            clear hu
            clear hB
            have cHA := HA.out.2.1
            have cHR := HR.out.2.1
            have fHR := HR.out.2.2 0
            go_wp2
            refine bodyPost_ret (v := .tuple #[.agg #[x], .bool true]) (by simp [results, Tryz.results75, go_sem, cHR]) rfl ⟨_, rfl, (HX.out.setn (by simp [VV.kind]) HR.out.2.1 _).wide (fun b _ h => .inr h), below_set1 _ HB.out (by omega)⟩
          · obtain ⟨W1, hWn⟩ : ∃ W1, ((w.alloc (.cells #[u] 29)).alloc (.cells #[.nilIface] 29)) = W1 := ⟨_, rfl⟩
            have hB : Below w.heap.size w W1 := by rw [← hWn]; exact ((below_new _ _).alloc (by simp <;> omega) _)
            replace H := Lib.hid (H.out.grow hB)
            replace HT := Lib.hid (fun j hj => keep_below hB _ _ (HT.out j hj))
            replace HB := Lib.hid (HB.out.trans (hB.mono HB.out.size))
            have HA := Lib.hid (show At1 W1 w.heap.size (u) by rw [← hWn]; exact (At1.new w (u) 29).below (below_new _ _))
            have HR := Lib.hid (show At1 W1 (w.heap.size + 1) (.nilIface) by rw [← hWn]; have := At1.new (w.alloc (.cells #[u] 29)) (.nilIface) 29; simpa using this)
            clear hB
            have cHA := HA.out.2.1
            have cHR := HR.out.2.1
            go_enter Tryz.func75, Tryz.ntmps75
            go_wp2_with fail
            clear hWn
            refine (kind_calls _ _ _ H.out).mono ?_
            clear cHA cHR
            rintro e W2 ⟨rfl, hB⟩
            replace H := Lib.hid (H.out.grow hB)
            replace HT := Lib.hid (fun j hj => keep_below hB _ _ (HT.out j hj))
            replace HA := Lib.hid (HA.out.below hB)
            replace HR := Lib.hid (HR.out.below hB)
            replace HB := Lib.hid (HB.out.trans (hB.mono HB.out.size))
            rw [HK.out]
            clear hB
            have cHA := HA.out.2.1
            have cHR := HR.out.2.1
            go_wp2_with fail
            refine (class_calls _ _ _ H.out).mono ?_
            clear cHA cHR
            rintro e W3 ⟨rfl, hB⟩
            replace H := Lib.hid (H.out.grow hB)
            replace HT := Lib.hid (fun j hj => keep_below hB _ _ (HT.out j hj))
            replace HA := Lib.hid (HA.out.below hB)
            replace HR := Lib.hid (HR.out.below hB)
            replace HB := Lib.hid (HB.out.trans (hB.mono HB.out.size))
            rw [HC.out]
            clear hB
            have cHA := HA.out.2.1
            have cHR := HR.out.2.1
            go_wp2_with fail
            refine (Calls.grow_same (numeric_calls _ _)).mono ?_
            clear cHA cHR
            rintro e W4 ⟨rfl, hB⟩
            replace H := Lib.hid (H.out.grow hB)
            replace HT := Lib.hid (fun j hj => keep_below hB _ _ (HT.out j hj))
            replace HA := Lib.hid (HA.out.below hB)
            replace HR := Lib.hid (HR.out.below hB)
            replace HB := Lib.hid (HB.out.trans (hB.mono HB.out.size))
            rw [HD.out]
            clear hB
            have cHA := HA.out.2.1
            have cHR := HR.out.2.1
            go_wp2_with fail
            refine (least_calls _ _ _ H.out HOK.out HN.out HT.out).mono ?_
            clear cHA cHR
            rintro e W5 ⟨rfl, hB⟩
            replace H := Lib.hid (H.out.grow hB)
            replace HT := Lib.hid (fun j hj => keep_below hB _ _ (HT.out j hj))
            replace HA := Lib.hid (HA.out.below hB)
            replace HR := Lib.hid (HR.out.below hB)
            replace HB := Lib.hid (HB.out.trans (hB.mono HB.out.size))
            rw [HL.out]
            clear hB
            have cHA := HA.out.2.1
            have cHR := HR.out.2.1
            go_wp2_with fail
            refine (vnums_calls _ _ _ H.out HOK.out HT.out).mono ?_
            clear cHA cHR
            rintro e W6 ⟨v, rfl, hs, hB⟩
            replace H := Lib.hid (H.out.grow hB)
            replace HT := Lib.hid (fun j hj => keep_below hB _ _ (HT.out j hj))
            replace HA := Lib.hid (HA.out.below hB)
            replace HR := Lib.hid (HR.out.below hB)
            replace HB := Lib.hid (HB.out.trans (hB.mono HB.out.size))
            have HS := Lib.hid (show Slc W6 _ v l.length (f64s l) by have := hs.any; rw [HV.out] at this; exact this)
            clear hs
            clear hB
            have cHA := HA.out.2.1
            have cHR := HR.out.2.1
            go_wp2_with fail
            have HK1 := Lib.hid (leastW_wh (l := l) (by have h3 := HLW.out; have h4 := HL.out; omega))
            have HNL2 := Lib.hid (show (l.map wnOf).length ≤ 2000000 by rw [List.length_map]; have := HNL.out; omega)
            have HSM := Lib.hid (show (l.map wnOf).all sm = true by rw [List.all_eq_true]; intro z hz; obtain ⟨x, hx, rfl⟩ := List.mem_map.1 hz; obtain ⟨n, hn⟩ := HK1.out x hx; rw [wnOf_wh hn]; exact sm_yes (by have := hn.2.1; omega) (by have := hn.2.1; omega))
            refine (whole64_calls _ l _ HS.out (by have := HNL.out; omega) HK1.out).mono ?_
            clear cHA cHR
            rintro e W7 ⟨b, rfl, hb2, hB⟩
            replace H := Lib.hid (H.out.grow hB)
            replace HT := Lib.hid (fun j hj => keep_below hB _ _ (HT.out j hj))
            replace HA := Lib.hid (HA.out.below hB)
            replace HR := Lib.hid (HR.out.below hB)
            replace HS := Lib.hid (HS.out.below hB)
            replace HB := Lib.hid (HB.out.trans (hB.mono HB.out.size))
            have HBI := Lib.hid (show Slc W7 _ b (l.map wnOf).length (ints (l.map wnOf)) by rw [List.length_map]; exact hb2)
            clear hb2
            clear hB
            have cHA := HA.out.2.1
            have cHR := HR.out.2.1
            go_wp2_with fail
            have HZ9 := Lib.hid HB.out.size
            refine (vints_yes _ _ _ HBI.out HNL2.out HSM.out).mono ?_
            clear cHA cHR
            rintro e W8 ⟨x, rfl, hu, hB⟩
            replace H := Lib.hid (H.out.grow hB)
            replace HT := Lib.hid (fun j hj => keep_below hB _ _ (HT.out j hj))
            replace HA := Lib.hid (HA.out.below hB)
            replace HR := Lib.hid (HR.out.below hB)
            replace HS := Lib.hid (HS.out.below hB)
            replace HBI := Lib.hid (HBI.out.below hB)
            replace HB := Lib.hid (HB.out.trans (hB.mono HB.out.size))
            have hsx := hu.store
            have HX := Lib.hid (hu.wide (ok' := fun b => w.heap.size ≤ b) (fun b _ h => Nat.le_trans HZ9.out h))
            clear hu
            clear hB
            have cHA := HA.out.2.1
            have cHR := HR.out.2.1
            have fHR := HR.out.2.2 0
            go_wp2
            refine bodyPost_ret (v := .tuple #[.agg #[x], .bool true]) (by simp [results, Tryz.results75, go_sem, cHR]) rfl ⟨_, rfl, (HX.out.setn (by simp [VV.kind]) HR.out.2.1 _).wide (fun b _ h => .inr h), below_set1 _ HB.out (by omega)⟩
          · obtain ⟨W1, hWn⟩ : ∃ W1, ((w.alloc (.cells #[u] 29)).alloc (.cells #[.nilIface] 29)) = W1 := ⟨_, rfl⟩
            have hB : Below w.heap.size w W1 := by rw [← hWn]; exact ((below_new _ _).alloc (by simp <;> omega) _)
            replace H := Lib.hid (H.out.grow hB)
            replace HT := Lib.hid (fun j hj => keep_below hB _ _ (HT.out j hj))
            replace HB := Lib.hid (HB.out.trans (hB.mono HB.out.size))
            have HA := Lib.hid (show At1 W1 w.heap.size (u) by rw [← hWn]; exact (At1.new w (u) 29).below (below_new _ _))
            have HR := Lib.hid (show At1 W1 (w.heap.size + 1) (.nilIface) by rw [← hWn]; have := At1.new (w.alloc (.cells #[u] 29)) (.nilIface) 29; simpa using this)
            clear hB
            have cHA := HA.out.2.1
            have cHR := HR.out.2.1
            go_enter Tryz.func75, Tryz.ntmps75
            go_wp2_with fail
            clear hWn
            refine (kind_calls _ _ _ H.out).mono ?_
            clear cHA cHR
            rintro e W2 ⟨rfl, hB⟩
            replace H := Lib.hid (H.out.grow hB)
            replace HT := Lib.hid (fun j hj => keep_below hB _ _ (HT.out j hj))
            replace HA := Lib.hid (HA.out.below hB)
            replace HR := Lib.hid (HR.out.below hB)
            replace HB := Lib.hid (HB.out.trans (hB.mono HB.out.size))
            rw [HK.out]
            clear hB
            have cHA := HA.out.2.1
            have cHR := HR.out.2.1
            go_wp2_with fail
            refine (class_calls _ _ _ H.out).mono ?_
            clear cHA cHR
            rintro e W3 ⟨rfl, hB⟩
            replace H := Lib.hid (H.out.grow hB)
            replace HT := Lib.hid (fun j hj => keep_below hB _ _ (HT.out j hj))
            replace HA := Lib.hid (HA.out.below hB)
            replace HR := Lib.hid (HR.out.below hB)
            replace HB := Lib.hid (HB.out.trans (hB.mono HB.out.size))
            rw [HC.out]
            clear hB
            have cHA := HA.out.2.1
            have cHR := HR.out.2.1
            go_wp2_with fail
            refine (Calls.grow_same (numeric_calls _ _)).mono ?_
            clear cHA cHR
            rintro e W4 ⟨rfl, hB⟩
            replace H := Lib.hid (H.out.grow hB)
            replace HT := Lib.hid (fun j hj => keep_below hB _ _ (HT.out j hj))
            replace HA := Lib.hid (HA.out.below hB)
            replace HR := Lib.hid (HR.out.below hB)
            replace HB := Lib.hid (HB.out.trans (hB.mono HB.out.size))
            rw [HD.out]
            clear hB
            have cHA := HA.out.2.1
            have cHR := HR.out.2.1
            go_wp2_with fail
            refine (least_calls _ _ _ H.out HOK.out HN.out HT.out).mono ?_
            clear cHA cHR
            rintro e W5 ⟨rfl, hB⟩
            replace H := Lib.hid (H.out.grow hB)
            replace HT := Lib.hid (fun j hj => keep_below hB _ _ (HT.out j hj))
            replace HA := Lib.hid (HA.out.below hB)
            replace HR := Lib.hid (HR.out.below hB)
            replace HB := Lib.hid (HB.out.trans (hB.mono HB.out.size))
            rw [HL.out]
            clear hB
            have cHA := HA.out.2.1
            have cHR := HR.out.2.1
            go_wp2_with fail
            refine (vnums_calls _ _ _ H.out HOK.out HT.out).mono ?_
            clear cHA cHR
            rintro e W6 ⟨v, rfl, hs, hB⟩
            replace H := Lib.hid (H.out.grow hB)
            replace HT := Lib.hid (fun j hj => keep_below hB _ _ (HT.out j hj))
            replace HA := Lib.hid (HA.out.below hB)
            replace HR := Lib.hid (HR.out.below hB)
            replace HB := Lib.hid (HB.out.trans (hB.mono HB.out.size))
            have HS := Lib.hid (show Slc W6 _ v l.length (f64s l) by have := hs.any; rw [HV.out] at this; exact this)
            clear hs
            clear hB
            have cHA := HA.out.2.1
            have cHR := HR.out.2.1
            go_wp2_with fail
            have HFN := Lib.hid (show ∀ x ∈ l, Fnt x from fun x hx => (HNU.out x hx).1)
            have HZ9 := Lib.hid HB.out.size
            refine (vfloats_yes _ l _ HS.out (by have := HNL.out; omega) HFN.out).mono ?_
            clear cHA cHR
            rintro e W7 ⟨x, rfl, hu, hB⟩
            replace H := Lib.hid (H.out.grow hB)
            replace HT := Lib.hid (fun j hj => keep_below hB _ _ (HT.out j hj))
            replace HA := Lib.hid (HA.out.below hB)
            replace HR := Lib.hid (HR.out.below hB)
            replace HS := Lib.hid (HS.out.below hB)
            replace HB := Lib.hid (HB.out.trans (hB.mono HB.out.size))
            have hsx := hu.store
            have HX := Lib.hid (show IsV W7 (fun b => w.heap.size ≤ b) x (.floats l) by have := hu.wide (ok' := fun b => w.heap.size ≤ b) (fun b _ h => Nat.le_trans HZ9.out h); rw [map_ze HNU.out] at this; exact this)
            clear hu
            clear hB
            have cHA := HA.out.2.1
            have cHR := HR.out.2.1
            have fHR := HR.out.2.2 0
            go_wp2
            refine bodyPost_ret (v := .tuple #[.agg #[x], .bool true]) (by simp [results, Tryz.results75, go_sem, cHR]) rfl ⟨_, rfl, (HX.out.setn (by simp [VV.kind]) HR.out.2.1 _).wide (fun b _ h => .inr h), below_set1 _ HB.out (by omega)⟩
        · have HF := Lib.hid (show V.fit k = false by unfold VV.fit; rw [decide_eq_false h0, decide_eq_false hle]; simp)
          have HE := Lib.hid (VV.into_no HF.out)
          rw [HF.out, HE.out]
          have hcC : (C != 0) = false := by rw [← hC, hc]; rfl
          have hLk : k < L := by omega
          clear h0 hc hK hC hL hle hnm
          obtain ⟨W1, hWn⟩ : ∃ W1, ((w.alloc (.cells #[u] 29)).alloc (.cells #[.nilIface] 29)) = W1 := ⟨_, rfl⟩
          have hB : Below w.heap.size w W1 := by rw [← hWn]; exact ((below_new _ _).alloc (by simp <;> omega) _)
          replace H := Lib.hid (H.out.grow hB)
          replace HT := Lib.hid (fun j hj => keep_below hB _ _ (HT.out j hj))
          replace HB := Lib.hid (HB.out.trans (hB.mono HB.out.size))
          have HA := Lib.hid (show At1 W1 w.heap.size (u) by rw [← hWn]; exact (At1.new w (u) 29).below (below_new _ _))
          have HR := Lib.hid (show At1 W1 (w.heap.size + 1) (.nilIface) by rw [← hWn]; have := At1.new (w.alloc (.cells #[u] 29)) (.nilIface) 29; simpa using this)
          clear hB
          have cHA := HA.out.2.1
          have cHR := HR.out.2.1
          go_enter Tryz.func75, Tryz.ntmps75
          go_wp2_with fail
          clear hWn
          refine (kind_calls _ _ _ H.out).mono ?_
          clear cHA cHR
          rintro e W2 ⟨rfl, hB⟩
          replace H := Lib.hid (H.out.grow hB)
          replace HT := Lib.hid (fun j hj => keep_below hB _ _ (HT.out j hj))
          replace HA := Lib.hid (HA.out.below hB)
          replace HR := Lib.hid (HR.out.below hB)
          replace HB := Lib.hid (HB.out.trans (hB.mono HB.out.size))
          rw [HK.out]
          clear hB
          have cHA := HA.out.2.1
          have cHR := HR.out.2.1
          go_wp2_with fail
          refine (class_calls _ _ _ H.out).mono ?_
          clear cHA cHR
          rintro e W3 ⟨rfl, hB⟩
          replace H := Lib.hid (H.out.grow hB)
          replace HT := Lib.hid (fun j hj => keep_below hB _ _ (HT.out j hj))
          replace HA := Lib.hid (HA.out.below hB)
          replace HR := Lib.hid (HR.out.below hB)
          replace HB := Lib.hid (HB.out.trans (hB.mono HB.out.size))
          rw [HC.out]
          clear hB
          have cHA := HA.out.2.1
          have cHR := HR.out.2.1
          go_wp2_with fail
          refine (Calls.grow_same (numeric_calls _ _)).mono ?_
          clear cHA cHR
          rintro e W4 ⟨rfl, hB⟩
          replace H := Lib.hid (H.out.grow hB)
          replace HT := Lib.hid (fun j hj => keep_below hB _ _ (HT.out j hj))
          replace HA := Lib.hid (HA.out.below hB)
          replace HR := Lib.hid (HR.out.below hB)
          replace HB := Lib.hid (HB.out.trans (hB.mono HB.out.size))
          rw [HD.out]
          clear hB
          have cHA := HA.out.2.1
          have cHR := HR.out.2.1
          go_wp2_with fail
          refine (least_calls _ _ _ H.out HOK.out HN.out HT.out).mono ?_
          clear cHA cHR
          rintro e W5 ⟨rfl, hB⟩
          replace H := Lib.hid (H.out.grow hB)
          replace HT := Lib.hid (fun j hj => keep_below hB _ _ (HT.out j hj))
          replace HA := Lib.hid (HA.out.below hB)
          replace HR := Lib.hid (HR.out.below hB)
          replace HB := Lib.hid (HB.out.trans (hB.mono HB.out.size))
          rw [HL.out]
          clear hB
          have cHA := HA.out.2.1
          have cHR := HR.out.2.1
          have fHR := HR.out.2.2 0
          go_wp2
          refine bodyPost_ret (v := .tuple #[.agg #[.nilIface], .bool false]) (by simp [results, Tryz.results75, go_sem, cHR]) rfl ⟨_, rfl, .none, below_set1 _ HB.out (by omega)⟩
      · have HF := Lib.hid (show V.fit k = false by unfold VV.fit; rw [decide_eq_false h0, decide_eq_false hnm]; simp)
        have HE := Lib.hid (VV.into_no HF.out)
        have HD := Lib.hid (decide_eq_false hnm)
        rw [HF.out, HE.out]
        have hcC : (C != 0) = false := by rw [← hC, hc]; rfl
        clear h0 hc hK hC hnm
        obtain ⟨W1, hWn⟩ : ∃ W1, ((w.alloc (.cells #[u] 29)).alloc (.cells #[.nilIface] 29)) = W1 := ⟨_, rfl⟩
        have hB : Below w.heap.size w W1 := by rw [← hWn]; exact ((below_new _ _).alloc (by simp <;> omega) _)
        replace H := Lib.hid (H.out.grow hB)
        replace HT := Lib.hid (fun j hj => keep_below hB _ _ (HT.out j hj))
        replace HB := Lib.hid (HB.out.trans (hB.mono HB.out.size))
        have HA := Lib.hid (show At1 W1 w.heap.size (u) by rw [← hWn]; exact (At1.new w (u) 29).below (below_new _ _))
        have HR := Lib.hid (show At1 W1 (w.heap.size + 1) (.nilIface) by rw [← hWn]; have := At1.new (w.alloc (.cells #[u] 29)) (.nilIface) 29; simpa using this)
        clear hB
        have cHA := HA.out.2.1
        have cHR := HR.out.2.1
        go_enter Tryz.func75, Tryz.ntmps75
        go_wp2_with fail
        clear hWn
        refine (kind_calls _ _ _ H.out).mono ?_
        clear cHA cHR
        rintro e W2 ⟨rfl, hB⟩
        replace H := Lib.hid (H.out.grow hB)
        replace HT := Lib.hid (fun j hj => keep_below hB _ _ (HT.out j hj))
        replace HA := Lib.hid (HA.out.below hB)
        replace HR := Lib.hid (HR.out.below hB)
        replace HB := Lib.hid (HB.out.trans (hB.mono HB.out.size))
        rw [HK.out]
        clear hB
        have cHA := HA.out.2.1
        have cHR := HR.out.2.1
        go_wp2_with fail
        refine (class_calls _ _ _ H.out).mono ?_
        clear cHA cHR
        rintro e W3 ⟨rfl, hB⟩
        replace H := Lib.hid (H.out.grow hB)
        replace HT := Lib.hid (fun j hj => keep_below hB _ _ (HT.out j hj))
        replace HA := Lib.hid (HA.out.below hB)
        replace HR := Lib.hid (HR.out.below hB)
        replace HB := Lib.hid (HB.out.trans (hB.mono HB.out.size))
        rw [HC.out]
        clear hB
        have cHA := HA.out.2.1
        have cHR := HR.out.2.1
        go_wp2_with fail
        refine (Calls.grow_same (numeric_calls _ _)).mono ?_
        clear cHA cHR
        rintro e W4 ⟨rfl, hB⟩
        replace H := Lib.hid (H.out.grow hB)
        replace HT := Lib.hid (fun j hj => keep_below hB _ _ (HT.out j hj))
        replace HA := Lib.hid (HA.out.below hB)
        replace HR := Lib.hid (HR.out.below hB)
        replace HB := Lib.hid (HB.out.trans (hB.mono HB.out.size))
        rw [HD.out]
        clear hB
        have cHA := HA.out.2.1
        have cHR := HR.out.2.1
        have fHR := HR.out.2.2 0
        go_wp2
        refine bodyPost_ret (v := .tuple #[.agg #[.nilIface], .bool false]) (by simp [results, Tryz.results75, go_sem, cHR]) rfl ⟨_, rfl, .none, below_set1 _ HB.out (by omega)⟩
    · have HF := Lib.hid (show V.fit k = false by unfold VV.fit; rw [decide_eq_false h0, decide_eq_false hc]; simp)
      have HE := Lib.hid (VV.into_no HF.out)
      rw [HF.out, HE.out]
      have hcC : (C != 0) = true := by rw [← hC]; simpa using hc
      clear h0 hc hK hC
      obtain ⟨W1, hWn⟩ : ∃ W1, ((w.alloc (.cells #[u] 29)).alloc (.cells #[.nilIface] 29)) = W1 := ⟨_, rfl⟩
      have hB : Below w.heap.size w W1 := by rw [← hWn]; exact ((below_new _ _).alloc (by simp <;> omega) _)
      replace H := Lib.hid (H.out.grow hB)
      replace HT := Lib.hid (fun j hj => keep_below hB _ _ (HT.out j hj))
      replace HB := Lib.hid (HB.out.trans (hB.mono HB.out.size))
      have HA := Lib.hid (show At1 W1 w.heap.size (u) by rw [← hWn]; exact (At1.new w (u) 29).below (below_new _ _))
      have HR := Lib.hid (show At1 W1 (w.heap.size + 1) (.nilIface) by rw [← hWn]; have := At1.new (w.alloc (.cells #[u] 29)) (.nilIface) 29; simpa using this)
      clear hB
      have cHA := HA.out.2.1
      have cHR := HR.out.2.1
      go_enter Tryz.func75, Tryz.ntmps75
      go_wp2_with fail
      clear hWn
      refine (kind_calls _ _ _ H.out).mono ?_
      clear cHA cHR
      rintro e W2 ⟨rfl, hB⟩
      replace H := Lib.hid (H.out.grow hB)
      replace HT := Lib.hid (fun j hj => keep_below hB _ _ (HT.out j hj))
      replace HA := Lib.hid (HA.out.below hB)
      replace HR := Lib.hid (HR.out.below hB)
      replace HB := Lib.hid (HB.out.trans (hB.mono HB.out.size))
      rw [HK.out]
      clear hB
      have cHA := HA.out.2.1
      have cHR := HR.out.2.1
      go_wp2_with fail
      refine (class_calls _ _ _ H.out).mono ?_
      clear cHA cHR
      rintro e W3 ⟨rfl, hB⟩
      replace H := Lib.hid (H.out.grow hB)
      replace HT := Lib.hid (fun j hj => keep_below hB _ _ (HT.out j hj))
      replace HA := Lib.hid (HA.out.below hB)
      replace HR := Lib.hid (HR.out.below hB)
      replace HB := Lib.hid (HB.out.trans (hB.mono HB.out.size))
      rw [HC.out]
      clear hB
      have cHA := HA.out.2.1
      have cHR := HR.out.2.1
      have fHR := HR.out.2.2 0
      go_wp2
      refine bodyPost_ret (v := .tuple #[.agg #[.nilIface], .bool false]) (by simp [results, Tryz.results75, go_sem, cHR]) rfl ⟨_, rfl, .none, below_set1 _ HB.out (by omega)⟩
end Go.Proofs.YtbfcdpabjailcaaGreatDoor

/- Walks with local variables: what a store to one leaves. -/
namespace Go.Proofs.YtbfcdpabjailcaaGreatDoor
set_option maxRecDepth 100000
open Go.RowKit
set_option linter.unusedVariables false
theorem ok_step (okc : Nat → Prop) (n a m : Nat) (hm : ∀ b, n ≤ b → okc b) (ha : n ≤ a) (ham : a < m) : ∃ o : Nat → Prop, (∀ b, o b → okc b) ∧ (∀ b, b < n → okc b → o b) ∧ (∀ b, m ≤ b → o b) ∧ ¬ o a :=
  ⟨fun b => okc b ∧ b ≠ a, fun b h => h.1, fun b h1 h2 => ⟨h2, by omega⟩, fun b h => ⟨hm b (by omega), by omega⟩, fun h => h.2 rfl⟩
theorem IsIface.ne_int {y : Value} (h : IsIface y) (k : IntKind) (z : Int) : Value.int k z ≠ y := by rcases h with rfl | ⟨t, x, rfl⟩ <;> intro e <;> cases e
/-- A store over an interface touches no vector's cells, but of boxes, whose blocks are told apart. -/
theorem IsV.setw {w : World} {ok : Nat → Prop} {u : Value} {V : VV} (h : IsV w (V.nb ok) u V) {p : Addr} {y : Value} (hp : w.cell? p = some y) (hy : IsIface y) (ho : ¬ ok p.block) (x : Value) : IsV (w.setCell p x) (V.nb ok) u V := by
  exact h.setb ho x
theorem At1.set {w : World} {b : Nat} {x : Value} (h : At1 w b x) (y : Value) : At1 (w.setCell ⟨b, 0, none⟩ y) b y := by
  refine ⟨by simpa using h.1, World.cell?_setCell_same _ _ _ h.2.1, fun o => ?_⟩
  have := h.2.2 o
  simpa using this
theorem TabAt.setc {w : World} (h : TabAt w) {p : Addr} {y : Value} (hp : w.cell? p = some y) (hy : IsIface y) (x : Value) : TabAt (w.setCell p x) := fun j hj => by
  rw [World.cell?_setCell_other _ _ _ _ (fun ep => ?_)]
  · exact h j hj
  · have := h j hj
    rw [← ep, hp] at this
    exact hy.ne_int _ _ (Option.some.inj this).symm
theorem Slc.setc {w : World} {ok : Nat → Prop} {s : Value} {n : Nat} {xs : List Value} (h : Slc w ok s n xs) {p : Addr} {y : Value} (hp : w.cell? p = some y) (hy : ∀ z ∈ xs, z ≠ y) (x : Value) : Slc (w.setCell p x) ok s n xs := ⟨h.1.setn hp hy x, h.2⟩
theorem wp_mid {P : Program} {c : Code} {Q : Exit → Act → World → Prop} {a : Act} {w : World} (M : Act → Act → World → Prop) (h : c.wp P (fun e a' w' => e = .normal ∧ M a a' w') a w) (k : ∀ a' w', M a a' w' → Q .normal a' w') : c.wp P Q a w :=
  Code.wp_mono (fun e a' w' hm => by obtain ⟨rfl, hm⟩ := hm; exact k a' w' hm) h
end Go.Proofs.YtbfcdpabjailcaaGreatDoor

/- Package squeeze, walked: Squeeze, Numbers. -/
namespace Go.Proofs.YtbfcdpabjailcaaGreatDoor
open Go.RowKit Fl
set_option linter.unusedVariables false
set_option maxRecDepth 100000

/-- .. in the least kind. -/
noncomputable def VV.sq (V : VV) : VV := V.into (V.least : Int)
theorem least_bd (V : VV) (h : V.cls = 0) : 1 ≤ V.least ∧ V.least ≤ 4 := by
  cases V with
  | bits l => exact ⟨Nat.le_refl _, by show 1 ≤ 4; decide⟩
  | chars l => simp [VV.cls] at h
  | boxes l => simp [VV.cls] at h
  | none => exact _root_.Go.Proofs.YtbfcdpabjailcaaGreatDoor.leastW_le _
  | smalls l => exact _root_.Go.Proofs.YtbfcdpabjailcaaGreatDoor.leastW_le _
  | ints l => exact _root_.Go.Proofs.YtbfcdpabjailcaaGreatDoor.leastW_le _
  | floats l => exact _root_.Go.Proofs.YtbfcdpabjailcaaGreatDoor.leastW_le _
theorem VV.fit_least {V : VV} (h : V.cls = 0 ∨ V.kind = V.least) : V.fit (V.least : Int) = true := by
  unfold VV.fit
  rcases h with h | h
  · have h1 := least_bd V h
    rw [decide_eq_true h, decide_eq_true (show 1 ≤ (V.least : Int) ∧ (V.least : Int) ≤ 4 by omega), decide_eq_true (Int.le_refl _)]; simp
  · rw [decide_eq_true h]; simp
theorem VV.fit_least' (V : VV) : V.fit (V.least : Int) = true := by
  by_cases h : V.cls = 0
  · exact VV.fit_least (.inl h)
  · exact VV.fit_least (.inr (VV.least_oth (.inr h)).symm)
theorem VV.sq_spec {V : VV} (hok : V.ok) (hn : V.nm) : V.sq.kind = V.least ∧ V.sq.nums = V.nums ∧ V.sq.cls = V.cls ∧ V.sq.ok ∧ V.sq.nm ∧ V.sq.len = V.len := VV.into_spec hok hn (VV.fit_least' V)


set_option maxHeartbeats 4000000 in
theorem squeeze_calls {ok : Nat → Prop} (u : Value) (V : VV) (w : World) (h : IsV w (V.nb ok) u V) (hok : V.ok) (hn : V.nm) (hT : TabAt w) :
    Calls Tryz.prog 50 #[.agg #[u]] w fun e w' => ∃ u', e = .returned (.agg #[u']) ∧ IsV w' (V.sq.nb (fun b => ok b ∨ w.heap.size ≤ b)) u' V.sq ∧ Below w.heap.size w w' := by
  have HOK := Lib.hid hok
  have HN := Lib.hid hn
  have HT := Lib.hid hT
  have HB := Lib.hid (Below.refl w.heap.size w)
  have hst := h.store
  have hsh := h.shape
  obtain ⟨L, hL⟩ : ∃ L : Int, (V.least : Int) = L := ⟨_, rfl⟩
  have HF := Lib.hid (VV.fit_least' V)
  have HS := Lib.hid (show V.into L = V.sq by rw [← hL]; rfl)
  rw [hL] at HF
  have HL := Lib.hid hL
  clear hL
  obtain ⟨ok0, hok0⟩ : ∃ o : Nat → Prop, o = fun b => ok b ∧ b < w.heap.size ∨ w.heap.size ≤ b := ⟨_, rfl⟩
  have HOKP := Lib.hid (show ∀ b, ok0 b → ok b ∨ w.heap.size ≤ b by rw [hok0]; exact fun b h => h.imp (fun h => h.1) id)
  have HFR := Lib.hid (show ∀ b, w.heap.size ≤ b → ok0 b by rw [hok0]; exact fun b h => .inr h)
  have H := Lib.hid (h.nbw (ok' := ok0) (fun b hb ho => by rw [hok0]; exact .inl ⟨ho, hb⟩))
  clear hok0
  clear h hok hn hT
  obtain ⟨W1, hWn⟩ : ∃ X, (w.alloc (.cells #[u] 29)) = X := ⟨_, rfl⟩
  have hB : Below w.heap.size w W1 := by rw [← hWn]; exact below_new _ _
  have hla : w.heap.size ≤ w.heap.size := by omega
  have hlb : w.heap.size < W1.heap.size := by rw [← hWn]; simp; try omega
  have HA := Lib.hid (show At1 W1 w.heap.size (u) by rw [← hWn]; exact At1.new _ (u) 29)
  have GEHA := Lib.hid (show w.heap.size ≤ w.heap.size from Nat.le_trans HB.out.size hla)
  obtain ⟨ok1, o1, o2, o3, o4⟩ := ok_step ok0 w.heap.size w.heap.size W1.heap.size HFR.out hla hlb
  replace HOKP := Lib.hid (fun b h => HOKP.out b (o1 b h))
  replace HFR := Lib.hid o3
  replace H := Lib.hid ((H.out.nbw (fun b hb h => o2 b hb h)).grow hB)
  replace HT := Lib.hid (fun j hj => keep_below hB _ _ (HT.out j hj))
  replace HB := Lib.hid (HB.out.trans (hB.mono HB.out.size))
  have NOHA := Lib.hid o4
  clear o1 o2 o3 o4
  clear hla hlb hB
  have IOHA : Hid (IsIface (u)) := Lib.hid (hsh)
  have cHA := HA.out.2.1
  
  have hE0 := hWn
  clear hWn
  obtain ⟨W2, hWn⟩ : ∃ X, (W1.alloc (.cells #[.nilIface] 29)) = X := ⟨_, rfl⟩
  have hB : Below W1.heap.size W1 W2 := by rw [← hWn]; exact below_new _ _
  have hla : W1.heap.size ≤ W1.heap.size := by omega
  have hlb : W1.heap.size < W2.heap.size := by rw [← hWn]; simp; try omega
  have HR := Lib.hid (show At1 W2 W1.heap.size (.nilIface) by rw [← hWn]; exact At1.new _ (.nilIface) 29)
  clear cHA
  have NEHAHR := Lib.hid (show w.heap.size ≠ W1.heap.size by have := HA.out.1; omega)
  have GEHR := Lib.hid (show w.heap.size ≤ W1.heap.size from Nat.le_trans HB.out.size hla)
  obtain ⟨ok2, o1, o2, o3, o4⟩ := ok_step ok1 W1.heap.size W1.heap.size W2.heap.size HFR.out hla hlb
  replace HOKP := Lib.hid (fun b h => HOKP.out b (o1 b h))
  replace HFR := Lib.hid o3
  replace NOHA := Lib.hid (fun h => NOHA.out (o1 _ h))
  replace H := Lib.hid ((H.out.nbw (fun b hb h => o2 b hb h)).grow hB)
  replace HT := Lib.hid (fun j hj => keep_below hB _ _ (HT.out j hj))
  replace HA := Lib.hid (HA.out.below hB)
  replace HB := Lib.hid (HB.out.trans (hB.mono HB.out.size))
  have NOHR := Lib.hid o4
  clear o1 o2 o3 o4
  clear hla hlb hB
  have IOHR : Hid (IsIface (.nilIface)) := Lib.hid (.inl rfl)
  have cHA := HA.out.2.1
  have cHR := HR.out.2.1
  
  have hE1 := hWn
  clear hWn
  go_enter Tryz.func50, Tryz.ntmps50
  go_wp2_with fail
  clear hE0 hE1
  have hcz : True := trivial
  refine wp_region_held_drew (S := fun w' => w'.cell? ⟨w.heap.size, 0, none⟩ = some (u) ∧ w'.cell? ⟨W1.heap.size, 0, none⟩ = some (.nilIface)) (by kernel_rfl) ⟨cHA, cHR⟩ (fun hHeld => ?_)
  obtain ⟨W3, hWn⟩ : ∃ X, W2.drew = X := ⟨_, rfl⟩
  have hB : Below W2.heap.size W2 W3 := by rw [← hWn]; exact Below.drewN' (Below.refl _ _) 1
  clear cHA cHR
  replace H := Lib.hid (H.out.grow hB)
  replace HT := Lib.hid (fun j hj => keep_below hB _ _ (HT.out j hj))
  replace HA := Lib.hid (HA.out.below hB)
  replace HR := Lib.hid (HR.out.below hB)
  replace HB := Lib.hid (HB.out.trans (hB.mono HB.out.size))
  replace HFR := Lib.hid (fun b h => HFR.out b (Nat.le_trans hB.size h))
  rw [hWn] at hHeld ⊢
  clear hB hWn hcz
  have cHA := HA.out.2.1
  have cHR := HR.out.2.1
  refine wpAnyH_take (i := 0) (v := ?_) rfl (by kernel_rfl) (by kernel_rfl) (by kernel_rfl) (fun _ _ _ h => h) (Or.inl ⟨by rfl, ?_⟩) (by assumption) ?_
  rotate_left
  · (intro w hSw; (try dsimp only at hSw); go_simp; try with_reducible rfl)
  simp only [Act.put, List.getElem_toArray, List.getElem_cons_zero, List.setIfInBounds_toArray, List.set_cons_zero, List.set_cons_succ]
  refine wpAnyH_take (i := 1) (v := ?_) rfl (by kernel_rfl) (by kernel_rfl) (by kernel_rfl) (fun _ _ _ h => h) (Or.inl ⟨by rfl, ?_⟩) (by assumption) ?_
  rotate_left
  · (intro w hSw; (try dsimp only at hSw); go_simp; try with_reducible rfl)
  simp only [Act.put, List.getElem_toArray, List.getElem_cons_succ, List.getElem_cons_zero, List.setIfInBounds_toArray, List.set_cons_zero, List.set_cons_succ]
  refine wpAnyH_ready (rs := [2, 7]) (by kernel_rfl) (by simp) ?_
  refine AllReadyH.cons (o := _) rfl (fun K hK => ?_) ?_
  · clear hHeld
    go_simp
    refine (least_calls _ _ _ H.out HOK.out HN.out HT.out).mono ?_
    clear cHA cHR
    rintro e W4 ⟨rfl, hB⟩
    replace H := Lib.hid (H.out.grow hB)
    replace HT := Lib.hid (fun j hj => keep_below hB _ _ (HT.out j hj))
    replace HA := Lib.hid (HA.out.below hB)
    replace HR := Lib.hid (HR.out.below hB)
    replace HB := Lib.hid (HB.out.trans (hB.mono HB.out.size))
    replace HFR := Lib.hid (fun b h => HFR.out b (Nat.le_trans hB.size h))
    rw [HL.out]
    clear hB
    have cHA := HA.out.2.1
    have cHR := HR.out.2.1
    refine hK.out _ _ ?_ (fun hHeld => ?_)
    · exact ⟨cHA, cHR⟩
    clear hK K
    refine wpAnyH_ready (rs := [3, 7]) (by kernel_rfl) (by simp) ?_
    refine AllReadyH.cons (o := _) rfl (fun K hK => ?_) ?_
    · clear hHeld
      go_simp
      refine (sinto_calls _ _ _ _ H.out HOK.out HN.out HT.out).mono ?_
      clear cHA cHR
      rintro e W5 ⟨x, rfl, hu, hB⟩
      have stx := hu.store
      have shx := Lib.hid hu.shape
      have HX := Lib.hid (hu.nbw (ok' := ok2) (fun b _ h => h.elim id (HFR.out b)))
      clear hu
      replace H := Lib.hid (H.out.grow hB)
      replace HT := Lib.hid (fun j hj => keep_below hB _ _ (HT.out j hj))
      replace HA := Lib.hid (HA.out.below hB)
      replace HR := Lib.hid (HR.out.below hB)
      replace HB := Lib.hid (HB.out.trans (hB.mono HB.out.size))
      replace HFR := Lib.hid (fun b h => HFR.out b (Nat.le_trans hB.size h))
      rw [HF.out]
      rw [HS.out] at HX
      clear hB
      have cHA := HA.out.2.1
      have cHR := HR.out.2.1
      refine hK.out _ _ ?_ (fun hHeld => ?_)
      · exact ⟨cHA, cHR⟩
      clear hK K
      refine wpAnyH_take (i := 4) (v := ?_) rfl (by kernel_rfl) (by kernel_rfl) (by kernel_rfl) (fun _ _ _ h => h) (Or.inl ⟨by rfl, ?_⟩) (by assumption) ?_
      rotate_left
      · (intro w hSw; (try dsimp only at hSw); go_simp; try with_reducible rfl)
      simp only [Act.put, List.getElem_toArray, List.getElem_cons_succ, List.getElem_cons_zero, List.setIfInBounds_toArray, List.set_cons_zero, List.set_cons_succ]
      refine wpAnyH_take (i := 5) (v := ?_) rfl (by kernel_rfl) (by kernel_rfl) (by kernel_rfl) (fun _ _ _ h => h) (Or.inl ⟨by rfl, ?_⟩) (by assumption) ?_
      rotate_left
      · (intro w hSw; (try dsimp only at hSw); go_simp; try with_reducible rfl)
      simp only [Act.put, List.getElem_toArray, List.getElem_cons_succ, List.getElem_cons_zero, List.setIfInBounds_toArray, List.set_cons_zero, List.set_cons_succ]
      refine wpAnyH_take (i := 6) (v := ?_) rfl (by kernel_rfl) (by kernel_rfl) (by kernel_rfl) (fun _ _ _ h => h) (Or.inl ⟨by rfl, ?_⟩) (by assumption) ?_
      rotate_left
      · (intro w hSw; (try dsimp only at hSw); go_simp; try with_reducible rfl)
      simp only [Act.put, List.getElem_toArray, List.getElem_cons_succ, List.getElem_cons_zero, List.setIfInBounds_toArray, List.set_cons_zero, List.set_cons_succ]
      refine wpAnyH_ready (rs := [7]) (by kernel_rfl) (by simp) ?_
      refine AllReadyH.cons (o := _) rfl (fun K hK => ?_) ?_
      · clear hHeld
        go_simp
        obtain ⟨W6, hWn⟩ : ∃ X, (W5.alloc (.cells #[.nilIface] 29)) = X := ⟨_, rfl⟩
        have hB : Below W5.heap.size W5 W6 := by rw [← hWn]; exact below_new _ _
        obtain ⟨bHZ, hbHZ⟩ : ∃ x, W5.heap.size = x := ⟨_, rfl⟩
        have hla : W5.heap.size ≤ bHZ := by omega
        have hlb : bHZ < W6.heap.size := by rw [← hWn]; simp; try omega
        have HZ := Lib.hid (show At1 W6 bHZ (.nilIface) by rw [← hWn, ← hbHZ]; exact At1.new _ (.nilIface) 29)
        clear cHA cHR
        have NEHAHZ := Lib.hid (show w.heap.size ≠ bHZ by have := HA.out.1; omega)
        have NEHRHZ := Lib.hid (show W1.heap.size ≠ bHZ by have := HR.out.1; omega)
        have GEHZ := Lib.hid (show w.heap.size ≤ bHZ from Nat.le_trans HB.out.size hla)
        obtain ⟨ok3, o1, o2, o3, o4⟩ := ok_step ok2 W5.heap.size bHZ W6.heap.size HFR.out hla hlb
        replace HOKP := Lib.hid (fun b h => HOKP.out b (o1 b h))
        replace HFR := Lib.hid o3
        replace NOHA := Lib.hid (fun h => NOHA.out (o1 _ h))
        replace NOHR := Lib.hid (fun h => NOHR.out (o1 _ h))
        replace H := Lib.hid ((H.out.nbw (fun b hb h => o2 b hb h)).grow hB)
        replace HT := Lib.hid (fun j hj => keep_below hB _ _ (HT.out j hj))
        replace HA := Lib.hid (HA.out.below hB)
        replace HR := Lib.hid (HR.out.below hB)
        replace HX := Lib.hid ((HX.out.nbw (fun b hb h => o2 b hb h)).grow hB)
        replace HB := Lib.hid (HB.out.trans (hB.mono HB.out.size))
        have NOHZ := Lib.hid o4
        clear o1 o2 o3 o4
        clear hla hlb hB
        have IOHZ : Hid (IsIface (.nilIface)) := Lib.hid (.inl rfl)
        have cHA := HA.out.2.1
        have cHR := HR.out.2.1
        have cHZ := HZ.out.2.1
        rw [hWn, hbHZ]
        clear hWn hbHZ
        refine hK.out _ _ ?_ (fun hHeld => ?_)
        · exact ⟨cHA, cHR⟩
        clear hK K
        refine wpAnyH_ready (rs := [8]) (by kernel_rfl) (by simp) ?_
        refine AllReadyH.cons (o := _) rfl (fun K hK => ?_) ?_
        · clear hHeld
          have fHZ := HZ.out.2.2 0
          go_simp
          clear fHZ
          obtain ⟨W7, hWn⟩ : ∃ X, W6.setCell ⟨bHZ, 0, none⟩ (x) = X := ⟨_, rfl⟩
          have cHZ0 := HZ.out.2.1
          clear cHA cHR cHZ
          have hg : W6.grownBy W7 (some bHZ) := by rw [← hWn]; exact grown_setCell _ _ _
          have hz : W7.heap.size = W6.heap.size := by rw [← hWn]; simp
          replace H := Lib.hid (show IsV W7 _ _ _ by rw [← hWn]; exact H.out.setw cHZ0 IOHZ.out NOHZ.out _)
          replace HT := Lib.hid (show TabAt W7 by rw [← hWn]; exact TabAt.setc HT.out cHZ0 IOHZ.out _)
          replace HA := Lib.hid (HA.out.grown hg (fun e => NEHAHZ.out (Option.some.inj e)))
          replace HR := Lib.hid (HR.out.grown hg (fun e => NEHRHZ.out (Option.some.inj e)))
          replace HX := Lib.hid (show IsV W7 _ _ _ by rw [← hWn]; exact HX.out.setw cHZ0 IOHZ.out NOHZ.out _)
          replace HZ := Lib.hid (show At1 W7 bHZ (x) by rw [← hWn]; exact HZ.out.set _)
          replace IOHZ : Hid (IsIface (x)) := Lib.hid (shx.out)
          replace HB := Lib.hid (show Below w.heap.size w W7 by rw [← hWn]; exact HB.out.setCell GEHZ.out _)
          replace HFR := Lib.hid (fun b h => HFR.out b (by rw [← hz]; exact h))
          have cHA := HA.out.2.1
          have cHR := HR.out.2.1
          have cHZ := HZ.out.2.1
          rw [hWn]
          clear hWn hg hz cHZ0
          refine hK.out _ _ ?_ (fun hHeld => ?_)
          · exact ⟨cHA, cHR⟩
          clear hK K
          refine wpAnyH_take (i := 9) (v := ?_) rfl (by kernel_rfl) (by kernel_rfl) (by kernel_rfl) (fun _ _ _ h => h) (Or.inl ⟨by rfl, ?_⟩) (by assumption) ?_
          rotate_left
          · (intro w hSw; (try dsimp only at hSw); go_simp; try with_reducible rfl)
          simp only [Act.put, List.getElem_toArray, List.getElem_cons_succ, List.getElem_cons_zero, List.setIfInBounds_toArray, List.set_cons_zero, List.set_cons_succ]
          refine wpAnyH_done (by kernel_rfl) ?_ _
          clear hHeld
          have fHR := HR.out.2.2 0
          go_wp2
          refine bodyPost_ret (v := .agg #[x]) (by simp [results, Tryz.results50, go_sem, cHR]) rfl ⟨x, rfl, (HX.out.setw cHR IOHR.out NOHR.out _).nbw (fun b _ h => HOKP.out b h), HB.out.setCell GEHR.out _⟩
        exact AllReadyH.nil
      exact AllReadyH.nil
    refine AllReadyH.cons (o := _) rfl (fun K hK => ?_) ?_
    · clear hHeld
      go_simp
      obtain ⟨W5, hWn⟩ : ∃ X, (W4.alloc (.cells #[.nilIface] 29)) = X := ⟨_, rfl⟩
      have hB : Below W4.heap.size W4 W5 := by rw [← hWn]; exact below_new _ _
      obtain ⟨bHZ, hbHZ⟩ : ∃ x, W4.heap.size = x := ⟨_, rfl⟩
      have hla : W4.heap.size ≤ bHZ := by omega
      have hlb : bHZ < W5.heap.size := by rw [← hWn]; simp; try omega
      have HZ := Lib.hid (show At1 W5 bHZ (.nilIface) by rw [← hWn, ← hbHZ]; exact At1.new _ (.nilIface) 29)
      clear cHA cHR
      have NEHAHZ := Lib.hid (show w.heap.size ≠ bHZ by have := HA.out.1; omega)
      have NEHRHZ := Lib.hid (show W1.heap.size ≠ bHZ by have := HR.out.1; omega)
      have GEHZ := Lib.hid (show w.heap.size ≤ bHZ from Nat.le_trans HB.out.size hla)
      obtain ⟨ok3, o1, o2, o3, o4⟩ := ok_step ok2 W4.heap.size bHZ W5.heap.size HFR.out hla hlb
      replace HOKP := Lib.hid (fun b h => HOKP.out b (o1 b h))
      replace HFR := Lib.hid o3
      replace NOHA := Lib.hid (fun h => NOHA.out (o1 _ h))
      replace NOHR := Lib.hid (fun h => NOHR.out (o1 _ h))
      replace H := Lib.hid ((H.out.nbw (fun b hb h => o2 b hb h)).grow hB)
      replace HT := Lib.hid (fun j hj => keep_below hB _ _ (HT.out j hj))
      replace HA := Lib.hid (HA.out.below hB)
      replace HR := Lib.hid (HR.out.below hB)
      replace HB := Lib.hid (HB.out.trans (hB.mono HB.out.size))
      have NOHZ := Lib.hid o4
      clear o1 o2 o3 o4
      clear hla hlb hB
      have IOHZ : Hid (IsIface (.nilIface)) := Lib.hid (.inl rfl)
      have cHA := HA.out.2.1
      have cHR := HR.out.2.1
      have cHZ := HZ.out.2.1
      rw [hWn, hbHZ]
      clear hWn hbHZ
      refine hK.out _ _ ?_ (fun hHeld => ?_)
      · exact ⟨cHA, cHR⟩
      clear hK K
      refine wpAnyH_ready (rs := [3]) (by kernel_rfl) (by simp) ?_
      refine AllReadyH.cons (o := _) rfl (fun K hK => ?_) ?_
      · clear hHeld
        go_simp
        refine (sinto_calls _ _ _ _ H.out HOK.out HN.out HT.out).mono ?_
        clear cHA cHR cHZ
        rintro e W6 ⟨x, rfl, hu, hB⟩
        have stx := hu.store
        have shx := Lib.hid hu.shape
        have HX := Lib.hid (hu.nbw (ok' := ok3) (fun b _ h => h.elim id (HFR.out b)))
        clear hu
        replace H := Lib.hid (H.out.grow hB)
        replace HT := Lib.hid (fun j hj => keep_below hB _ _ (HT.out j hj))
        replace HA := Lib.hid (HA.out.below hB)
        replace HR := Lib.hid (HR.out.below hB)
        replace HZ := Lib.hid (HZ.out.below hB)
        replace HB := Lib.hid (HB.out.trans (hB.mono HB.out.size))
        replace HFR := Lib.hid (fun b h => HFR.out b (Nat.le_trans hB.size h))
        rw [HF.out]
        rw [HS.out] at HX
        clear hB
        have cHA := HA.out.2.1
        have cHR := HR.out.2.1
        have cHZ := HZ.out.2.1
        refine hK.out _ _ ?_ (fun hHeld => ?_)
        · exact ⟨cHA, cHR⟩
        clear hK K
        refine wpAnyH_take (i := 4) (v := ?_) rfl (by kernel_rfl) (by kernel_rfl) (by kernel_rfl) (fun _ _ _ h => h) (Or.inl ⟨by rfl, ?_⟩) (by assumption) ?_
        rotate_left
        · (intro w hSw; (try dsimp only at hSw); go_simp; try with_reducible rfl)
        simp only [Act.put, List.getElem_toArray, List.getElem_cons_succ, List.getElem_cons_zero, List.setIfInBounds_toArray, List.set_cons_zero, List.set_cons_succ]
        refine wpAnyH_take (i := 5) (v := ?_) rfl (by kernel_rfl) (by kernel_rfl) (by kernel_rfl) (fun _ _ _ h => h) (Or.inl ⟨by rfl, ?_⟩) (by assumption) ?_
        rotate_left
        · (intro w hSw; (try dsimp only at hSw); go_simp; try with_reducible rfl)
        simp only [Act.put, List.getElem_toArray, List.getElem_cons_succ, List.getElem_cons_zero, List.setIfInBounds_toArray, List.set_cons_zero, List.set_cons_succ]
        refine wpAnyH_take (i := 6) (v := ?_) rfl (by kernel_rfl) (by kernel_rfl) (by kernel_rfl) (fun _ _ _ h => h) (Or.inl ⟨by rfl, ?_⟩) (by assumption) ?_
        rotate_left
        · (intro w hSw; (try dsimp only at hSw); go_simp; try with_reducible rfl)
        simp only [Act.put, List.getElem_toArray, List.getElem_cons_succ, List.getElem_cons_zero, List.setIfInBounds_toArray, List.set_cons_zero, List.set_cons_succ]
        refine wpAnyH_ready (rs := [8]) (by kernel_rfl) (by simp) ?_
        refine AllReadyH.cons (o := _) rfl (fun K hK => ?_) ?_
        · clear hHeld
          have fHZ := HZ.out.2.2 0
          go_simp
          clear fHZ
          obtain ⟨W7, hWn⟩ : ∃ X, W6.setCell ⟨bHZ, 0, none⟩ (x) = X := ⟨_, rfl⟩
          have cHZ0 := HZ.out.2.1
          clear cHA cHR cHZ
          have hg : W6.grownBy W7 (some bHZ) := by rw [← hWn]; exact grown_setCell _ _ _
          have hz : W7.heap.size = W6.heap.size := by rw [← hWn]; simp
          replace H := Lib.hid (show IsV W7 _ _ _ by rw [← hWn]; exact H.out.setw cHZ0 IOHZ.out NOHZ.out _)
          replace HT := Lib.hid (show TabAt W7 by rw [← hWn]; exact TabAt.setc HT.out cHZ0 IOHZ.out _)
          replace HA := Lib.hid (HA.out.grown hg (fun e => NEHAHZ.out (Option.some.inj e)))
          replace HR := Lib.hid (HR.out.grown hg (fun e => NEHRHZ.out (Option.some.inj e)))
          replace HX := Lib.hid (show IsV W7 _ _ _ by rw [← hWn]; exact HX.out.setw cHZ0 IOHZ.out NOHZ.out _)
          replace HZ := Lib.hid (show At1 W7 bHZ (x) by rw [← hWn]; exact HZ.out.set _)
          replace IOHZ : Hid (IsIface (x)) := Lib.hid (shx.out)
          replace HB := Lib.hid (show Below w.heap.size w W7 by rw [← hWn]; exact HB.out.setCell GEHZ.out _)
          replace HFR := Lib.hid (fun b h => HFR.out b (by rw [← hz]; exact h))
          have cHA := HA.out.2.1
          have cHR := HR.out.2.1
          have cHZ := HZ.out.2.1
          rw [hWn]
          clear hWn hg hz cHZ0
          refine hK.out _ _ ?_ (fun hHeld => ?_)
          · exact ⟨cHA, cHR⟩
          clear hK K
          refine wpAnyH_take (i := 9) (v := ?_) rfl (by kernel_rfl) (by kernel_rfl) (by kernel_rfl) (fun _ _ _ h => h) (Or.inl ⟨by rfl, ?_⟩) (by assumption) ?_
          rotate_left
          · (intro w hSw; (try dsimp only at hSw); go_simp; try with_reducible rfl)
          simp only [Act.put, List.getElem_toArray, List.getElem_cons_succ, List.getElem_cons_zero, List.setIfInBounds_toArray, List.set_cons_zero, List.set_cons_succ]
          refine wpAnyH_done (by kernel_rfl) ?_ _
          clear hHeld
          have fHR := HR.out.2.2 0
          go_wp2
          refine bodyPost_ret (v := .agg #[x]) (by simp [results, Tryz.results50, go_sem, cHR]) rfl ⟨x, rfl, (HX.out.setw cHR IOHR.out NOHR.out _).nbw (fun b _ h => HOKP.out b h), HB.out.setCell GEHR.out _⟩
        exact AllReadyH.nil
      exact AllReadyH.nil
    exact AllReadyH.nil
  refine AllReadyH.cons (o := _) rfl (fun K hK => ?_) ?_
  · clear hHeld
    go_simp
    obtain ⟨W4, hWn⟩ : ∃ X, (W3.alloc (.cells #[.nilIface] 29)) = X := ⟨_, rfl⟩
    have hB : Below W3.heap.size W3 W4 := by rw [← hWn]; exact below_new _ _
    obtain ⟨bHZ, hbHZ⟩ : ∃ x, W3.heap.size = x := ⟨_, rfl⟩
    have hla : W3.heap.size ≤ bHZ := by omega
    have hlb : bHZ < W4.heap.size := by rw [← hWn]; simp; try omega
    have HZ := Lib.hid (show At1 W4 bHZ (.nilIface) by rw [← hWn, ← hbHZ]; exact At1.new _ (.nilIface) 29)
    clear cHA cHR
    have NEHAHZ := Lib.hid (show w.heap.size ≠ bHZ by have := HA.out.1; omega)
    have NEHRHZ := Lib.hid (show W1.heap.size ≠ bHZ by have := HR.out.1; omega)
    have GEHZ := Lib.hid (show w.heap.size ≤ bHZ from Nat.le_trans HB.out.size hla)
    obtain ⟨ok3, o1, o2, o3, o4⟩ := ok_step ok2 W3.heap.size bHZ W4.heap.size HFR.out hla hlb
    replace HOKP := Lib.hid (fun b h => HOKP.out b (o1 b h))
    replace HFR := Lib.hid o3
    replace NOHA := Lib.hid (fun h => NOHA.out (o1 _ h))
    replace NOHR := Lib.hid (fun h => NOHR.out (o1 _ h))
    replace H := Lib.hid ((H.out.nbw (fun b hb h => o2 b hb h)).grow hB)
    replace HT := Lib.hid (fun j hj => keep_below hB _ _ (HT.out j hj))
    replace HA := Lib.hid (HA.out.below hB)
    replace HR := Lib.hid (HR.out.below hB)
    replace HB := Lib.hid (HB.out.trans (hB.mono HB.out.size))
    have NOHZ := Lib.hid o4
    clear o1 o2 o3 o4
    clear hla hlb hB
    have IOHZ : Hid (IsIface (.nilIface)) := Lib.hid (.inl rfl)
    have cHA := HA.out.2.1
    have cHR := HR.out.2.1
    have cHZ := HZ.out.2.1
    rw [hWn, hbHZ]
    clear hWn hbHZ
    refine hK.out _ _ ?_ (fun hHeld => ?_)
    · exact ⟨cHA, cHR⟩
    clear hK K
    refine wpAnyH_ready (rs := [2]) (by kernel_rfl) (by simp) ?_
    refine AllReadyH.cons (o := _) rfl (fun K hK => ?_) ?_
    · clear hHeld
      go_simp
      refine (least_calls _ _ _ H.out HOK.out HN.out HT.out).mono ?_
      clear cHA cHR cHZ
      rintro e W5 ⟨rfl, hB⟩
      replace H := Lib.hid (H.out.grow hB)
      replace HT := Lib.hid (fun j hj => keep_below hB _ _ (HT.out j hj))
      replace HA := Lib.hid (HA.out.below hB)
      replace HR := Lib.hid (HR.out.below hB)
      replace HZ := Lib.hid (HZ.out.below hB)
      replace HB := Lib.hid (HB.out.trans (hB.mono HB.out.size))
      replace HFR := Lib.hid (fun b h => HFR.out b (Nat.le_trans hB.size h))
      rw [HL.out]
      clear hB
      have cHA := HA.out.2.1
      have cHR := HR.out.2.1
      have cHZ := HZ.out.2.1
      refine hK.out _ _ ?_ (fun hHeld => ?_)
      · exact ⟨cHA, cHR⟩
      clear hK K
      refine wpAnyH_ready (rs := [3]) (by kernel_rfl) (by simp) ?_
      refine AllReadyH.cons (o := _) rfl (fun K hK => ?_) ?_
      · clear hHeld
        go_simp
        refine (sinto_calls _ _ _ _ H.out HOK.out HN.out HT.out).mono ?_
        clear cHA cHR cHZ
        rintro e W6 ⟨x, rfl, hu, hB⟩
        have stx := hu.store
        have shx := Lib.hid hu.shape
        have HX := Lib.hid (hu.nbw (ok' := ok3) (fun b _ h => h.elim id (HFR.out b)))
        clear hu
        replace H := Lib.hid (H.out.grow hB)
        replace HT := Lib.hid (fun j hj => keep_below hB _ _ (HT.out j hj))
        replace HA := Lib.hid (HA.out.below hB)
        replace HR := Lib.hid (HR.out.below hB)
        replace HZ := Lib.hid (HZ.out.below hB)
        replace HB := Lib.hid (HB.out.trans (hB.mono HB.out.size))
        replace HFR := Lib.hid (fun b h => HFR.out b (Nat.le_trans hB.size h))
        rw [HF.out]
        rw [HS.out] at HX
        clear hB
        have cHA := HA.out.2.1
        have cHR := HR.out.2.1
        have cHZ := HZ.out.2.1
        refine hK.out _ _ ?_ (fun hHeld => ?_)
        · exact ⟨cHA, cHR⟩
        clear hK K
        refine wpAnyH_take (i := 4) (v := ?_) rfl (by kernel_rfl) (by kernel_rfl) (by kernel_rfl) (fun _ _ _ h => h) (Or.inl ⟨by rfl, ?_⟩) (by assumption) ?_
        rotate_left
        · (intro w hSw; (try dsimp only at hSw); go_simp; try with_reducible rfl)
        simp only [Act.put, List.getElem_toArray, List.getElem_cons_succ, List.getElem_cons_zero, List.setIfInBounds_toArray, List.set_cons_zero, List.set_cons_succ]
        refine wpAnyH_take (i := 5) (v := ?_) rfl (by kernel_rfl) (by kernel_rfl) (by kernel_rfl) (fun _ _ _ h => h) (Or.inl ⟨by rfl, ?_⟩) (by assumption) ?_
        rotate_left
        · (intro w hSw; (try dsimp only at hSw); go_simp; try with_reducible rfl)
        simp only [Act.put, List.getElem_toArray, List.getElem_cons_succ, List.getElem_cons_zero, List.setIfInBounds_toArray, List.set_cons_zero, List.set_cons_succ]
        refine wpAnyH_take (i := 6) (v := ?_) rfl (by kernel_rfl) (by kernel_rfl) (by kernel_rfl) (fun _ _ _ h => h) (Or.inl ⟨by rfl, ?_⟩) (by assumption) ?_
        rotate_left
        · (intro w hSw; (try dsimp only at hSw); go_simp; try with_reducible rfl)
        simp only [Act.put, List.getElem_toArray, List.getElem_cons_succ, List.getElem_cons_zero, List.setIfInBounds_toArray, List.set_cons_zero, List.set_cons_succ]
        refine wpAnyH_ready (rs := [8]) (by kernel_rfl) (by simp) ?_
        refine AllReadyH.cons (o := _) rfl (fun K hK => ?_) ?_
        · clear hHeld
          have fHZ := HZ.out.2.2 0
          go_simp
          clear fHZ
          obtain ⟨W7, hWn⟩ : ∃ X, W6.setCell ⟨bHZ, 0, none⟩ (x) = X := ⟨_, rfl⟩
          have cHZ0 := HZ.out.2.1
          clear cHA cHR cHZ
          have hg : W6.grownBy W7 (some bHZ) := by rw [← hWn]; exact grown_setCell _ _ _
          have hz : W7.heap.size = W6.heap.size := by rw [← hWn]; simp
          replace H := Lib.hid (show IsV W7 _ _ _ by rw [← hWn]; exact H.out.setw cHZ0 IOHZ.out NOHZ.out _)
          replace HT := Lib.hid (show TabAt W7 by rw [← hWn]; exact TabAt.setc HT.out cHZ0 IOHZ.out _)
          replace HA := Lib.hid (HA.out.grown hg (fun e => NEHAHZ.out (Option.some.inj e)))
          replace HR := Lib.hid (HR.out.grown hg (fun e => NEHRHZ.out (Option.some.inj e)))
          replace HX := Lib.hid (show IsV W7 _ _ _ by rw [← hWn]; exact HX.out.setw cHZ0 IOHZ.out NOHZ.out _)
          replace HZ := Lib.hid (show At1 W7 bHZ (x) by rw [← hWn]; exact HZ.out.set _)
          replace IOHZ : Hid (IsIface (x)) := Lib.hid (shx.out)
          replace HB := Lib.hid (show Below w.heap.size w W7 by rw [← hWn]; exact HB.out.setCell GEHZ.out _)
          replace HFR := Lib.hid (fun b h => HFR.out b (by rw [← hz]; exact h))
          have cHA := HA.out.2.1
          have cHR := HR.out.2.1
          have cHZ := HZ.out.2.1
          rw [hWn]
          clear hWn hg hz cHZ0
          refine hK.out _ _ ?_ (fun hHeld => ?_)
          · exact ⟨cHA, cHR⟩
          clear hK K
          refine wpAnyH_take (i := 9) (v := ?_) rfl (by kernel_rfl) (by kernel_rfl) (by kernel_rfl) (fun _ _ _ h => h) (Or.inl ⟨by rfl, ?_⟩) (by assumption) ?_
          rotate_left
          · (intro w hSw; (try dsimp only at hSw); go_simp; try with_reducible rfl)
          simp only [Act.put, List.getElem_toArray, List.getElem_cons_succ, List.getElem_cons_zero, List.setIfInBounds_toArray, List.set_cons_zero, List.set_cons_succ]
          refine wpAnyH_done (by kernel_rfl) ?_ _
          clear hHeld
          have fHR := HR.out.2.2 0
          go_wp2
          refine bodyPost_ret (v := .agg #[x]) (by simp [results, Tryz.results50, go_sem, cHR]) rfl ⟨x, rfl, (HX.out.setw cHR IOHR.out NOHR.out _).nbw (fun b _ h => HOKP.out b h), HB.out.setCell GEHR.out _⟩
        exact AllReadyH.nil
      exact AllReadyH.nil
    exact AllReadyH.nil
  exact AllReadyH.nil

set_option maxHeartbeats 4000000 in
theorem numbers_yes {ok : Nat → Prop} (v : Value) (l : List Nat) (w : World) (hv : Slc w ok v l.length (f64s l)) (hm : l.length ≤ 1048576) (hf : ∀ x ∈ l, Fnt x) (hT : TabAt w) :
    Calls Tryz.prog 27 #[v] w fun e w' => ∃ u', e = .returned (.tuple #[.agg #[u'], .bool true]) ∧ IsV w' ((VV.floats (l.map ze)).sq.nb (fun b => w.heap.size ≤ b)) u' (VV.floats (l.map ze)).sq ∧ Below w.heap.size w w' := by
  have HV := Lib.hid hv
  have HM := Lib.hid (show l.length ≤ 2000000 by omega)
  have HF := Lib.hid hf
  have HT := Lib.hid hT
  have HOK : Hid ((VV.floats (l.map ze)).ok) := Lib.hid (show (l.map ze).length ≤ 1048576 by rw [List.length_map]; omega)
  have HN : Hid ((VV.floats (l.map ze)).nm) := Lib.hid (fun x hx => by obtain ⟨y, hy, rfl⟩ := List.mem_map.1 hx; exact Fl.ze_num (hf y hy))
  have HB := Lib.hid (Below.refl w.heap.size w)
  obtain ⟨ao, cap, rfl, _⟩ := hv.opened
  clear hv hm hf hT
  obtain ⟨ok0, hok0⟩ : ∃ o : Nat → Prop, o = fun b => w.heap.size ≤ b := ⟨_, rfl⟩
  have HOKP := Lib.hid (show ∀ b, ok0 b → w.heap.size ≤ b by rw [hok0]; exact fun b h => h)
  have HFR := Lib.hid (show ∀ b, w.heap.size ≤ b → ok0 b by rw [hok0]; exact fun b h => h)
  clear hok0
  obtain ⟨W1, hWn⟩ : ∃ X, (w.alloc (.cells #[.nilIface] 29)) = X := ⟨_, rfl⟩
  have hB : Below w.heap.size w W1 := by rw [← hWn]; exact below_new _ _
  have hla : w.heap.size ≤ w.heap.size := by omega
  have hlb : w.heap.size < W1.heap.size := by rw [← hWn]; simp; try omega
  have HR := Lib.hid (show At1 W1 w.heap.size (.nilIface) by rw [← hWn]; exact At1.new _ (.nilIface) 29)
  have GEHR := Lib.hid (show w.heap.size ≤ w.heap.size from Nat.le_trans HB.out.size hla)
  obtain ⟨ok1, o1, o2, o3, o4⟩ := ok_step ok0 w.heap.size w.heap.size W1.heap.size HFR.out hla hlb
  replace HOKP := Lib.hid (fun b h => HOKP.out b (o1 b h))
  replace HFR := Lib.hid o3
  replace HT := Lib.hid (fun j hj => keep_below hB _ _ (HT.out j hj))
  replace HV := Lib.hid (HV.out.below hB)
  replace HB := Lib.hid (HB.out.trans (hB.mono HB.out.size))
  have NOHR := Lib.hid o4
  clear o1 o2 o3 o4
  clear hla hlb hB
  have IOHR : Hid (IsIface (.nilIface)) := Lib.hid (.inl rfl)
  have cHR := HR.out.2.1
  
  have hE0 := hWn
  clear hWn
  go_enter Tryz.func27, Tryz.ntmps27
  go_wp2_with fail
  clear hE0
  refine (vfloats_yes _ l _ HV.out HM.out HF.out).mono ?_
  clear cHR
  rintro e W2 ⟨u, rfl, hu0, hB⟩
  have hu := hu0.nbk (ok' := fun b => ok1 b ∨ W1.heap.size ≤ b) (fun b _ h => .inr h)
  clear hu0
  have stu := hu.store
  have shu := Lib.hid hu.shape
  have HU := Lib.hid (hu.nbw (ok' := ok1) (fun b _ h => h.elim id (HFR.out b)))
  clear hu
  replace HT := Lib.hid (fun j hj => keep_below hB _ _ (HT.out j hj))
  replace HV := Lib.hid (HV.out.below hB)
  replace HR := Lib.hid (HR.out.below hB)
  replace HB := Lib.hid (HB.out.trans (hB.mono HB.out.size))
  replace HFR := Lib.hid (fun b h => HFR.out b (Nat.le_trans hB.size h))
  clear hB
  have cHR := HR.out.2.1
  obtain ⟨W3, hWn⟩ : ∃ X, (W2.alloc (.cells #[u] 29)) = X := ⟨_, rfl⟩
  have hB : Below W2.heap.size W2 W3 := by rw [← hWn]; exact below_new _ _
  have hla : W2.heap.size ≤ W2.heap.size := by omega
  have hlb : W2.heap.size < W3.heap.size := by rw [← hWn]; simp; try omega
  have HZ := Lib.hid (show At1 W3 W2.heap.size (u) by rw [← hWn]; exact At1.new _ (u) 29)
  clear cHR
  have NEHRHZ := Lib.hid (show w.heap.size ≠ W2.heap.size by have := HR.out.1; omega)
  have GEHZ := Lib.hid (show w.heap.size ≤ W2.heap.size from Nat.le_trans HB.out.size hla)
  obtain ⟨ok2, o1, o2, o3, o4⟩ := ok_step ok1 W2.heap.size W2.heap.size W3.heap.size HFR.out hla hlb
  replace HOKP := Lib.hid (fun b h => HOKP.out b (o1 b h))
  replace HFR := Lib.hid o3
  replace NOHR := Lib.hid (fun h => NOHR.out (o1 _ h))
  replace HT := Lib.hid (fun j hj => keep_below hB _ _ (HT.out j hj))
  replace HV := Lib.hid (HV.out.below hB)
  replace HR := Lib.hid (HR.out.below hB)
  replace HU := Lib.hid ((HU.out.nbw (fun b hb h => o2 b hb h)).grow hB)
  replace HB := Lib.hid (HB.out.trans (hB.mono HB.out.size))
  have NOHZ := Lib.hid o4
  clear o1 o2 o3 o4
  clear hla hlb hB
  have IOHZ : Hid (IsIface (u)) := Lib.hid (shu.out)
  have cHR := HR.out.2.1
  have cHZ := HZ.out.2.1
  
  have hE1 := hWn
  clear hWn
  go_wp2_with fail
  clear hE1
  refine (squeeze_calls _ _ _ HU.out HOK.out HN.out HT.out).mono ?_
  clear cHR cHZ
  rintro e W4 ⟨x, rfl, hu, hB⟩
  have stx := hu.store
  have shx := Lib.hid hu.shape
  have HX := Lib.hid (hu.nbw (ok' := ok2) (fun b _ h => h.elim id (HFR.out b)))
  clear hu
  replace HT := Lib.hid (fun j hj => keep_below hB _ _ (HT.out j hj))
  replace HV := Lib.hid (HV.out.below hB)
  replace HR := Lib.hid (HR.out.below hB)
  replace HU := Lib.hid (HU.out.grow hB)
  replace HZ := Lib.hid (HZ.out.below hB)
  replace HB := Lib.hid (HB.out.trans (hB.mono HB.out.size))
  replace HFR := Lib.hid (fun b h => HFR.out b (Nat.le_trans hB.size h))
  clear hB
  have cHR := HR.out.2.1
  have cHZ := HZ.out.2.1
  have fHR := HR.out.2.2 0
  go_wp2
  refine bodyPost_ret (v := .tuple #[.agg #[x], .bool true]) (by simp [results, Tryz.results27, go_sem, cHR]) rfl ⟨x, rfl, (HX.out.setw cHR IOHR.out NOHR.out _).nbw (fun b _ h => HOKP.out b h), HB.out.setCell GEHR.out _⟩

set_option maxHeartbeats 4000000 in
theorem numbers_no {ok : Nat → Prop} (v : Value) (l : List Nat) (w : World) (hv : Slc w ok v l.length (f64s l)) (hm : l.length ≤ 1048576) (hw : ∀ x ∈ l, x < 18446744073709551616) (hf : ∃ x ∈ l, ¬ Fnt x) :
    Calls Tryz.prog 27 #[v] w fun e w' => e = .returned (.tuple #[.agg #[.nilIface], .bool false]) ∧ Below w.heap.size w w' := by
  have HV := Lib.hid hv
  have HM := Lib.hid (show l.length ≤ 2000000 by omega)
  have HF := Lib.hid hf
  have HW := Lib.hid hw
  have HB := Lib.hid (Below.refl w.heap.size w)
  obtain ⟨ao, cap, rfl, _⟩ := hv.opened
  clear hv hm hf hw
  obtain ⟨W1, hWn⟩ : ∃ X, (w.alloc (.cells #[.nilIface] 29)) = X := ⟨_, rfl⟩
  have hB : Below w.heap.size w W1 := by rw [← hWn]; exact below_new _ _
  have hla : w.heap.size ≤ w.heap.size := by omega
  have hlb : w.heap.size < W1.heap.size := by rw [← hWn]; simp; try omega
  have HR := Lib.hid (show At1 W1 w.heap.size (.nilIface) by rw [← hWn]; exact At1.new _ (.nilIface) 29)
  have GEHR := Lib.hid (show w.heap.size ≤ w.heap.size from Nat.le_trans HB.out.size hla)
  replace HV := Lib.hid (HV.out.below hB)
  replace HB := Lib.hid (HB.out.trans (hB.mono HB.out.size))
  clear hla hlb hB
  have IOHR : Hid (IsIface (.nilIface)) := Lib.hid (.inl rfl)
  have cHR := HR.out.2.1
  
  have hE0 := hWn
  clear hWn
  go_enter Tryz.func27, Tryz.ntmps27
  go_wp2_with fail
  clear hE0
  refine (vfloats_no _ l _ HV.out HM.out HW.out HF.out).mono ?_
  clear cHR
  rintro e W2 ⟨u, rfl, hu, hB⟩
  replace HV := Lib.hid (HV.out.below hB)
  replace HR := Lib.hid (HR.out.below hB)
  replace HB := Lib.hid (HB.out.trans (hB.mono HB.out.size))
  have stu := hu.store
  have shu := Lib.hid hu.shape
  clear hu
  clear hB
  have cHR := HR.out.2.1
  obtain ⟨W3, hWn⟩ : ∃ X, (W2.alloc (.cells #[u] 29)) = X := ⟨_, rfl⟩
  have hB : Below W2.heap.size W2 W3 := by rw [← hWn]; exact below_new _ _
  have hla : W2.heap.size ≤ W2.heap.size := by omega
  have hlb : W2.heap.size < W3.heap.size := by rw [← hWn]; simp; try omega
  have HZ := Lib.hid (show At1 W3 W2.heap.size (u) by rw [← hWn]; exact At1.new _ (u) 29)
  clear cHR
  have NEHRHZ := Lib.hid (show w.heap.size ≠ W2.heap.size by have := HR.out.1; omega)
  have GEHZ := Lib.hid (show w.heap.size ≤ W2.heap.size from Nat.le_trans HB.out.size hla)
  replace HV := Lib.hid (HV.out.below hB)
  replace HR := Lib.hid (HR.out.below hB)
  replace HB := Lib.hid (HB.out.trans (hB.mono HB.out.size))
  clear hla hlb hB
  have IOHZ : Hid (IsIface (u)) := Lib.hid (shu.out)
  have cHR := HR.out.2.1
  have cHZ := HZ.out.2.1
  
  have hE1 := hWn
  clear hWn
  have fHR := HR.out.2.2 0
  go_wp2
  clear hE1
  refine bodyPost_ret (v := .tuple #[.agg #[.nilIface], .bool false]) (by simp [results, Tryz.results27, go_sem, cHR]) rfl ⟨rfl, HB.out.setCell GEHR.out _⟩
end Go.Proofs.YtbfcdpabjailcaaGreatDoor

/- Layer 5: squeezed kinds; the law's awake. -/
namespace Go.Proofs.YtbfcdpabjailcaaGreatDoor
open Go.RowKit Fl
set_option linter.unusedVariables false
set_option maxRecDepth 100000

theorem VV.least_eq {V : VV} (hok : V.ok) (hn : V.nm) (h : V.cls = 0) : V.least = leastW V.nums := by
  by_cases h1 : V.kind = 1
  · have a := VV.leastW_le hok hn h
    have b := VV.least_oth (.inl h1)
    have c := _root_.Go.Proofs.YtbfcdpabjailcaaGreatDoor.leastW_le V.nums
    omega
  · exact VV.least_num h1 h
theorem VV.sq_kind {V : VV} (hok : V.ok) (hn : V.nm) (h : V.cls = 0) : V.sq.kind = (leastW V.nums : Int) := by
  rw [(VV.sq_spec hok hn).1, VV.least_eq hok hn h]
theorem wh_ofInt {n : Int} {c : Nat} (h : n.natAbs ≤ 9007199254740992) (hc : floatOfInt .f64 n = c) : Wh c n := by
  subst hc; exact ⟨ofInt_fin n (by omega), h, ofInt_val n h⟩
end Go.Proofs.YtbfcdpabjailcaaGreatDoor

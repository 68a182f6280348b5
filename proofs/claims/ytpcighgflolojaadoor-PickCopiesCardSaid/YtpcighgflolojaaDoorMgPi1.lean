/- Merged: PiM, PiA, PiW, PiB, PiN, PiC, PiD. -/
import Derived.Test.YtpcighgflolojaaDoorMgVe1
import Derived.Test.YtpcighgflolojaaDoorMgNu1
import Derived.Test.YtpcighgflolojaaDoorMgBv1
import Derived.Test.YtpcighgflolojaaDoorMgFo1
import Derived.Test.YtpcighgflolojaaDoorMgSq1
/- Layer 15, plain: places that are turned, taken, dropped, copied, and picked along an axis. -/
namespace Go.Proofs.YtpcighgflolojaaDoor
set_option maxRecDepth 100000
open Go.RowKit Fl
set_option linter.unusedVariables false

/-- What Rolled tells. -/
def rolF (n : Nat) (b : Int) (i : Nat) : Int := ((i : Int) + b) % (n : Int)
def rolL (n : Nat) (b : Int) : List Int := (List.range n).map (rolF n b)
theorem tmod_form (n : Nat) (b : Int) : ∃ q : Int, b = (n : Int) * q + b.tmod n := ⟨b.tdiv n, (Int.mul_tdiv_add_tmod b n).symm⟩
theorem rol_mod (n : Nat) (b : Int) (i : Nat) : rolF n b i = ((i : Int) + b.tmod n) % (n : Int) := by
  obtain ⟨q, hq⟩ := tmod_form n b
  unfold rolF
  generalize b.tmod n = r at hq
  subst hq
  rw [show (i : Int) + ((n : Int) * q + r) = (i : Int) + r + (n : Int) * q by omega, Int.add_mul_emod_self_left]
theorem rol_prog {n : Nat} {b : Int} (i : Nat) (hn : 0 < n) : ((i : Int) + (b.tmod n + n)).tmod n = rolF n b i := by
  have h2 := Int.lt_tmod_of_pos b (b := (n : Int)) (by omega)
  rw [rol_mod, Int.tmod_eq_emod_of_nonneg (by omega), ← Int.add_assoc, Int.add_emod_right]
/-- What Taken tells: from the first place on, or up to the last one. -/
def takA (n : Nat) (many : Int) : Int := if many < 0 then (n : Int) + many else 0
def takF (n : Nat) (many : Int) (i : Nat) : Int := if 0 ≤ takA n many + (i : Int) ∧ takA n many + (i : Int) < n then takA n many + (i : Int) else -1
def takL (n : Nat) (many : Int) : List Int := (List.range many.natAbs).map (takF n many)
theorem tak_len (n : Nat) (many : Int) : (takL n many).length = many.natAbs := by simp [takL]
/-- What Copies tells of the first k elements. -/
def cpR (c : Int) (i : Nat) : List Int := List.replicate c.natAbs (if c < 0 then -1 else (i : Int))
def cpTo (s : List Int) (k : Nat) : List Int := (List.range k).flatMap fun i => cpR (s.getD i 0) i
theorem cpTo_zero (s : List Int) : cpTo s 0 = [] := rfl
theorem cpTo_succ (s : List Int) (k : Nat) : cpTo s (k + 1) = cpTo s k ++ cpR (s.getD k 0) k := by
  unfold cpTo; rw [List.range_succ, List.flatMap_append]; simp
theorem cpTo_mono (s : List Int) {k n : Nat} (h : k ≤ n) : (cpTo s k).length ≤ (cpTo s n).length := by
  induction n with
  | zero => rw [Nat.le_zero.1 h]; exact Nat.le_refl _
  | succ n ih =>
    by_cases h2 : k = n + 1
    · rw [h2]; exact Nat.le_refl _
    · rw [cpTo_succ, List.length_append]; have := ih (by omega); omega
theorem cpR_len (c : Int) (i : Nat) : (cpR c i).length = c.natAbs := by simp [cpR]
/-- The counts, one for each of n elements. -/
def cpS (l : List Int) (n : Nat) : List Int := if l.length = n then l else List.replicate n (l.getD 0 0)
theorem cpS_same {l : List Int} {n : Nat} (h : l.length = n) : cpS l n = l := if_pos h
theorem cpS_one {l : List Int} {n : Nat} (h : l.length ≠ n) : cpS l n = List.replicate n (l.getD 0 0) := if_neg h
theorem cpS_len (l : List Int) (n : Nat) : (cpS l n).length = n := by unfold cpS; split <;> simp [*]
theorem cpS_get {l : List Int} {n k : Nat} (hk : k < n) (h : l.length = n ∨ l.length = 1) : (cpS l n).getD k 0 = if 1 < l.length then l.getD k 0 else l.getD 0 0 := by
  unfold cpS
  by_cases h1 : l.length = n
  · rw [if_pos h1]
    by_cases h2 : 1 < l.length
    · rw [if_pos h2]
    · rw [if_neg h2, show k = 0 by omega]
  · rw [if_neg h1, if_neg (by omega)]
    simp [List.getD_eq_getElem?_getD, hk]
/-- What Copies tells of counts that are whole. -/
def cpEw (l : List Int) (n most : Nat) : Int := if l.length = n ∨ l.length = 1 then (if (cpTo (cpS l n) n).length ≤ most then 0 else 26) else 23
def cpLw (l : List Int) (n most : Nat) : List Int := if cpEw l n most = 0 then cpTo (cpS l n) n else []
def cpE (V : VV) (n most : Nat) : Int := if V.isWh = true then cpEw V.whs n most else 24
def cpL (V : VV) (n most : Nat) : List Int := if V.isWh = true then cpLw V.whs n most else []
theorem cpEw_23 {l : List Int} {n most : Nat} (h : ¬ (l.length = n ∨ l.length = 1)) : cpEw l n most = 23 ∧ cpLw l n most = [] := by
  have e : cpEw l n most = 23 := if_neg h
  exact ⟨e, by unfold cpLw; rw [e]; rfl⟩
theorem cpEw_26 {l : List Int} {n most : Nat} (h : l.length = n ∨ l.length = 1) (h2 : most < (cpTo (cpS l n) n).length) : cpEw l n most = 26 ∧ cpLw l n most = [] := by
  have e : cpEw l n most = 26 := by unfold cpEw; rw [if_pos h, if_neg (by omega)]
  exact ⟨e, by unfold cpLw; rw [e]; rfl⟩
theorem cpEw_0 {l : List Int} {n most : Nat} (h : l.length = n ∨ l.length = 1) (h2 : (cpTo (cpS l n) n).length ≤ most) : cpEw l n most = 0 ∧ cpLw l n most = cpTo (cpS l n) n := by
  have e : cpEw l n most = 0 := by unfold cpEw; rw [if_pos h, if_pos h2]
  exact ⟨e, by unfold cpLw; rw [e]; rfl⟩

/-- A whole number and one more, as floats. -/
theorem fl_one : floatOfInt .f64 1 = 4607182418800017408 := by decide +kernel
theorem fl_sum {k P : Nat} {x y : Nat} (hP : 0 < P) (hx : V x = (k : Int) * (P : Int)) (hy : V y = 1 * (P : Int)) : V x + V y = (((k + 1) * P : Nat) : Int) ∧ ¬ V x + V y = 0 ∧ decide (V x + V y < 0) = false ∧ (V x + V y).natAbs = (k + 1) * P := by
  have e : V x + V y = (((k + 1) * P : Nat) : Int) := by rw [hx, hy, ← Int.add_mul]; simp
  have h0 : 0 < (k + 1) * P := Nat.mul_pos (Nat.succ_pos k) hP
  refine ⟨e, ?_, ?_, ?_⟩
  · rw [e]; omega
  · rw [e]; exact decide_eq_false (by omega)
  · rw [e]; exact Int.natAbs_natCast _
theorem fl_succ (k : Nat) (h : k + 1 ≤ 9007199254740992) : Ieee.double.add (floatOfInt .f64 (k : Int)) 4607182418800017408 = some (floatOfInt .f64 ((k + 1 : Nat) : Int)) := by
  rw [← fl_one]
  obtain ⟨h1, h2, h3, h4⟩ := fl_sum (pw_pos 1074) (ofInt_val (k : Int) (by omega)) (ofInt_val 1 (by decide))
  rw [add_fin (ofInt_fin _ (by omega)) (ofInt_fin 1 (by decide)), if_neg h2, h3, h4, ofInt_eq ((k + 1 : Nat) : Int), nearest_pw _ _ 0 1074 (by decide), decide_eq_false (show ¬ ((k + 1 : Nat) : Int) < 0 by omega), Int.natAbs_natCast]

end Go.Proofs.YtpcighgflolojaaDoor

/- Layer 15, walked: has, size, Rolled, Taken, Dropped, the program's and the reference's. -/
namespace Go.Proofs.YtpcighgflolojaaDoor
set_option maxRecDepth 100000
open Go.RowKit Fl
set_option linter.unusedVariables false

theorem info_int3 : (Tryd.prog.info? 3).map (fun i => (i.zero, i.size, i.bytes)) = some (some (.int .i64 0), 1, 8) := by kernel_rfl
theorem run_mkI3 (n : Nat) (hn : n ≤ 2000000) (w : World) : (Instr.makeSlice 30 (.int .i64 (n : Int)) (.int .i64 (n : Int))).run Tryd.prog w = .ok (.slice (some ⟨w.heap.size, 0, none⟩) n n) (w.alloc (.cells (zerosV (.int .i64 0) n) 3)) := by
  obtain ⟨i0, hi, hz0, hz1, hz2⟩ := info_parts info_int3
  have hr := run_make (P := Tryd.prog) w 30 3 i0 _ Tryd.underlying30 hi hz0 .i64 .i64 n n (by omega) (Int.le_refl _) (by rw [hz2]; omega) (by omega)
  simp only [Int.toNat_natCast, hz1] at hr
  exact hr
theorem cell_one_newp (w : World) (x : Value) (t : TypeId) : ∀ (j : Nat) (u : Value), ([x] : List Value)[j]? = some u → (w.alloc (.cells #[x] t)).cell? ((⟨w.heap.size, 0, none⟩ : Addr).add j) = some u := by
  intro j u hj
  match j, hj with
  | 0, hj => simp at hj; subst hj; simp [Addr.add]
theorem one_intp (z : Int) : ∀ u ∈ ([.int .i64 z] : List Value), u.oneCell' = true := by intro u hu; simp at hu; subst hu; rfl
theorem phas_yes (n p : Int) (w : World) (h1 : 0 ≤ p) (h2 : p < n) : Calls Tryd.prog 27 #[.int .i64 n, .int .i64 p] w fun e w' => e = .returned (.bool true) ∧ w = w' := by
  go_enter Tryd.func27, Tryd.ntmps27
  go_wp2
  go_ret
  exact ⟨rfl, rfl⟩
theorem phas_no (n p : Int) (w : World) (h : ¬ (0 ≤ p ∧ p < n)) : Calls Tryd.prog 27 #[.int .i64 n, .int .i64 p] w fun e w' => e = .returned (.bool false) ∧ w = w' := by
  by_cases h1 : 0 ≤ p
  · have h2 : ¬ p < n := by omega
    clear h
    go_enter Tryd.func27, Tryd.ntmps27
    go_wp2
    go_ret
    exact ⟨rfl, rfl⟩
  · clear h
    go_enter Tryd.func27, Tryd.ntmps27
    go_wp2
    go_ret
    exact ⟨rfl, rfl⟩
theorem psize_calls (n : Int) (w : World) (h : -9223372036854775808 < n) (h2 : n ≤ 9223372036854775807) : Calls Tryd.prog 24 #[.int .i64 n] w fun e w' => e = .returned (.int .i64 (n.natAbs : Int)) ∧ w = w' := by
  by_cases h0 : n < 0
  · have h1 : n < -n := by omega
    have e : ((n.natAbs : Nat) : Int) = -n := by omega
    rw [e]
    go_enter Tryd.func24, Tryd.ntmps24
    go_wp2
    go_ret
    exact ⟨rfl, rfl⟩
  · have h1 : ¬ n < -n := by omega
    have e : ((n.natAbs : Nat) : Int) = n := by omega
    rw [e]
    go_enter Tryd.func24, Tryd.ntmps24
    go_wp2
    go_ret
    exact ⟨rfl, rfl⟩

set_option maxHeartbeats 4000000 in
theorem prolled_calls (n : Nat) (b : Int) (w : World) (hn : n ≤ 1048576) (hb1 : -9223372036854775808 ≤ b) (hb2 : b ≤ 9223372036854775807) :
    Calls Tryd.prog 13 #[.int .i64 (n : Int), .int .i64 b] w fun e w' => ∃ v, e = .returned v ∧ Slc w' (fun b => w.heap.size ≤ b) v (rolL n b).length (ints (rolL n b)) ∧ Below w.heap.size w w' := by
  by_cases h0 : n = 0
  · subst h0
    go_enter Tryd.func13, Tryd.ntmps13
    go_wp2
    go_ret
    exact ⟨_, rfl, Slc.nil _ _, Below.refl _ _⟩
  obtain ⟨r, hr⟩ : ∃ r, b.tmod (n : Int) = r := ⟨_, rfl⟩
  have hr1 : r < (n : Int) := hr ▸ Int.tmod_lt_of_pos b (by omega)
  have hr2 : -(n : Int) < r := hr ▸ Int.lt_tmod_of_pos b (by omega)
  have hn0 : ¬ (n : Int) < 1 := by omega
  have hn1 : ¬ (1048576 : Int) < (n : Int) := by omega
  have HRF := Lib.hid (show ∀ k : Nat, ((k : Int) + (r + (n : Int))).tmod (n : Int) = rolF n b k from fun k => hr ▸ rol_prog k (by omega))
  obtain ⟨xs, hxs⟩ : ∃ xs : List Value, xs = ints (rolL n b) := ⟨_, rfl⟩
  have hxl : xs.length = n := by rw [hxs]; simp [ints, rolL]
  have hget : ∀ k (h : k < xs.length), xs[k]'h = .int .i64 (rolF n b k) := by intro k h; simp [hxs, ints, rolL]
  rw [← hxs, show (rolL n b).length = n by simp [rolL]]
  have HX := Lib.hid hget
  have HXL := Lib.hid hxl
  have hmk := run_mkI3 n (by omega) w
  clear hxs hget hxl
  obtain ⟨W0, hW0⟩ : ∃ W0, W0 = w.alloc (.cells (zerosV (.int .i64 0) n) 3) := ⟨_, rfl⟩
  have HO0 : Hid (W0.ownsRow w.heap.size 3 1 (.slice (some ⟨w.heap.size, 0, none⟩) n n) n (List.replicate n (.int .i64 0))) := Lib.hid (by rw [hW0]; exact own_make1 _ _ _ (by omega) _ _ (Nat.le_refl _))
  have HW := Lib.hid (show Below w.heap.size w W0 by rw [hW0]; exact below_new _ _)
  go_enter Tryd.func13, Tryd.ntmps13
  go_wp2
  rw [← hW0]
  clear hW0 hmk
  go_loopw [23] (fun i wr => ∃ k : Nat, k ≤ n ∧ i = .int .i64 k ∧ wr.ownsRow w.heap.size 3 1 (.slice (some ⟨w.heap.size, 0, none⟩) n n) n (fillTo xs (.int .i64 0) k) ∧ W0.grownBy wr (some w.heap.size)) (fun i _ => n - (intOf i).toNat)
  case atStart => exact ⟨0, by omega, rfl, by rw [fillTo_zero, HXL.out]; exact HO0.out, grown_refl _ _⟩
  case round =>
    obtain ⟨k, hk, rfl, hown, hgr⟩ := hrel
    have HO := Lib.hid hown
    have HG := Lib.hid hgr
    have HB := Lib.hid (HW.out.grown hgr HW.out.size (fun j hj => by cases hj; omega))
    by_cases hlt : k < n
    · have hcw := owns_cell HO.out k (by rw [fillTo_len _ _ _ (by rw [HXL.out]; exact hk), HXL.out]; exact hlt)
      have hfr := World.ownsRow.frozenAt HO.out k
      have HXK := Lib.hid (HX.out k (by rw [HXL.out]; exact hlt))
      clear hown hgr
      have hq := HRF.out k
      go_wp2
      go_roundw
      case rel =>
        refine ⟨k + 1, by omega, by go_num, ?_, grown_trans HG.out (grown_setCell _ ⟨w.heap.size, k, none⟩ _)⟩
        have := (World.ownsRow.stored HO.out k (.int .i64 (rolF n b k))).1
        rw [← HXK.out, fillTo_set] at this
        rw [← HXK.out]
        exact this
      case measure => simp [intOf]; omega
    · have hkl : k = n := by omega
      have HK := Lib.hid hkl
      clear hown hgr hkl
      go_wp2
      go_ret
      refine ⟨_, rfl, ?_, HB.out⟩
      have := Slc.owned HO.out
      rwa [HK.out, ← HXL.out, fillTo_all, HXL.out] at this

set_option maxHeartbeats 4000000 in
theorem ptaken_own (n : Nat) (many : Int) (most : Nat) (w : World) (hn : n ≤ 1048576) (hm : many.natAbs ≤ most) (hmo : most ≤ 1048576) :
    Calls Tryd.prog 12 #[.int .i64 (n : Int), .int .i64 many, .int .i64 (most : Int)] w fun e w' => e = .returned (.tuple #[.slice (some ⟨w.heap.size, 0, none⟩) many.natAbs many.natAbs, .bool true]) ∧ w'.ownsRow w.heap.size 3 1 (.slice (some ⟨w.heap.size, 0, none⟩) many.natAbs many.natAbs) many.natAbs (ints (takL n many)) ∧ Below w.heap.size w w' := by
  obtain ⟨q, hq⟩ : ∃ q : Nat, many.natAbs = q := ⟨_, rfl⟩
  rw [hq]
  have h9 : ¬ (1048576 : Int) < (most : Int) := by omega
  have h1 : ¬ (most : Int) < 0 := by omega
  have h2 : ¬ (most : Int) < many := by omega
  have h3 : ¬ many < -(most : Int) := by omega
  by_cases hneg : many < 0
  · obtain ⟨f, hf⟩ : ∃ f, (n : Int) + many = f := ⟨_, rfl⟩
    have hf1 : -1048576 ≤ f := by omega
    have hf2 : f < (n : Int) := by omega
    have HF := Lib.hid (show ∀ k : Nat, takF n many k = if 0 ≤ f + (k : Int) ∧ f + (k : Int) < n then f + (k : Int) else -1 from fun k => by unfold takF; rw [show takA n many = f by rw [← hf]; exact if_pos hneg])
    obtain ⟨xs, hxs⟩ : ∃ xs : List Value, xs = ints (takL n many) := ⟨_, rfl⟩
    have hxl : xs.length = many.natAbs := by rw [hxs]; simp [ints, takL]
    have hget : ∀ k (h : k < xs.length), xs[k]'h = .int .i64 (takF n many k) := by intro k h; simp [hxs, ints, takL]
    rw [← hxs]
    have HX := Lib.hid hget
    rw [hq] at hxl
    have HXL := Lib.hid hxl
    have hmk := run_mkI3 q (by omega) w
    clear hxs hget hxl
    obtain ⟨W0, hW0⟩ : ∃ W0, W0 = w.alloc (.cells (zerosV (.int .i64 0) q) 3) := ⟨_, rfl⟩
    have HO0 : Hid (W0.ownsRow w.heap.size 3 1 (.slice (some ⟨w.heap.size, 0, none⟩) q q) q (List.replicate q (.int .i64 0))) := Lib.hid (by rw [hW0]; exact own_make1 _ _ _ (by omega) _ _ (Nat.le_refl _))
    have HW := Lib.hid (show Below w.heap.size w W0 by rw [hW0]; exact below_new _ _)
    go_enter Tryd.func12, Tryd.ntmps12
    go_wp2_with fail
    refine (psize_calls many _ (by omega) (by omega)).mono ?_
    rintro e w1 ⟨rfl, rfl⟩
    rw [hq]
    go_wp2_with fail
    rw [← hW0]
    clear hW0 hmk
    go_loopw [37] (fun i wr => ∃ k : Nat, k ≤ q ∧ i = .int .i64 k ∧ wr.ownsRow w.heap.size 3 1 (.slice (some ⟨w.heap.size, 0, none⟩) q q) q (fillTo xs (.int .i64 0) k) ∧ W0.grownBy wr (some w.heap.size)) (fun i _ => q - (intOf i).toNat)
    case atStart => exact ⟨0, by omega, rfl, by rw [fillTo_zero, HXL.out]; exact HO0.out, grown_refl _ _⟩
    case round =>
      obtain ⟨k, hk, rfl, hown, hgr⟩ := hrel
      have HO := Lib.hid hown
      have HG := Lib.hid hgr
      have HB := Lib.hid (HW.out.grown hgr HW.out.size (fun j hj => by cases hj; omega))
      by_cases hlt : k < q
      · have hcw := owns_cell HO.out k (by rw [fillTo_len _ _ _ (by rw [HXL.out]; exact hk), HXL.out]; exact hlt)
        have hfr := World.ownsRow.frozenAt HO.out k
        have HXK := Lib.hid (HX.out k (by rw [HXL.out]; exact hlt))
        clear hown hgr
        by_cases hin : 0 ≤ f + (k : Int) ∧ f + (k : Int) < n
        · have hi1 := hin.1
          have hi2 := hin.2
          have HKF := Lib.hid ((HF.out k).trans (if_pos hin))
          go_wp2_with fail
          refine (phas_yes _ _ _ hi1 hi2).mono ?_
          rintro e w1 ⟨rfl, rfl⟩
          obtain ⟨W1, hW1⟩ : ∃ W1, wr.setCell ⟨w.heap.size, k, none⟩ (.int .i64 (-1)) = W1 := ⟨_, rfl⟩
          rw [hW1]
          have HO1 := Lib.hid (show W1.ownsRow w.heap.size 3 1 (.slice (some ⟨w.heap.size, 0, none⟩) q q) q ((fillTo xs (.int .i64 0) k).set k (.int .i64 (-1))) by rw [← hW1]; exact (World.ownsRow.stored HO.out k (.int .i64 (-1))).1)
          have HG1 := Lib.hid (show W0.grownBy W1 (some w.heap.size) by rw [← hW1]; exact grown_trans HG.out (grown_setCell _ ⟨w.heap.size, k, none⟩ _))
          clear hcw hfr hW1
          have hcw := owns_cell HO1.out k (by rw [List.length_set, fillTo_len _ _ _ (by rw [HXL.out]; exact hk), HXL.out]; exact hlt)
          have hfr := World.ownsRow.frozenAt HO1.out k
          go_wp2
          go_roundw
          case rel =>
            refine ⟨k + 1, by omega, by go_num, ?_, grown_trans HG1.out (grown_setCell _ ⟨w.heap.size, k, none⟩ _)⟩
            rw [HKF.out] at HXK
            have := (World.ownsRow.stored HO1.out k (.int .i64 (f + (k : Int)))).1
            rw [List.set_set, ← HXK.out, fillTo_set] at this
            rw [← HXK.out]
            exact this
          case measure => simp [intOf]; omega
        · have HKF := Lib.hid ((HF.out k).trans (if_neg hin))
          go_wp2_with fail
          refine (phas_no _ _ _ hin).mono ?_
          rintro e w1 ⟨rfl, rfl⟩
          go_wp2
          go_roundw
          case rel =>
            refine ⟨k + 1, by omega, by go_num, ?_, grown_trans HG.out (grown_setCell _ ⟨w.heap.size, k, none⟩ _)⟩
            rw [HKF.out] at HXK
            have := (World.ownsRow.stored HO.out k (.int .i64 (-1))).1
            rw [← HXK.out, fillTo_set] at this
            rw [← HXK.out]
            exact this
          case measure => simp [intOf]; omega
      · have hkl : k = q := by omega
        have HK := Lib.hid hkl
        clear hown hgr hkl
        go_wp2
        go_ret2
        refine ⟨rfl, ?_, HB.out⟩
        have := HO.out
        rwa [HK.out, ← HXL.out, fillTo_all, HXL.out] at this
  · have HF := Lib.hid (show ∀ k : Nat, takF n many k = if 0 ≤ (k : Int) ∧ (k : Int) < n then (k : Int) else -1 from fun k => by unfold takF; rw [show takA n many = 0 from if_neg hneg, Int.zero_add])
    obtain ⟨xs, hxs⟩ : ∃ xs : List Value, xs = ints (takL n many) := ⟨_, rfl⟩
    have hxl : xs.length = many.natAbs := by rw [hxs]; simp [ints, takL]
    have hget : ∀ k (h : k < xs.length), xs[k]'h = .int .i64 (takF n many k) := by intro k h; simp [hxs, ints, takL]
    rw [← hxs]
    have HX := Lib.hid hget
    rw [hq] at hxl
    have HXL := Lib.hid hxl
    have hmk := run_mkI3 q (by omega) w
    clear hxs hget hxl
    obtain ⟨W0, hW0⟩ : ∃ W0, W0 = w.alloc (.cells (zerosV (.int .i64 0) q) 3) := ⟨_, rfl⟩
    have HO0 : Hid (W0.ownsRow w.heap.size 3 1 (.slice (some ⟨w.heap.size, 0, none⟩) q q) q (List.replicate q (.int .i64 0))) := Lib.hid (by rw [hW0]; exact own_make1 _ _ _ (by omega) _ _ (Nat.le_refl _))
    have HW := Lib.hid (show Below w.heap.size w W0 by rw [hW0]; exact below_new _ _)
    go_enter Tryd.func12, Tryd.ntmps12
    go_wp2_with fail
    refine (psize_calls many _ (by omega) (by omega)).mono ?_
    rintro e w1 ⟨rfl, rfl⟩
    rw [hq]
    go_wp2_with fail
    rw [← hW0]
    clear hW0 hmk
    go_loopw [37] (fun i wr => ∃ k : Nat, k ≤ q ∧ i = .int .i64 k ∧ wr.ownsRow w.heap.size 3 1 (.slice (some ⟨w.heap.size, 0, none⟩) q q) q (fillTo xs (.int .i64 0) k) ∧ W0.grownBy wr (some w.heap.size)) (fun i _ => q - (intOf i).toNat)
    case atStart => exact ⟨0, by omega, rfl, by rw [fillTo_zero, HXL.out]; exact HO0.out, grown_refl _ _⟩
    case round =>
      obtain ⟨k, hk, rfl, hown, hgr⟩ := hrel
      have HO := Lib.hid hown
      have HG := Lib.hid hgr
      have HB := Lib.hid (HW.out.grown hgr HW.out.size (fun j hj => by cases hj; omega))
      by_cases hlt : k < q
      · have hcw := owns_cell HO.out k (by rw [fillTo_len _ _ _ (by rw [HXL.out]; exact hk), HXL.out]; exact hlt)
        have hfr := World.ownsRow.frozenAt HO.out k
        have HXK := Lib.hid (HX.out k (by rw [HXL.out]; exact hlt))
        clear hown hgr
        by_cases hin : 0 ≤ (k : Int) ∧ (k : Int) < n
        · have hi1 := hin.1
          have hi2 := hin.2
          have HKF := Lib.hid ((HF.out k).trans (if_pos hin))
          go_wp2_with fail
          refine (phas_yes _ _ _ hi1 hi2).mono ?_
          rintro e w1 ⟨rfl, rfl⟩
          obtain ⟨W1, hW1⟩ : ∃ W1, wr.setCell ⟨w.heap.size, k, none⟩ (.int .i64 (-1)) = W1 := ⟨_, rfl⟩
          rw [hW1]
          have HO1 := Lib.hid (show W1.ownsRow w.heap.size 3 1 (.slice (some ⟨w.heap.size, 0, none⟩) q q) q ((fillTo xs (.int .i64 0) k).set k (.int .i64 (-1))) by rw [← hW1]; exact (World.ownsRow.stored HO.out k (.int .i64 (-1))).1)
          have HG1 := Lib.hid (show W0.grownBy W1 (some w.heap.size) by rw [← hW1]; exact grown_trans HG.out (grown_setCell _ ⟨w.heap.size, k, none⟩ _))
          clear hcw hfr hW1
          have hcw := owns_cell HO1.out k (by rw [List.length_set, fillTo_len _ _ _ (by rw [HXL.out]; exact hk), HXL.out]; exact hlt)
          have hfr := World.ownsRow.frozenAt HO1.out k
          go_wp2
          go_roundw
          case rel =>
            refine ⟨k + 1, by omega, by go_num, ?_, grown_trans HG1.out (grown_setCell _ ⟨w.heap.size, k, none⟩ _)⟩
            rw [HKF.out] at HXK
            have := (World.ownsRow.stored HO1.out k (.int .i64 ((k : Int)))).1
            rw [List.set_set, ← HXK.out, fillTo_set] at this
            rw [← HXK.out]
            exact this
          case measure => simp [intOf]; omega
        · have HKF := Lib.hid ((HF.out k).trans (if_neg hin))
          go_wp2_with fail
          refine (phas_no _ _ _ hin).mono ?_
          rintro e w1 ⟨rfl, rfl⟩
          go_wp2
          go_roundw
          case rel =>
            refine ⟨k + 1, by omega, by go_num, ?_, grown_trans HG.out (grown_setCell _ ⟨w.heap.size, k, none⟩ _)⟩
            rw [HKF.out] at HXK
            have := (World.ownsRow.stored HO.out k (.int .i64 (-1))).1
            rw [← HXK.out, fillTo_set] at this
            rw [← HXK.out]
            exact this
          case measure => simp [intOf]; omega
      · have hkl : k = q := by omega
        have HK := Lib.hid hkl
        clear hown hgr hkl
        go_wp2
        go_ret2
        refine ⟨rfl, ?_, HB.out⟩
        have := HO.out
        rwa [HK.out, ← HXL.out, fillTo_all, HXL.out] at this
theorem ptaken_yes (n : Nat) (many : Int) (most : Nat) (w : World) (hn : n ≤ 1048576) (hm : many.natAbs ≤ most) (hmo : most ≤ 1048576) :
    Calls Tryd.prog 12 #[.int .i64 (n : Int), .int .i64 many, .int .i64 (most : Int)] w fun e w' => ∃ v, e = .returned (.tuple #[v, .bool true]) ∧ Slc w' (fun b => w.heap.size ≤ b) v (takL n many).length (ints (takL n many)) ∧ Below w.heap.size w w' := by
  refine (ptaken_own n many most w hn hm hmo).mono ?_
  rintro e w1 ⟨rfl, h, hB⟩
  exact ⟨_, rfl, by rw [tak_len]; exact Slc.owned h, hB⟩
end Go.Proofs.YtpcighgflolojaaDoor

/- Layer 15, walked: slices.Repeat of one whole number. -/
namespace Go.Proofs.YtpcighgflolojaaDoor
set_option maxRecDepth 100000
open Go.RowKit
set_option linter.unusedVariables false

/-- A row of c cells, the first n of them x. -/
def repI (x : Int) (c n : Nat) : List Value := List.replicate n (.int .i64 x) ++ List.replicate (c - n) (.int .i64 0)
theorem repI_len (x : Int) (c n : Nat) (h : n ≤ c) : (repI x c n).length = c := by simp [repI]; omega
theorem repI_full (x : Int) (c : Nat) : repI x c c = List.replicate c (.int .i64 x) := by simp [repI]
theorem repI_zero (x : Int) (c : Nat) : repI x c 0 = List.replicate c (.int .i64 0) := by simp [repI]
theorem repI_splice (x : Int) (c n k : Nat) (h : n + k ≤ c) : splice (repI x c n) n (List.replicate k (.int .i64 x)) = repI x c (n + k) := by
  unfold splice repI
  rw [List.take_left' (by simp), List.length_replicate, ← List.append_assoc, List.replicate_append_replicate, List.drop_append, List.drop_eq_nil_of_le (by simp), List.nil_append, List.drop_replicate]
  congr 2
  simp; omega
theorem repI_get (x : Int) (c n : Nat) {j : Nat} (hj : j < n) : (repI x c n)[j]? = some (.int .i64 x) := by
  unfold repI
  rw [List.getElem?_append_left (by simpa using hj), List.getElem?_replicate, if_pos hj]
set_option maxHeartbeats 4000000 in
theorem srepeatI_calls {ok : Nat → Prop} (v : Value) (x : Int) (c : Nat) (w : World) (hv : Slc w ok v 1 [.int .i64 x]) (hc : c ≤ 1048576) :
    Calls Tryd.prog 22 #[v, .int .i64 (c : Int)] w fun e w' => ∃ v', e = .returned v' ∧ Slc w' (fun b => w.heap.size ≤ b) v' c (List.replicate c (.int .i64 x)) ∧ Below w.heap.size w w' := by
  obtain ⟨ao, cap, rfl, h1, h2, h3, h4⟩ := hv.opened
  obtain ⟨b, off, rfl, hok, hx⟩ := h4 0 (by simp)
  simp only [Nat.add_zero, List.getElem_cons_zero] at hx
  have HX := Lib.hid hx
  have HC := Lib.hid hc
  have hmk := run_mkI1 c (by omega) w
  obtain ⟨i0, hi, hz0, hz1, hz2⟩ := info_parts info_i64
  have HSZ := Lib.hid (show (Tryd.prog.info? 2).map (·.size) = some 1 by rw [hi]; simp [hz1])
  clear hi hz0 hz1 hz2
  obtain ⟨W0, hW0⟩ : ∃ W0, W0 = w.alloc (.cells (zerosV (.int .i64 0) c) 2) := ⟨_, rfl⟩
  have HB0 := Lib.hid (show Below w.heap.size w W0 by rw [hW0]; exact below_new _ _)
  have HG0 := Lib.hid (show W0.heap[w.heap.size]? = some (.cells (repI x c 0).toArray 2 (0, 0)) by
    have e : zerosV (.int .i64 0) c = (List.replicate c (Value.int .i64 0)).toArray := Array.toList_inj.1 (by rw [zerosV, toList_madeCells_one]; simp)
    rw [hW0, repI_zero, e]
    simp only [World.alloc, Array.getElem?_push_size])
  have HX0 := Lib.hid (keep_below HB0.out _ _ HX.out)
  obtain ⟨k, hk⟩ : ∃ k, Nat.min 1 c = k := ⟨_, rfl⟩
  have hkc : k ≤ c := by rw [← hk]; exact Nat.min_le_right _ _
  have HK1 := Lib.hid (show k ≤ 1 by rw [← hk]; exact Nat.min_le_left _ _)
  have HKC := Lib.hid (show 0 < c → 0 < k by intro h; rw [← hk]; show 0 < min 1 c; omega)
  obtain ⟨cs, hcs⟩ : ∃ cs : List Value, List.replicate k (.int .i64 x) = cs := ⟨_, rfl⟩
  have HCL := Lib.hid (show cs.length = Nat.min 1 c by rw [← hcs, List.length_replicate, hk])
  have HCE := Lib.hid (show cs.length = k by rw [← hcs, List.length_replicate])
  have HCQ := Lib.hid (show ∀ (j : Nat) (u : Value), cs[j]? = some u → W0.cell? ⟨b, off + j, none⟩ = some u by
    intro j u hj
    obtain ⟨h9, h8⟩ := List.getElem?_eq_some_iff.1 hj
    have hj0 : j = 0 := by rw [← hcs, List.length_replicate] at h9; have := HK1.out; omega
    subst hj0
    have : u = .int .i64 x := by rw [← h8]; simp [← hcs]
    rw [this]
    exact HX0.out)
  have HCF := Lib.hid (show 0 + cs.length ≤ (repI x c 0).length by rw [HCE.out, repI_len x c 0 (by omega)]; omega)
  have HC1 := Lib.hid (show ∀ u ∈ cs, u.oneCell' = true by rw [← hcs]; intro u hu; rw [(List.mem_replicate.1 hu).2]; rfl)
  have HSP := Lib.hid (show splice (repI x c 0) 0 cs = repI x c k by rw [← hcs]; have := repI_splice x c 0 k (by omega); rwa [Nat.zero_add] at this)
  clear hv h1 h2 h3 h4 hok hx hcs hk
  have hfold := hW0.symm
  clear hW0
  go_enter Tryd.func22, Tryd.ntmps22
  go_wp2_with (first | ((with_reducible refine (bmul_calls c HC.out _).mono ?_); rintro e w' ⟨rfl, rfl⟩) | ((with_reducible show wpList _ _ _ ({ dst := some 33, op := _, type := _, pos := _, after := _, guard := _ } :: _) _ _); go_must (refine wpList_copy_splice rfl (.tmp 31) (.tmp 32) 48 48 rfl 2 Tryd.underlying48 HSZ.out _ _ c c 1 cap rfl rfl w.heap.size 0 (repI x c 0) 2 HG0.out cs HCL.out (fun _ => ⟨rfl, _, rfl, fun j u hj => add_cell (HCQ.out j u hj)⟩) HCF.out HC1.out w.heap.size w HB0.out (Nat.le_refl _) ?_)))
  intro w2 HG2 hB2
  rw [HCE.out]
  rw [HSP.out] at HG2
  have HB2 := Lib.hid hB2
  clear hB2 hfold hmk
  clear HX0 HCQ HCF HC1 HCL HCE
  go_wp2
  go_loopw [8] (fun nn wr => ∃ n : Nat, n ≤ c ∧ (0 < c → 0 < n) ∧ nn = .int .i64 n ∧ Hid (wr.heap[w.heap.size]? = some (.cells (repI x c n).toArray 2 (0, 0))) ∧ Below w.heap.size w wr) (fun nn _ => c - (intOf nn).toNat)
  case atStart => exact ⟨k, hkc, HKC.out, rfl, HG2, HB2.out⟩
  case round =>
    obtain ⟨n, hn, hpos, rfl, HG, hB⟩ := hrel
    have HB := Lib.hid hB
    have HP := Lib.hid hpos
    clear hB hpos
    by_cases hlt : n < c
    · obtain ⟨q, hq⟩ : ∃ q, Nat.min n (c - n) = q := ⟨_, rfl⟩
      have hn0 : 0 < n := HP.out (by omega)
      have hq0 : 0 < q := by rw [← hq]; show 0 < min n (c - n); omega
      have hqc : n + q ≤ c := by have : q ≤ c - n := by rw [← hq]; exact Nat.min_le_right _ _
                                 omega
      obtain ⟨cs2, hcs⟩ : ∃ cs2 : List Value, List.replicate q (.int .i64 x) = cs2 := ⟨_, rfl⟩
      have HCE := Lib.hid (show cs2.length = q by rw [← hcs, List.length_replicate])
      have HCQ := Lib.hid (show ∀ (j : Nat) (u : Value), cs2[j]? = some u → wr.cell? ⟨w.heap.size, 0 + j, none⟩ = some u by
        intro j u hj
        obtain ⟨h9, h8⟩ := List.getElem?_eq_some_iff.1 hj
        have hjq : j < q := by rw [← hcs, List.length_replicate] at h9; exact h9
        have : u = .int .i64 x := by rw [← h8]; simp [← hcs]
        rw [this, Nat.zero_add]
        exact row_cell HG.out (repI_get x c n (by have : q ≤ n := (by rw [← hq]; exact Nat.min_le_left _ _); omega)))
      have HS0 := Lib.hid (show wr.cell? ⟨w.heap.size, 0, none⟩ = some (.int .i64 x) from row_cell HG.out (repI_get x c n hn0))
      have HC1 := Lib.hid (show ∀ u ∈ cs2, u.oneCell' = true by rw [← hcs]; intro u hu; rw [(List.mem_replicate.1 hu).2]; rfl)
      have HSP := Lib.hid (show splice (repI x c n) n cs2 = repI x c (n + q) by rw [← hcs]; exact repI_splice x c n q hqc)
      have HHQ := Lib.hid hq
      obtain ⟨e, he⟩ : ∃ e, c - n = e := ⟨_, rfl⟩
      have HQE := Lib.hid (show cs2.length = Nat.min n e by rw [HCE.out, ← he, hq])
      have HCF := Lib.hid (show n + cs2.length ≤ (repI x c n).length by rw [HCE.out, repI_len x c n hn]; exact hqc)
      clear hcs hq
      go_wp2_with fail
      --TREE
      have hcn : (c = n) = False := eq_false (by omega)
      have HGO := Lib.hid HG.out
      have HBW := Lib.hid HB.out
      obtain ⟨W11, hWD⟩ : ∃ xw9, wr.drew = xw9 := ⟨_, rfl⟩
      have hB : Below wr.heap.size wr W11 := by rw [← hWD]; exact Below.drewN' (Below.refl _ _) 1
      replace HS0 := Lib.hid (keep_below hB _ _ HS0.out)
      replace HB := Lib.hid (HB.out.trans (hB.mono HB.out.size))
      replace HG := Lib.hid ((hB.block _ (lt_heap HG.out)).trans HG.out)
      replace HCQ := Lib.hid (fun j u hj => keep_below hB _ _ (HCQ.out j u hj))
      clear hB
      refine wp_region_held_drew (S := fun w' => w'.cell? ⟨w.heap.size, 0, none⟩ = some (.int .i64 x)) (by kernel_rfl) (by rw [hWD]; exact HS0.out) (fun hHeld => ?_)
      rw [hWD] at hHeld ⊢
      clear hWD
      refine wpAnyH_take (i := 0) (v := ?_) rfl (by kernel_rfl) (by kernel_rfl) (by kernel_rfl) (fun _ _ _ h => h) (Or.inl ⟨by rfl, ?_⟩) (by assumption) ?_
      rotate_left
      · (intro w hSw; (try dsimp only at hSw); go_simp; try with_reducible rfl)
      simp only [Act.put, List.getElem_toArray, List.getElem_cons_zero, List.setIfInBounds_toArray, List.set_cons_zero, List.set_cons_succ]
      refine wpAnyH_take (i := 1) (v := ?_) rfl (by kernel_rfl) (by kernel_rfl) (by kernel_rfl) (fun _ _ _ h => h) (Or.inl ⟨by rfl, ?_⟩) (by assumption) ?_
      rotate_left
      · (intro w hSw; (try dsimp only at hSw); go_simp; try with_reducible rfl)
      simp only [Act.put, List.getElem_toArray, List.getElem_cons_succ, List.getElem_cons_zero, List.setIfInBounds_toArray, List.set_cons_zero, List.set_cons_succ]
      refine wpAnyH_take (i := 2) (v := ?_) rfl (by kernel_rfl) (by kernel_rfl) (by kernel_rfl) (fun _ _ _ h => h) (Or.inl ⟨by rfl, ?_⟩) (by assumption) ?_
      rotate_left
      · (intro w hSw; (try dsimp only at hSw); go_simp; try with_reducible rfl)
      simp only [Act.put, List.getElem_toArray, List.getElem_cons_succ, List.getElem_cons_zero, List.setIfInBounds_toArray, List.set_cons_zero, List.set_cons_succ]
      refine wpAnyH_take (i := 3) (v := ?_) rfl (by kernel_rfl) (by kernel_rfl) (by kernel_rfl) (fun _ _ _ h => h) (Or.inl ⟨by rfl, ?_⟩) (by assumption) ?_
      rotate_left
      · (intro w hSw; (try dsimp only at hSw); go_simp; try with_reducible rfl)
      simp only [Act.put, List.getElem_toArray, List.getElem_cons_succ, List.getElem_cons_zero, List.setIfInBounds_toArray, List.set_cons_zero, List.set_cons_succ]
      refine wpAnyH_take (i := 4) (v := ?_) rfl (by kernel_rfl) (by kernel_rfl) (by kernel_rfl) (fun _ _ _ h => h) (Or.inl ⟨by rfl, ?_⟩) (by assumption) ?_
      rotate_left
      · (intro w hSw; (try dsimp only at hSw); go_simp; try with_reducible rfl)
      simp only [Act.put, List.getElem_toArray, List.getElem_cons_succ, List.getElem_cons_zero, List.setIfInBounds_toArray, List.set_cons_zero, List.set_cons_succ]
      refine wpAnyH_take (i := 5) (v := ?_) rfl (by kernel_rfl) (by kernel_rfl) (by kernel_rfl) (fun _ _ _ h => h) (Or.inl ⟨by rfl, ?_⟩) (by assumption) ?_
      rotate_left
      · (intro w hSw; (try dsimp only at hSw); go_simp; try with_reducible rfl)
      simp only [Act.put, List.getElem_toArray, List.getElem_cons_succ, List.getElem_cons_zero, List.setIfInBounds_toArray, List.set_cons_zero, List.set_cons_succ]
      refine wpAnyH_take (i := 6) (v := ?_) rfl (by kernel_rfl) (by kernel_rfl) (by kernel_rfl) (fun _ _ _ h => h) (Or.inl ⟨by rfl, ?_⟩) (by assumption) ?_
      rotate_left
      · (intro w hSw; (try dsimp only at hSw); go_simp; try with_reducible rfl)
      simp only [Act.put, List.getElem_toArray, List.getElem_cons_succ, List.getElem_cons_zero, List.setIfInBounds_toArray, List.set_cons_zero, List.set_cons_succ]
      refine wpAnyH_ready (rs := [7]) (by kernel_rfl) (by simp) ?_
      refine AllReadyH.cons (o := _) rfl (fun K hK => ?_) ?_
      · clear hHeld
        refine step_copy_splice rfl (.tmp 41) (.tmp 44) 48 48 rfl 2 Tryd.underlying48 HSZ.out (some ⟨w.heap.size, n, none⟩) (some ⟨w.heap.size, 0, none⟩) e e n c rfl rfl w.heap.size n (repI x c n) 2 HG.out cs2 HQE.out (fun _ => ⟨rfl, _, rfl, fun j u hj => add_cell (HCQ.out j u hj)⟩) HCF.out HC1.out w.heap.size w HB.out (Nat.le_refl _) ?_
        intro w4 HG4 hB4
        rw [HSP.out] at HG4
        rw [HCE.out]
        have HB4 := Lib.hid hB4
        have HS4 := Lib.hid (show w4.cell? ⟨w.heap.size, 0, none⟩ = some (.int .i64 x) from row_cell HG4.out (repI_get x c (n + q) (by omega)))
        clear hB4
        refine hK.out _ _ ?_ (fun hHeld => ?_)
        · exact HS4.out
        clear hK K
        refine wpAnyH_take (i := 8) (v := ?_) rfl (by kernel_rfl) (by kernel_rfl) (by kernel_rfl) (fun _ _ _ h => h) (Or.inl ⟨by rfl, ?_⟩) (by assumption) ?_
        rotate_left
        · (intro w hSw; (try dsimp only at hSw); go_simp; try with_reducible rfl)
        simp only [Act.put, List.getElem_toArray, List.getElem_cons_succ, List.getElem_cons_zero, List.setIfInBounds_toArray, List.set_cons_zero, List.set_cons_succ]
        refine wpAnyH_take (i := 9) (v := ?_) rfl (by kernel_rfl) (by kernel_rfl) (by kernel_rfl) (fun _ _ _ h => h) (Or.inl ⟨by rfl, ?_⟩) (by assumption) ?_
        rotate_left
        · (intro w hSw; (try dsimp only at hSw); go_simp; try with_reducible rfl)
        simp only [Act.put, List.getElem_toArray, List.getElem_cons_succ, List.getElem_cons_zero, List.setIfInBounds_toArray, List.set_cons_zero, List.set_cons_succ]
        refine wpAnyH_done (by kernel_rfl) ?_ _
        clear hHeld
        have hw : IntKind.i64.wrap ((n : Int) + (q : Int)) = ((n + q : Nat) : Int) := by rw [IntWalk.i64_in _ (by omega)]; omega
        go_wp2
        go_roundw
        case rel => exact ⟨n + q, hqc, fun _ => by omega, congrArg (Value.int .i64) (by rw [IntWalk.i64_in _ (by omega)]; omega), HG4, HB4.out⟩
        case measure => simp [intOf]; omega
      exact AllReadyH.nil
      --END
    · have hnc : n = c := by omega
      have HL := Lib.hid (show Slc wr (fun b => w.heap.size ≤ b) (.slice (some ⟨w.heap.size, 0, none⟩) c c) c (List.replicate c (.int .i64 x)) by
        rw [hnc, repI_full] at HG
        refine ⟨⟨by simp, _, _, rfl, fun i hi => ⟨_, _, rfl, Nat.le_refl _, ?_⟩⟩, _, _, rfl, Nat.le_refl _, by have := HC.out; unfold maxLen; omega⟩
        rw [Nat.zero_add]
        exact row_cell HG.out (List.getElem?_eq_getElem hi))
      clear hnc
      go_wp2
      go_ret
      exact ⟨_, rfl, HL.out, HB.out⟩
end Go.Proofs.YtpcighgflolojaaDoor

/- Layer 15, walked: integers, fit, Copies. -/
namespace Go.Proofs.YtpcighgflolojaaDoor
set_option maxRecDepth 100000
open Go.RowKit Fl
set_option linter.unusedVariables false

set_option maxHeartbeats 4000000 in
theorem pintegers_calls {ok : Nat → Prop} (u : Value) (V : VV) (w : World) (h : IsV w ok u V) (hok : V.ok) (hE : V.kind = 4 → V.len ≠ 0) (hT : TabAt w) :
    Calls Tryd.prog 21 #[.agg #[u]] w fun e w' => ∃ v, e = .returned (.tuple #[v, .bool V.isWh]) ∧ Slc w' (fun b => w.heap.size ≤ b) v V.whs.length (ints V.whs) ∧ Below w.heap.size w w' := by
  obtain ⟨q, hq⟩ : ∃ q, V.isWh = q := ⟨_, rfl⟩
  rw [hq]
  have HQ := Lib.hid hq
  clear hq
  have hsu := h.store
  have HOK := Lib.hid hok
  have HE := Lib.hid hE
  obtain ⟨W1, hW1⟩ : ∃ W1, W1 = w.alloc (.cells #[u] 27) := ⟨_, rfl⟩
  have HB := Lib.hid (show Below w.heap.size w W1 by rw [hW1]; exact below_new _ _)
  have HA := Lib.hid (show At1 W1 w.heap.size u by rw [hW1]; exact At1.new w _ _)
  have HU := Lib.hid (show IsV W1 ok u V from h.grow HB.out)
  have HT := Lib.hid (show TabAt W1 from fun j hj => keep_below HB.out _ _ (hT j hj))
  have hfold := hW1.symm
  clear h hok hE hT hW1
  have cHA0 := HA.out.2.1
  go_enter Tryd.func21, Tryd.ntmps21
  go_wp2_with fail
  clear hfold
  have HBW := Lib.hid HB.out.size
  refine (vwholes_calls _ V _ HU.out HOK.out HT.out).mono ?_
  rintro e W11 ⟨v, rfl, hv, hB⟩
  clear cHA0
  replace HB := Lib.hid (HB.out.trans (hB.mono HB.out.size))
  replace HT := Lib.hid (fun j hj => keep_below hB _ _ (HT.out j hj))
  replace HU := Lib.hid (HU.out.grow hB)
  replace HA := Lib.hid (HA.out.below hB)
  have HV := Lib.hid (hv.keep (ok' := fun b => w.heap.size ≤ b) (Kept.refl _ _) (fun b _ hb => Nat.le_trans (HBW.out) hb))
  clear hv
  clear hB
  obtain ⟨ao, cap, rfl, _⟩ := HV.out.opened
  rw [HQ.out]
  cases q
  · have cHA0 := HA.out.2.1
    go_wp2_with fail
    refine (kind_calls _ V _ HU.out).mono ?_
    rintro e W12 ⟨rfl, hB⟩
    clear cHA0
    replace HB := Lib.hid (HB.out.trans (hB.mono HB.out.size))
    replace HT := Lib.hid (fun j hj => keep_below hB _ _ (HT.out j hj))
    replace HU := Lib.hid (HU.out.grow hB)
    replace HA := Lib.hid (HA.out.below hB)
    replace HV := Lib.hid (HV.out.below hB)
    clear hB
    obtain ⟨kd, hkd⟩ : ∃ kd, V.kind = kd := ⟨_, rfl⟩
    rw [hkd]
    have HKD := Lib.hid hkd
    clear hkd
    by_cases h4 : kd = 4
    · have hc4 : (kd == 4) = true := by simpa using h4
      have HNL := Lib.hid (HE.out (HKD.out.trans h4))
      clear h4
      have cHA0 := HA.out.2.1
      go_wp2_with fail
      refine (vlen_calls _ V _ HU.out).mono ?_
      rintro e W13 ⟨rfl, hB⟩
      clear cHA0
      replace HB := Lib.hid (HB.out.trans (hB.mono HB.out.size))
      replace HT := Lib.hid (fun j hj => keep_below hB _ _ (HT.out j hj))
      replace HU := Lib.hid (HU.out.grow hB)
      replace HA := Lib.hid (HA.out.below hB)
      replace HV := Lib.hid (HV.out.below hB)
      clear hB
      obtain ⟨n, hn⟩ : ∃ n, V.len = n := ⟨_, rfl⟩
      rw [hn]
      have hn0 : ((n : Int) == 0) = false := by have := HNL.out; simp; omega
      clear hn
      have cHA0 := HA.out.2.1
      go_wp2_with fail
      go_ret2
      exact ⟨.slice ao V.whs.length cap, rfl, HV.out, HB.out⟩
    have hc4 : (kd == 4) = false := by simpa using h4
    clear h4
    have cHA0 := HA.out.2.1
    go_wp2_with fail
    go_ret2
    exact ⟨.slice ao V.whs.length cap, rfl, HV.out, HB.out⟩
  · have cHA0 := HA.out.2.1
    go_wp2_with fail
    go_ret2
    exact ⟨.slice ao V.whs.length cap, rfl, HV.out, HB.out⟩

theorem mem_at {l : List Int} {k : Nat} {x : Int} (h : l[k]? = some x) : x ∈ l := by
  obtain ⟨h1, h2⟩ := List.getElem?_eq_some_iff.1 h
  rw [← h2]; exact List.getElem_mem h1
theorem getD_at {l : List Int} {k : Nat} {x : Int} (h : l[k]? = some x) : l.getD k 0 = x := by rw [List.getD_eq_getElem?_getD, h]; rfl
set_option maxHeartbeats 4000000 in
theorem pfit_calls {ok : Nat → Prop} (v : Value) (l : List Int) (n most : Nat) (w : World) (hv : Slc w ok v n (ints l)) (hn : l.length = n) (hl : n ≤ 1048576) (hmo : most ≤ 1048576) (hb : ∀ z ∈ l, z.natAbs ≤ 9007199254740992) :
    Calls Tryd.prog 23 #[v, .int .i64 (most : Int)] w fun e w' => e = .returned (.bool (decide ((cpTo l n).length ≤ most))) ∧ w = w' := by
  subst hn
  obtain ⟨r, hr⟩ : ∃ r, decide ((cpTo l l.length).length ≤ most) = r := ⟨_, rfl⟩
  rw [hr]
  have HR := Lib.hid hr
  have HV := Lib.hid hv
  have HBD := Lib.hid hb
  obtain ⟨ao, cap, rfl, _⟩ := hv.opened
  have h9 : ¬ (1048576 : Int) < (most : Int) := by omega
  clear hv hr hb
  go_enter Tryd.func23, Tryd.ntmps23
  go_wp2
  go_loopw [5, 12] (fun m i wr => ∃ (k g : Nat), k ≤ l.length ∧ i = .int .i64 k ∧ m = .int .i64 g ∧ g + (cpTo l k).length = most ∧ wr = w) (fun _ i _ => l.length - (intOf i).toNat)
  case atStart => exact ⟨0, most, by omega, rfl, rfl, by rw [cpTo_zero]; rfl, rfl⟩
  case round =>
    obtain ⟨k, g, hk, rfl, rfl, hg, rfl⟩ := hrel
    have HG := Lib.hid hg
    have hg0 : g ≤ 1048576 := by omega
    clear hg
    by_cases hlt : k < l.length
    · obtain ⟨b, off, cap1, x, e, hx, c0⟩ := Slc.at_map (Value.int .i64) HV.out k hlt
      cases e
      have HX := Lib.hid (getD_at hx)
      have hxb := HBD.out _ (mem_at hx)
      have HS := Lib.hid (show (cpTo l (k + 1)).length = (cpTo l k).length + x.natAbs by rw [cpTo_succ, List.length_append, cpR_len, HX.out])
      clear hx
      go_wp2_with fail
      refine (psize_calls x _ (by omega) (by omega)).mono ?_
      rintro e w1 ⟨rfl, rfl⟩
      obtain ⟨y, hy⟩ : ∃ y : Nat, x.natAbs = y := ⟨_, rfl⟩
      rw [hy]
      have HY := Lib.hid hy
      by_cases hgt : (g : Int) < (y : Int)
      · have HF := Lib.hid (show r = false by rw [← HR.out]; exact decide_eq_false (by have := cpTo_mono l (k := k + 1) (n := l.length) hlt; have := HS.out; have := HG.out; have := HY.out; omega))
        go_wp2
        go_ret
        exact ⟨ret_b HF.out.symm, rfl⟩
      · obtain ⟨d, hd⟩ : ∃ d : Nat, (g : Int) - (y : Int) = (d : Int) := ⟨g - y, by omega⟩
        have HD := Lib.hid hd
        have hd2 : d ≤ 1048576 := by omega
        go_wp2_with fail
        refine (psize_calls x _ (by omega) (by omega)).mono ?_
        rintro e w1 ⟨rfl, rfl⟩
        rw [HY.out]
        go_wp2
        go_roundw
        case rel => exact ⟨k + 1, d, by omega, by go_num, by first | rfl | go_num, by have h1 := HS.out; have h2 := HG.out; have h3 := HY.out; have h4 := HD.out; omega, by trivial⟩
        case measure => simp [intOf]; omega
    · have hkl : k = l.length := by omega
      have HF := Lib.hid (show r = true by rw [← HR.out]; exact decide_eq_true (by have := HG.out; rw [hkl] at this; omega))
      clear hkl
      go_wp2
      go_ret
      exact ⟨ret_b HF.out.symm, rfl⟩

set_option maxHeartbeats 8000000 in
theorem pcopies_calls {ok : Nat → Prop} (u : Value) (V : VV) (n most : Nat) (w : World) (h : IsV w ok u V) (hok : V.ok) (hE : V.kind = 4 → V.len ≠ 0) (hn : n ≤ 1048576) (hmo : most ≤ 1048576) (hbd : ∀ z ∈ V.whs, z.natAbs ≤ 9007199254740992) (hT : TabAt w) :
    Calls Tryd.prog 8 #[.agg #[u], .int .i64 (n : Int), .int .i64 (most : Int)] w fun e w' => ∃ v, e = .returned (.tuple #[v, .int .i64 (cpE V n most)]) ∧ Slc w' (fun _ => True) v (cpL V n most).length (ints (cpL V n most)) ∧ Below w.heap.size w w' := by
  obtain ⟨E, hEE⟩ : ∃ E, cpE V n most = E := ⟨_, rfl⟩
  obtain ⟨L, hLL⟩ : ∃ L, cpL V n most = L := ⟨_, rfl⟩
  rw [hEE, hLL]
  have HEE := Lib.hid hEE
  have HLL := Lib.hid hLL
  have hsu := h.store
  have HOK := Lib.hid hok
  have HE := Lib.hid hE
  have HN := Lib.hid hn
  have HMO := Lib.hid hmo
  have HBD := Lib.hid hbd
  obtain ⟨W1, hW1⟩ : ∃ W1, W1 = w.alloc (.cells #[u] 27) := ⟨_, rfl⟩
  have HB := Lib.hid (show Below w.heap.size w W1 by rw [hW1]; exact below_new _ _)
  have HA := Lib.hid (show At1 W1 w.heap.size u by rw [hW1]; exact At1.new w _ _)
  have HU := Lib.hid (show IsV W1 ok u V from h.grow HB.out)
  have HT := Lib.hid (show TabAt W1 from fun j hj => keep_below HB.out _ _ (hT j hj))
  obtain ⟨i0, hi, hz0, hz1, hz2⟩ := info_parts info_int3
  have HI0 := Lib.hid (And.intro hi (And.intro hz0 (And.intro hz1 hz2)))
  have hfold := hW1.symm
  clear h hok hE hn hmo hbd hT hW1 hEE hLL hi hz0 hz1 hz2
  have cHA0 := HA.out.2.1
  go_enter Tryd.func8, Tryd.ntmps8
  go_wp2_with fail
  clear hfold
  refine (pintegers_calls _ V _ HU.out HOK.out HE.out HT.out).mono ?_
  rintro e W11 ⟨v, rfl, hv, hB⟩
  clear cHA0
  replace HB := Lib.hid (HB.out.trans (hB.mono HB.out.size))
  replace HT := Lib.hid (fun j hj => keep_below hB _ _ (HT.out j hj))
  replace HU := Lib.hid (HU.out.grow hB)
  replace HA := Lib.hid (HA.out.below hB)
  have HV := Lib.hid hv.any
  clear hv
  clear hB
  obtain ⟨l, hl⟩ : ∃ l, V.whs = l := ⟨_, rfl⟩
  rw [hl] at HV HBD
  have HWL := Lib.hid hl
  obtain ⟨ao, cap, rfl, _⟩ := HV.out.opened
  obtain ⟨q, hq⟩ : ∃ q, V.isWh = q := ⟨_, rfl⟩
  rw [hq]
  have HQ := Lib.hid hq
  clear hl
  cases q
  · clear hq
    have hE2 : E = 24 := by rw [← HEE.out]; unfold cpE; rw [HQ.out]; rfl
    have HL2 := Lib.hid (show L = [] by rw [← HLL.out]; unfold cpL; rw [HQ.out]; rfl)
    subst hE2
    have cHA0 := HA.out.2.1
    go_wp2_with fail
    go_ret2
    refine ⟨_, rfl, ?_, HB.out⟩
    rw [HL2.out]
    exact Slc.nil _ _
  · clear hq
    by_cases hln : l.length = n
    · have HLE := Lib.hid (show l.length = n ∨ l.length = 1 from Or.inl hln)
      have HLN := Lib.hid hln
      have HSB0 := Lib.hid (show ∀ z ∈ cpS l n, z.natAbs ≤ 9007199254740992 by rw [cpS_same hln]; exact HBD.out)
      rw [← cpS_same hln] at HV
      rw [hln]
      rw [cpS_len] at HV
      clear hln
      have cHA0 := HA.out.2.1
      go_wp2_with fail
      obtain ⟨S, hS⟩ : ∃ S, cpS l n = S := ⟨_, rfl⟩
      have HS := Lib.hid hS
      rw [hS] at HV
      have HSN := Lib.hid (show S.length = n by rw [← hS]; exact cpS_len _ _)
      have HSB := Lib.hid (show ∀ z ∈ S, z.natAbs ≤ 9007199254740992 from hS ▸ HSB0.out)
      clear hS HSB0
      refine (pfit_calls _ S n most _ HV.out HSN.out HN.out HMO.out HSB.out).mono ?_
      rintro e w1 ⟨rfl, rfl⟩
      by_cases hfit : (cpTo S n).length ≤ most
      rotate_left
      · rw [decide_eq_false hfit]
        have hE2 : E = 26 := by rw [← HEE.out]; unfold cpE; rw [HQ.out, if_pos rfl, HWL.out]; exact (cpEw_26 HLE.out (by rw [HS.out]; omega)).1
        have HL2 := Lib.hid (show L = [] by rw [← HLL.out]; unfold cpL; rw [HQ.out, if_pos rfl, HWL.out]; exact (cpEw_26 HLE.out (by rw [HS.out]; omega)).2)
        subst hE2
        have cHA0 := HA.out.2.1
        go_wp2_with fail
        go_ret2
        refine ⟨_, rfl, ?_, HB.out⟩
        rw [HL2.out]
        exact Slc.nil _ _
      rw [decide_eq_true hfit]
      have hE2 : E = 0 := by rw [← HEE.out]; unfold cpE; rw [HQ.out, if_pos rfl, HWL.out]; exact (cpEw_0 HLE.out (by rw [HS.out]; exact hfit)).1
      have HL2 := Lib.hid (show L = cpTo S n by rw [← HLL.out]; unfold cpL; rw [HQ.out, if_pos rfl, HWL.out, (cpEw_0 HLE.out (by rw [HS.out]; exact hfit)).2, HS.out])
      subst hE2
      have HFIT := Lib.hid hfit
      clear hfit
      clear cHA0
      go_wp2_with fail
      go_loopw [10, 47] (fun v i wr => ∃ k : Nat, k ≤ n ∧ i = .int .i64 k ∧ wr.ownsRow W11.heap.size 3 1 v (cpTo S k).length (ints (cpTo S k)) ∧ Below W11.heap.size W11 wr) (fun _ i _ => n - (intOf i).toNat)
      case atStart => exact ⟨0, by omega, rfl, World.ownsRow_nil _ _ _ _, Below.refl _ _⟩
      case round =>
        obtain ⟨k, hk, rfl, hown, hBw⟩ := hrel
        have hn9 := HN.out
        obtain ⟨vo, vc, rfl⟩ := owns_form hown
        have HO := Lib.hid hown
        have HBw := Lib.hid hBw
        clear hown hBw
        by_cases hlt : k < n
        · obtain ⟨b, off, cap1, c, e, hx, c0⟩ := Slc.at_map (Value.int .i64) (l := S) (by rw [HSN.out]; exact HV.out.below HBw.out) k (by rw [HSN.out]; exact hlt)
          rw [HSN.out] at e
          cases e
          have HX := Lib.hid (getD_at hx)
          have hxb := HSB.out _ (mem_at hx)
          obtain ⟨C, hC⟩ : ∃ C, cpTo S k = C := ⟨_, rfl⟩
          obtain ⟨B, hB9⟩ : ∃ B, C.length = B := ⟨_, rfl⟩
          obtain ⟨q, hq⟩ : ∃ q : Nat, c.natAbs = q := ⟨_, rfl⟩
          have HSU := Lib.hid (show cpTo S (k + 1) = C ++ cpR c k by rw [cpTo_succ, HX.out, hC])
          have hTot : B + q ≤ 1048576 := by have h1 := cpTo_mono S (k := k + 1) (n := n) hlt; rw [HSU.out, List.length_append, cpR_len, hB9, hq] at h1; have := HFIT.out; have := HMO.out; omega
          rw [hC, hB9] at HO
          have HCL := Lib.hid hB9
          clear hx
          by_cases hneg : c < 0
          · have HP := Lib.hid (show cpTo S (k + 1) = C ++ List.replicate q (-1) by rw [HSU.out]; unfold cpR; rw [hq, if_pos hneg])
            rw [hC, hB9]
            clear hC hB9
            go_wp2_with fail
            refine (psize_calls c _ (by omega) (by omega)).mono ?_
            rintro e w1 ⟨rfl, rfl⟩
            rw [hq]
            go_wp2_with fail
            go_loopw [10, 57] (fun v j wq => ∃ i : Nat, i ≤ q ∧ j = .int .i64 i ∧ wq.ownsRow W11.heap.size 3 1 v (B + i) (ints (C ++ List.replicate i (-1))) ∧ Below W11.heap.size W11 wq) (fun _ j _ => q - (intOf j).toNat)
            case atStart => exact ⟨0, by omega, rfl, by simpa using HO.out, HBw.out⟩
            case round =>
              obtain ⟨i, hi, rfl, hown, hBq⟩ := hrel
              obtain ⟨vo, vc, rfl⟩ := owns_form hown
              have HOq := Lib.hid hown
              have HBq := Lib.hid hBq
              have hsz := hBq.size
              clear hown hBq
              by_cases hit : i < q
              · obtain ⟨W4, hW4⟩ : ∃ W4, W4 = wr.alloc (.cells #[.int .i64 (-1)] 3) := ⟨_, rfl⟩
                have HB4 := Lib.hid (show Below W11.heap.size W11 W4 by rw [hW4]; exact HBq.out.alloc hsz _)
                have HO4 := Lib.hid (show W4.ownsRow W11.heap.size 3 1 (.slice vo (B + i) vc) (B + i) (ints (C ++ List.replicate i (-1))) by rw [hW4]; exact HOq.out.alloc _)
                have HN4 := Lib.hid (show ∀ j u, ([.int .i64 (-1)] : List Value)[j]? = some u → W4.cell? ((⟨wr.heap.size, 0, none⟩ : Addr).add j) = some u by rw [hW4]; exact cell_one_newp _ _ _)
                have HSZ4 := Lib.hid HB4.out.size
                have HM1 := Lib.hid (show B + i + 1 ≤ maxLen by unfold maxLen; omega)
                have HM2 := Lib.hid (show (B + i + 1) * 8 ≤ 140737488355328 by omega)
                have hfold4 := hW4.symm
                clear hW4
                go_wp2_with (at_builtin; refine wpList_append_own _ rfl _ _ 30 rfl W11.heap.size 3 i0 (.int .i64 0) 1 8 Tryd.underlying30 HI0.out.1 HI0.out.2.1 HI0.out.2.2.1 HI0.out.2.2.2 rfl (by decide) _ _ _ rfl HO4.out ⟨wr.heap.size, 0, none⟩ 1 1 [.int .i64 (-1)] rfl rfl HN4.out (one_intp _) HM1.out HM2.out HSZ4.out ?_)
                intro v' w1 hown' hgrow _
                have HO1 := Lib.hid hown'
                have HB1 := Lib.hid (grown_below HB4.out HO4.out (Nat.le_refl _) HSZ4.out hgrow)
                clear hown' hgrow hfold4
                go_wp2
                go_roundw
                case rel =>
                  refine ⟨i + 1, by omega, by go_num, ?_, HB1.out⟩
                  have := HO1.out
                  rw [show ints (C ++ List.replicate (i + 1) (-1)) = ints (C ++ List.replicate i (-1)) ++ [.int .i64 (-1)] by simp [ints, List.replicate_succ']]
                  exact this
                case measure => simp [intOf]; omega
              · have hiq : i = q := by omega
                have HIQ := Lib.hid hiq
                clear hiq
                go_wp2
                go_roundw
                case rel =>
                  refine ⟨k + 1, by omega, by go_num, ?_, HBq.out⟩
                  rw [HP.out, List.length_append, List.length_replicate, HCL.out, ← HIQ.out]
                  exact HOq.out
                case measure => simp [intOf]; omega
          · have HP := Lib.hid (show cpTo S (k + 1) = C ++ List.replicate q ((k : Int)) by rw [HSU.out]; unfold cpR; rw [hq, if_neg hneg])
            rw [hC, hB9]
            clear hC hB9
            go_wp2_with fail
            refine (psize_calls c _ (by omega) (by omega)).mono ?_
            rintro e w1 ⟨rfl, rfl⟩
            rw [hq]
            go_wp2_with fail
            go_loopw [10, 57] (fun v j wq => ∃ i : Nat, i ≤ q ∧ j = .int .i64 i ∧ wq.ownsRow W11.heap.size 3 1 v (B + i) (ints (C ++ List.replicate i ((k : Int)))) ∧ Below W11.heap.size W11 wq) (fun _ j _ => q - (intOf j).toNat)
            case atStart => exact ⟨0, by omega, rfl, by simpa using HO.out, HBw.out⟩
            case round =>
              obtain ⟨i, hi, rfl, hown, hBq⟩ := hrel
              obtain ⟨vo, vc, rfl⟩ := owns_form hown
              have HOq := Lib.hid hown
              have HBq := Lib.hid hBq
              have hsz := hBq.size
              clear hown hBq
              by_cases hit : i < q
              · obtain ⟨W4, hW4⟩ : ∃ W4, W4 = wr.alloc (.cells #[.int .i64 ((k : Int))] 3) := ⟨_, rfl⟩
                have HB4 := Lib.hid (show Below W11.heap.size W11 W4 by rw [hW4]; exact HBq.out.alloc hsz _)
                have HO4 := Lib.hid (show W4.ownsRow W11.heap.size 3 1 (.slice vo (B + i) vc) (B + i) (ints (C ++ List.replicate i ((k : Int)))) by rw [hW4]; exact HOq.out.alloc _)
                have HN4 := Lib.hid (show ∀ j u, ([.int .i64 ((k : Int))] : List Value)[j]? = some u → W4.cell? ((⟨wr.heap.size, 0, none⟩ : Addr).add j) = some u by rw [hW4]; exact cell_one_newp _ _ _)
                have HSZ4 := Lib.hid HB4.out.size
                have HM1 := Lib.hid (show B + i + 1 ≤ maxLen by unfold maxLen; omega)
                have HM2 := Lib.hid (show (B + i + 1) * 8 ≤ 140737488355328 by omega)
                have hfold4 := hW4.symm
                clear hW4
                go_wp2_with (at_builtin; refine wpList_append_own _ rfl _ _ 30 rfl W11.heap.size 3 i0 (.int .i64 0) 1 8 Tryd.underlying30 HI0.out.1 HI0.out.2.1 HI0.out.2.2.1 HI0.out.2.2.2 rfl (by decide) _ _ _ rfl HO4.out ⟨wr.heap.size, 0, none⟩ 1 1 [.int .i64 ((k : Int))] rfl rfl HN4.out (one_intp _) HM1.out HM2.out HSZ4.out ?_)
                intro v' w1 hown' hgrow _
                have HO1 := Lib.hid hown'
                have HB1 := Lib.hid (grown_below HB4.out HO4.out (Nat.le_refl _) HSZ4.out hgrow)
                clear hown' hgrow hfold4
                go_wp2
                go_roundw
                case rel =>
                  refine ⟨i + 1, by omega, by go_num, ?_, HB1.out⟩
                  have := HO1.out
                  rw [show ints (C ++ List.replicate (i + 1) ((k : Int))) = ints (C ++ List.replicate i ((k : Int))) ++ [.int .i64 ((k : Int))] by simp [ints, List.replicate_succ']]
                  exact this
                case measure => simp [intOf]; omega
              · have hiq : i = q := by omega
                have HIQ := Lib.hid hiq
                clear hiq
                go_wp2
                go_roundw
                case rel =>
                  refine ⟨k + 1, by omega, by go_num, ?_, HBq.out⟩
                  rw [HP.out, List.length_append, List.length_replicate, HCL.out, ← HIQ.out]
                  exact HOq.out
                case measure => simp [intOf]; omega
        · have hkl : k = n := by omega
          have HK := Lib.hid hkl
          clear hkl
          go_wp2
          go_ret2
          refine ⟨.slice vo (cpTo S k).length vc, rfl, ?_, HB.out.trans (HBw.out.mono HB.out.size)⟩
          rw [HL2.out]
          have := (Slc.owned HO.out).any
          rw [HK.out] at this ⊢
          exact this
    by_cases hl1 : l.length = 1
    · have HLE := Lib.hid (show l.length = n ∨ l.length = 1 from Or.inr hl1)
      obtain ⟨x, hx⟩ : ∃ x, l = [x] := List.length_eq_one_iff.1 hl1
      have HLX := Lib.hid hx
      have HR1 := Lib.hid (show cpS l n = List.replicate n x by rw [cpS_one hln, hx]; rfl)
      have HSB0 := Lib.hid (show ∀ z ∈ cpS l n, z.natAbs ≤ 9007199254740992 by rw [HR1.out]; intro z hz; rw [(List.mem_replicate.1 hz).2]; exact HBD.out x (by rw [hx]; exact List.mem_singleton.2 rfl))
      have hln1 : ((1 : Int) == (n : Int)) = false := by rw [hl1] at hln; simp; omega
      have hn0 : (0 : Int) ≤ (n : Int) := by omega
      have hn9 : (n : Int) ≤ 1048576 := by have := HN.out; omega
      rw [hl1]
      rw [hx] at HV
      clear hx hln hl1
      have cHA0 := HA.out.2.1
      go_wp2_with fail
      refine (srepeatI_calls _ x n _ HV.out HN.out).mono ?_
      rintro e W12 ⟨v2, rfl, hv2, hB⟩
      clear cHA0
      replace HB := Lib.hid (HB.out.trans (hB.mono HB.out.size))
      replace HT := Lib.hid (fun j hj => keep_below hB _ _ (HT.out j hj))
      replace HU := Lib.hid (HU.out.grow hB)
      replace HA := Lib.hid (HA.out.below hB)
      replace HV := Lib.hid (HV.out.below hB)
      have HV2 := Lib.hid hv2.any
      clear hv2
      clear hB
      clear HV
      obtain ⟨ao2, cap2, rfl, _⟩ := HV2.out.opened
      have HV := Lib.hid (show Slc W12 (fun _ => True) (.slice ao2 n cap2) n (ints (cpS l n)) by rw [HR1.out]; have := HV2.out; simpa [ints] using this)
      clear HV2
      have cHA0 := HA.out.2.1
      go_wp2_with fail
      obtain ⟨S, hS⟩ : ∃ S, cpS l n = S := ⟨_, rfl⟩
      have HS := Lib.hid hS
      rw [hS] at HV
      have HSN := Lib.hid (show S.length = n by rw [← hS]; exact cpS_len _ _)
      have HSB := Lib.hid (show ∀ z ∈ S, z.natAbs ≤ 9007199254740992 from hS ▸ HSB0.out)
      clear hS HSB0
      refine (pfit_calls _ S n most _ HV.out HSN.out HN.out HMO.out HSB.out).mono ?_
      rintro e w1 ⟨rfl, rfl⟩
      by_cases hfit : (cpTo S n).length ≤ most
      rotate_left
      · rw [decide_eq_false hfit]
        have hE2 : E = 26 := by rw [← HEE.out]; unfold cpE; rw [HQ.out, if_pos rfl, HWL.out]; exact (cpEw_26 HLE.out (by rw [HS.out]; omega)).1
        have HL2 := Lib.hid (show L = [] by rw [← HLL.out]; unfold cpL; rw [HQ.out, if_pos rfl, HWL.out]; exact (cpEw_26 HLE.out (by rw [HS.out]; omega)).2)
        subst hE2
        have cHA0 := HA.out.2.1
        go_wp2_with fail
        go_ret2
        refine ⟨_, rfl, ?_, HB.out⟩
        rw [HL2.out]
        exact Slc.nil _ _
      rw [decide_eq_true hfit]
      have hE2 : E = 0 := by rw [← HEE.out]; unfold cpE; rw [HQ.out, if_pos rfl, HWL.out]; exact (cpEw_0 HLE.out (by rw [HS.out]; exact hfit)).1
      have HL2 := Lib.hid (show L = cpTo S n by rw [← HLL.out]; unfold cpL; rw [HQ.out, if_pos rfl, HWL.out, (cpEw_0 HLE.out (by rw [HS.out]; exact hfit)).2, HS.out])
      subst hE2
      have HFIT := Lib.hid hfit
      clear hfit
      clear cHA0
      go_wp2_with fail
      go_loopw [10, 47] (fun v i wr => ∃ k : Nat, k ≤ n ∧ i = .int .i64 k ∧ wr.ownsRow W12.heap.size 3 1 v (cpTo S k).length (ints (cpTo S k)) ∧ Below W12.heap.size W12 wr) (fun _ i _ => n - (intOf i).toNat)
      case atStart => exact ⟨0, by omega, rfl, World.ownsRow_nil _ _ _ _, Below.refl _ _⟩
      case round =>
        obtain ⟨k, hk, rfl, hown, hBw⟩ := hrel
        have hn9 := HN.out
        obtain ⟨vo, vc, rfl⟩ := owns_form hown
        have HO := Lib.hid hown
        have HBw := Lib.hid hBw
        clear hown hBw
        by_cases hlt : k < n
        · obtain ⟨b, off, cap1, c, e, hx, c0⟩ := Slc.at_map (Value.int .i64) (l := S) (by rw [HSN.out]; exact HV.out.below HBw.out) k (by rw [HSN.out]; exact hlt)
          rw [HSN.out] at e
          cases e
          have HX := Lib.hid (getD_at hx)
          have hxb := HSB.out _ (mem_at hx)
          obtain ⟨C, hC⟩ : ∃ C, cpTo S k = C := ⟨_, rfl⟩
          obtain ⟨B, hB9⟩ : ∃ B, C.length = B := ⟨_, rfl⟩
          obtain ⟨q, hq⟩ : ∃ q : Nat, c.natAbs = q := ⟨_, rfl⟩
          have HSU := Lib.hid (show cpTo S (k + 1) = C ++ cpR c k by rw [cpTo_succ, HX.out, hC])
          have hTot : B + q ≤ 1048576 := by have h1 := cpTo_mono S (k := k + 1) (n := n) hlt; rw [HSU.out, List.length_append, cpR_len, hB9, hq] at h1; have := HFIT.out; have := HMO.out; omega
          rw [hC, hB9] at HO
          have HCL := Lib.hid hB9
          clear hx
          by_cases hneg : c < 0
          · have HP := Lib.hid (show cpTo S (k + 1) = C ++ List.replicate q (-1) by rw [HSU.out]; unfold cpR; rw [hq, if_pos hneg])
            rw [hC, hB9]
            clear hC hB9
            go_wp2_with fail
            refine (psize_calls c _ (by omega) (by omega)).mono ?_
            rintro e w1 ⟨rfl, rfl⟩
            rw [hq]
            go_wp2_with fail
            go_loopw [10, 57] (fun v j wq => ∃ i : Nat, i ≤ q ∧ j = .int .i64 i ∧ wq.ownsRow W12.heap.size 3 1 v (B + i) (ints (C ++ List.replicate i (-1))) ∧ Below W12.heap.size W12 wq) (fun _ j _ => q - (intOf j).toNat)
            case atStart => exact ⟨0, by omega, rfl, by simpa using HO.out, HBw.out⟩
            case round =>
              obtain ⟨i, hi, rfl, hown, hBq⟩ := hrel
              obtain ⟨vo, vc, rfl⟩ := owns_form hown
              have HOq := Lib.hid hown
              have HBq := Lib.hid hBq
              have hsz := hBq.size
              clear hown hBq
              by_cases hit : i < q
              · obtain ⟨W4, hW4⟩ : ∃ W4, W4 = wr.alloc (.cells #[.int .i64 (-1)] 3) := ⟨_, rfl⟩
                have HB4 := Lib.hid (show Below W12.heap.size W12 W4 by rw [hW4]; exact HBq.out.alloc hsz _)
                have HO4 := Lib.hid (show W4.ownsRow W12.heap.size 3 1 (.slice vo (B + i) vc) (B + i) (ints (C ++ List.replicate i (-1))) by rw [hW4]; exact HOq.out.alloc _)
                have HN4 := Lib.hid (show ∀ j u, ([.int .i64 (-1)] : List Value)[j]? = some u → W4.cell? ((⟨wr.heap.size, 0, none⟩ : Addr).add j) = some u by rw [hW4]; exact cell_one_newp _ _ _)
                have HSZ4 := Lib.hid HB4.out.size
                have HM1 := Lib.hid (show B + i + 1 ≤ maxLen by unfold maxLen; omega)
                have HM2 := Lib.hid (show (B + i + 1) * 8 ≤ 140737488355328 by omega)
                have hfold4 := hW4.symm
                clear hW4
                go_wp2_with (at_builtin; refine wpList_append_own _ rfl _ _ 30 rfl W12.heap.size 3 i0 (.int .i64 0) 1 8 Tryd.underlying30 HI0.out.1 HI0.out.2.1 HI0.out.2.2.1 HI0.out.2.2.2 rfl (by decide) _ _ _ rfl HO4.out ⟨wr.heap.size, 0, none⟩ 1 1 [.int .i64 (-1)] rfl rfl HN4.out (one_intp _) HM1.out HM2.out HSZ4.out ?_)
                intro v' w1 hown' hgrow _
                have HO1 := Lib.hid hown'
                have HB1 := Lib.hid (grown_below HB4.out HO4.out (Nat.le_refl _) HSZ4.out hgrow)
                clear hown' hgrow hfold4
                go_wp2
                go_roundw
                case rel =>
                  refine ⟨i + 1, by omega, by go_num, ?_, HB1.out⟩
                  have := HO1.out
                  rw [show ints (C ++ List.replicate (i + 1) (-1)) = ints (C ++ List.replicate i (-1)) ++ [.int .i64 (-1)] by simp [ints, List.replicate_succ']]
                  exact this
                case measure => simp [intOf]; omega
              · have hiq : i = q := by omega
                have HIQ := Lib.hid hiq
                clear hiq
                go_wp2
                go_roundw
                case rel =>
                  refine ⟨k + 1, by omega, by go_num, ?_, HBq.out⟩
                  rw [HP.out, List.length_append, List.length_replicate, HCL.out, ← HIQ.out]
                  exact HOq.out
                case measure => simp [intOf]; omega
          · have HP := Lib.hid (show cpTo S (k + 1) = C ++ List.replicate q ((k : Int)) by rw [HSU.out]; unfold cpR; rw [hq, if_neg hneg])
            rw [hC, hB9]
            clear hC hB9
            go_wp2_with fail
            refine (psize_calls c _ (by omega) (by omega)).mono ?_
            rintro e w1 ⟨rfl, rfl⟩
            rw [hq]
            go_wp2_with fail
            go_loopw [10, 57] (fun v j wq => ∃ i : Nat, i ≤ q ∧ j = .int .i64 i ∧ wq.ownsRow W12.heap.size 3 1 v (B + i) (ints (C ++ List.replicate i ((k : Int)))) ∧ Below W12.heap.size W12 wq) (fun _ j _ => q - (intOf j).toNat)
            case atStart => exact ⟨0, by omega, rfl, by simpa using HO.out, HBw.out⟩
            case round =>
              obtain ⟨i, hi, rfl, hown, hBq⟩ := hrel
              obtain ⟨vo, vc, rfl⟩ := owns_form hown
              have HOq := Lib.hid hown
              have HBq := Lib.hid hBq
              have hsz := hBq.size
              clear hown hBq
              by_cases hit : i < q
              · obtain ⟨W4, hW4⟩ : ∃ W4, W4 = wr.alloc (.cells #[.int .i64 ((k : Int))] 3) := ⟨_, rfl⟩
                have HB4 := Lib.hid (show Below W12.heap.size W12 W4 by rw [hW4]; exact HBq.out.alloc hsz _)
                have HO4 := Lib.hid (show W4.ownsRow W12.heap.size 3 1 (.slice vo (B + i) vc) (B + i) (ints (C ++ List.replicate i ((k : Int)))) by rw [hW4]; exact HOq.out.alloc _)
                have HN4 := Lib.hid (show ∀ j u, ([.int .i64 ((k : Int))] : List Value)[j]? = some u → W4.cell? ((⟨wr.heap.size, 0, none⟩ : Addr).add j) = some u by rw [hW4]; exact cell_one_newp _ _ _)
                have HSZ4 := Lib.hid HB4.out.size
                have HM1 := Lib.hid (show B + i + 1 ≤ maxLen by unfold maxLen; omega)
                have HM2 := Lib.hid (show (B + i + 1) * 8 ≤ 140737488355328 by omega)
                have hfold4 := hW4.symm
                clear hW4
                go_wp2_with (at_builtin; refine wpList_append_own _ rfl _ _ 30 rfl W12.heap.size 3 i0 (.int .i64 0) 1 8 Tryd.underlying30 HI0.out.1 HI0.out.2.1 HI0.out.2.2.1 HI0.out.2.2.2 rfl (by decide) _ _ _ rfl HO4.out ⟨wr.heap.size, 0, none⟩ 1 1 [.int .i64 ((k : Int))] rfl rfl HN4.out (one_intp _) HM1.out HM2.out HSZ4.out ?_)
                intro v' w1 hown' hgrow _
                have HO1 := Lib.hid hown'
                have HB1 := Lib.hid (grown_below HB4.out HO4.out (Nat.le_refl _) HSZ4.out hgrow)
                clear hown' hgrow hfold4
                go_wp2
                go_roundw
                case rel =>
                  refine ⟨i + 1, by omega, by go_num, ?_, HB1.out⟩
                  have := HO1.out
                  rw [show ints (C ++ List.replicate (i + 1) ((k : Int))) = ints (C ++ List.replicate i ((k : Int))) ++ [.int .i64 ((k : Int))] by simp [ints, List.replicate_succ']]
                  exact this
                case measure => simp [intOf]; omega
              · have hiq : i = q := by omega
                have HIQ := Lib.hid hiq
                clear hiq
                go_wp2
                go_roundw
                case rel =>
                  refine ⟨k + 1, by omega, by go_num, ?_, HBq.out⟩
                  rw [HP.out, List.length_append, List.length_replicate, HCL.out, ← HIQ.out]
                  exact HOq.out
                case measure => simp [intOf]; omega
        · have hkl : k = n := by omega
          have HK := Lib.hid hkl
          clear hkl
          go_wp2
          go_ret2
          refine ⟨.slice vo (cpTo S k).length vc, rfl, ?_, HB.out.trans (HBw.out.mono HB.out.size)⟩
          rw [HL2.out]
          have := (Slc.owned HO.out).any
          rw [HK.out] at this ⊢
          exact this
    have HLE := Lib.hid (show ¬ (l.length = n ∨ l.length = 1) by omega)
    have hE2 : E = 23 := by rw [← HEE.out]; unfold cpE; rw [HQ.out, if_pos rfl, HWL.out]; exact (cpEw_23 HLE.out).1
    have HL2 := Lib.hid (show L = [] by rw [← HLL.out]; unfold cpL; rw [HQ.out, if_pos rfl, HWL.out]; exact (cpEw_23 HLE.out).2)
    have hb1 : ((l.length : Int) == (n : Int)) = false := by simp; omega
    have hb2 : ((l.length : Int) == 1) = false := by simp; omega
    subst hE2
    clear hln hl1
    have cHA0 := HA.out.2.1
    go_wp2_with fail
    go_ret2
    refine ⟨_, rfl, ?_, HB.out⟩
    rw [HL2.out]
    exact Slc.nil _ _
end Go.Proofs.YtpcighgflolojaaDoor

/- Layer 15, plain: the whole numbers of a squeezed vector. -/
namespace Go.Proofs.YtpcighgflolojaaDoor
set_option maxRecDepth 100000
open Go.RowKit Fl
set_option linter.unusedVariables false

theorem wn_flag (b : Bool) : Wh (flagW b) (flagZ b) := by
  cases b
  · exact wh_ofInt (by decide) (by decide +kernel)
  · exact wh_ofInt (by decide) (by decide +kernel)
theorem VV.wh_nums {V : VV} (hok : V.ok) (hn : V.nm) (h : V.isWh = true) : V.whs = V.nums.map wnOf ∧ (∀ x ∈ V.nums, ∃ n, Wh x n) ∧ ∀ z ∈ V.whs, z.natAbs ≤ 9007199254740992 := by
  have key : ∀ l : List Int, (∀ z ∈ l, z.natAbs ≤ 9007199254740992) → l = (l.map (floatOfInt .f64)).map wnOf ∧ ∀ x ∈ l.map (floatOfInt .f64), ∃ n, Wh x n := by
    intro l hl
    refine ⟨?_, ?_⟩
    · rw [List.map_map]
      conv => lhs; rw [← List.map_id l]
      exact List.map_congr_left (fun z hz => (wnOf_wh (wh_ofInt (hl z hz) rfl)).symm)
    · intro x hx
      obtain ⟨z, hz, rfl⟩ := List.mem_map.1 hx
      exact ⟨z, wh_ofInt (hl z hz) rfl⟩
  cases V with
  | bits l =>
    refine ⟨?_, ?_, ?_⟩
    · show l.map flagZ = (l.map flagW).map wnOf
      rw [List.map_map]
      exact List.map_congr_left (fun b _ => (wnOf_wh (wn_flag b)).symm)
    · intro x hx
      obtain ⟨b, _, rfl⟩ := List.mem_map.1 hx
      exact ⟨_, wn_flag b⟩
    · intro z hz
      obtain ⟨b, _, rfl⟩ := List.mem_map.1 hz
      cases b <;> decide
  | smalls l =>
    have hb : ∀ z ∈ l, z.natAbs ≤ 9007199254740992 := fun z hz => by have := hok.2 z hz; omega
    exact ⟨(key l hb).1, (key l hb).2, hb⟩
  | ints l =>
    have hb : ∀ z ∈ l, z.natAbs ≤ 9007199254740992 := fun z hz => by have := sm_of (hn z hz); omega
    exact ⟨(key l hb).1, (key l hb).2, hb⟩
  | none => simp [VV.isWh] at h
  | floats l => simp [VV.isWh] at h
  | chars l => simp [VV.isWh] at h
  | boxes l => simp [VV.isWh] at h
/-- A squeezed vector of numbers: it keeps whole numbers if they are all whole. -/
theorem sq_facts {t : List Nat} (hl : t.length ≤ 1048576) (hN : ∀ x ∈ t, Num x) : (VV.floats t).sq.ok ∧ (VV.floats t).sq.nm ∧ (VV.floats t).sq.len = t.length ∧ (VV.floats t).sq.nums = t ∧ ((VV.floats t).sq.kind = 4 → (VV.floats t).sq.len ≠ 0) := by
  obtain ⟨s1, s2, s3, s4, s5, s6⟩ := VV.sq_spec (V := VV.floats t) hl hN
  refine ⟨s4, s5, s6, s2, fun h e => ?_⟩
  rw [VV.sq_kind (V := VV.floats t) hl hN rfl] at h
  have e0 : t.length = 0 := by rw [s6] at e; exact e
  have : t = [] := List.length_eq_zero_iff.1 e0
  subst this
  rw [show (VV.floats []).nums = [] from rfl, leastW_nil] at h
  omega
theorem sq_yes {t : List Nat} (hl : t.length ≤ 1048576) (hN : ∀ x ∈ t, Num x) (h : ∀ x ∈ t, ∃ n, Wh x n) : (VV.floats t).sq.isWh = true ∧ (VV.floats t).sq.whs = t.map wnOf ∧ ∀ z ∈ (VV.floats t).sq.whs, z.natAbs ≤ 9007199254740992 := by
  obtain ⟨s1, s2, s3, s4, s5, s6⟩ := VV.sq_spec (V := VV.floats t) hl hN
  have hk := VV.sq_kind (V := VV.floats t) hl hN rfl
  have h3 : leastW t ≤ 3 := leastW_all (by decide) (fun x hx => by obtain ⟨n, hn⟩ := h x hx; rw [kindW_wh hn]; exact (kindZ_le n).2)
  have h1 := (leastW_le t).1
  have hw : (VV.floats t).sq.isWh = true := by
    have e : (VV.floats t).sq.kind = (leastW t : Int) := hk
    have c : (VV.floats t).sq.cls = 0 := s3
    revert e c
    cases (VV.floats t).sq <;> intro e c <;> first | rfl | (simp [VV.kind] at e; omega) | (simp [VV.cls] at c)
  obtain ⟨a, _, b⟩ := VV.wh_nums s4 s5 hw
  exact ⟨hw, by rw [a, s2]; rfl, b⟩
theorem sq_no {t : List Nat} (hl : t.length ≤ 1048576) (hN : ∀ x ∈ t, Num x) (h : ¬ ∀ x ∈ t, ∃ n, Wh x n) : (VV.floats t).sq.isWh = false ∧ ∀ z ∈ (VV.floats t).sq.whs, z.natAbs ≤ 9007199254740992 := by
  obtain ⟨s1, s2, s3, s4, s5, s6⟩ := VV.sq_spec (V := VV.floats t) hl hN
  have hw : (VV.floats t).sq.isWh = false := by
    cases e : (VV.floats t).sq.isWh
    · rfl
    · have := (VV.wh_nums s4 s5 e).2.1
      rw [s2] at this
      exact absurd this h
  refine ⟨hw, ?_⟩
  revert hw
  cases (VV.floats t).sq <;> intro hw <;> first | (simp [VV.isWh] at hw; done) | (intro z hz; simp [VV.whs] at hz)

theorem wh_cmp {b c : Nat} {n m : Int} (h : Wh b n) (hc : Wh c m) : (n < m → FloatKind.f64.format.order b c = some .lt) ∧ (n = m → FloatKind.f64.format.order b c = some .eq) ∧ (m < n → FloatKind.f64.format.order b c = some .gt) := by
  have hp : (0 : Int) < pw 1074 := by exact_mod_cast pw_pos 1074
  refine ⟨fun e => ord_lt h.1 hc.1 ?_, fun e => ord_eq h.1 hc.1 ?_, fun e => ord_gt h.1 hc.1 ?_⟩ <;> rw [h.2.2, hc.2.2]
  · exact Int.mul_lt_mul_of_pos_right e hp
  · rw [e]
  · exact Int.mul_lt_mul_of_pos_right e hp
theorem wh_neg {x : Nat} {n : Int} (hx : Num x) (h : Wh x n) : ∃ z, floatBits .sub .f64 0 x = some z ∧ Wh z (-n) := by
  obtain ⟨z, h1, h2, h3⟩ := neg_word hx
  refine ⟨z, h1, h2.1, by have := h.2.1; omega, ?_⟩
  rw [h3, h.2.2, Int.neg_mul]
theorem wh_zero : Wh 0 0 := wh_ofInt (by decide) (by decide +kernel)
theorem wh_nat (i : Nat) (h : i ≤ 9007199254740992) : Wh (floatOfInt .f64 (i : Int)) (i : Int) := wh_ofInt (by omega) rfl
/-- A slice's length. -/
def lenV : Value → Nat
  | .slice _ n _ => n
  | _ => 0
theorem fl_nought : floatOfInt .f64 ((0 : Nat) : Int) = 0 := by decide +kernel

/-- The example's numbers: 2, 0, -1. -/
theorem aw15_wh : Wh 4611686018427387904 2 ∧ Wh 0 0 ∧ Wh 13830554455654793216 (-1) := ⟨wh_ofInt (by decide) (by decide +kernel), wh_ofInt (by decide) (by decide +kernel), wh_ofInt (by decide) (by decide +kernel)⟩
theorem aw15_num : ∀ x ∈ ([4611686018427387904, 0, 13830554455654793216] : List Nat), Num x := by
  intro x hx
  simp only [List.mem_cons, List.not_mem_nil, or_false] at hx
  rcases hx with rfl | rfl | rfl <;> exact ⟨⟨by decide, by decide⟩, by decide +kernel⟩
theorem aw15_ze : ([4611686018427387904, 0, 13830554455654793216] : List Nat).map ze = [4611686018427387904, 0, 13830554455654793216] := map_ze aw15_num
theorem aw15_all : ∀ x ∈ ([4611686018427387904, 0, 13830554455654793216] : List Nat), ∃ n, Wh x n := by
  intro x hx
  simp only [List.mem_cons, List.not_mem_nil, or_false] at hx
  rcases hx with rfl | rfl | rfl
  · exact ⟨_, aw15_wh.1⟩
  · exact ⟨_, aw15_wh.2.1⟩
  · exact ⟨_, aw15_wh.2.2⟩
theorem aw15_whs : ([4611686018427387904, 0, 13830554455654793216] : List Nat).map wnOf = [2, 0, -1] := by
  simp only [List.map_cons, List.map_nil, wnOf_wh aw15_wh.1, wnOf_wh aw15_wh.2.1, wnOf_wh aw15_wh.2.2]
theorem aw15_cp : cpTo (cpS [2, 0, -1] 3) 3 = [0, 0, -1] := by decide +kernel
theorem aw15_cpE : cpE (VV.floats [4611686018427387904, 0, 13830554455654793216]).sq 3 9 = 0 ∧ cpL (VV.floats [4611686018427387904, 0, 13830554455654793216]).sq 3 9 = [0, 0, -1] := by
  obtain ⟨a, b, _⟩ := sq_yes (t := [4611686018427387904, 0, 13830554455654793216]) (by decide) aw15_num aw15_all
  obtain ⟨c, d⟩ := cpEw_0 (l := [2, 0, -1]) (n := 3) (most := 9) (Or.inl rfl) (by rw [aw15_cp]; decide)
  unfold cpE cpL
  rw [a, if_pos rfl, if_pos rfl, b, aw15_whs]
  exact ⟨c, d.trans aw15_cp⟩
theorem aw15_tak : takL 2 3 = [0, 1, -1] := by decide +kernel
theorem aw15_rol : rolL 3 (-1) = [2, 0, 1] := by decide +kernel
end Go.Proofs.YtpcighgflolojaaDoor

/- Layer 15's laws: awake. -/
namespace Go.Proofs.YtpcighgflolojaaDoor
set_option maxRecDepth 100000
open Go.RowKit Fl
set_option linter.unusedVariables false

def Yes15 (w : World) (e : Ending) (w' : World) : Prop := e = .returned (.bool true) ∧ Below w.heap.size w w'
theorem ints_eq {ok ok2 : Nat → Prop} (v1 v2 : Value) (l : List Int) (n : Nat) (w : World) (h1 : Slc w ok v1 n (ints l)) (h2 : Slc w ok2 v2 n (ints l)) (hn : l.length = n) (hm : n ≤ 2000000) :
    Calls Tryd.prog 11 #[v1, v2] w fun e w' => e = .returned (.bool true) ∧ Below w.heap.size w w' := by
  subst hn
  have e : (l == l) = true := by simp
  rw [← e]
  exact ints_calls v1 v2 l l w h1.1.sl h2.1.sl (by unfold maxLen; omega)
theorem ptaken_23 (w : World) : Calls Tryd.prog 12 #[.int .i64 2, .int .i64 3, .int .i64 9] w fun e w' => ∃ v, e = .returned (.tuple #[v, .bool true]) ∧ Slc w' (fun b => w.heap.size ≤ b) v 3 (ints [0, 1, -1]) ∧ Below w.heap.size w w' := by
  have := ptaken_yes 2 3 9 w (by decide) (by decide) (by decide)
  rw [aw15_tak] at this
  exact this
theorem prolled_31 (w : World) : Calls Tryd.prog 13 #[.int .i64 3, .int .i64 (-1)] w fun e w' => ∃ v, e = .returned v ∧ Slc w' (fun b => w.heap.size ≤ b) v 3 (ints [2, 0, 1]) ∧ Below w.heap.size w w' := by
  have := prolled_calls 3 (-1) w (by decide) (by decide) (by decide)
  rw [aw15_rol] at this
  exact this
theorem pcopies_39 {ok : Nat → Prop} (u : Value) (w : World) (h : IsV w ok u (VV.floats [4611686018427387904, 0, 13830554455654793216]).sq) (hT : TabAt w) :
    Calls Tryd.prog 8 #[.agg #[u], .int .i64 3, .int .i64 9] w fun e w' => ∃ v, e = .returned (.tuple #[v, .int .i64 0]) ∧ Slc w' (fun _ => True) v 3 (ints [0, 0, -1]) ∧ Below w.heap.size w w' := by
  obtain ⟨a, b, c, d, e⟩ := sq_facts (t := [4611686018427387904, 0, 13830554455654793216]) (by decide) aw15_num
  have := pcopies_calls u _ 3 9 w h a e (by decide) (by decide) (sq_yes (by decide) aw15_num aw15_all).2.2 hT
  rw [aw15_cpE.1, aw15_cpE.2] at this
  exact this
set_option maxHeartbeats 8000000 in
theorem awake15_calls (w : World) (hT : TabAt w) : Calls Tryd.prog 5 #[] w (Yes15 w) := by
  obtain ⟨W1, hW1⟩ : ∃ W1, W1 = w.alloc (.cells #[.float .f64 4611686018427387904, .float .f64 0, .float .f64 13830554455654793216] 44) := ⟨_, rfl⟩
  have HB := Lib.hid (show Below w.heap.size w W1 by rw [hW1]; exact below_new _ _)
  have HV := Lib.hid (show Slc W1 (fun _ => True) (.slice (some ⟨w.heap.size, 0, none⟩) 3 3) [4611686018427387904, 0, 13830554455654793216].length (f64s [4611686018427387904, 0, 13830554455654793216]) by
    rw [hW1]; exact (Slc.owned (World.ownsRow_lit (base := 0) (e := 44) (size := 1) w #[.float .f64 4611686018427387904, .float .f64 0, .float .f64 13830554455654793216] 3 (Nat.zero_le _) (by unfold maxLen; omega) rfl)).keep (Kept.refl _ _) (fun _ _ _ => trivial))
  have HT := Lib.hid (show TabAt W1 from fun j hj => keep_below HB.out _ _ (hT j hj))
  have hfold := hW1.symm
  clear hW1 hT
  go_enter Tryd.func5, Tryd.ntmps5
  go_wp2_with fail
  clear hfold
  refine (numbers_yes _ [4611686018427387904, 0, 13830554455654793216] _ HV.out (by decide) (fun x hx => (aw15_num x hx).1) HT.out).mono ?_
  rintro e W11 ⟨u, rfl, hu, hB⟩
  replace HB := Lib.hid (HB.out.trans (hB.mono HB.out.size))
  replace HT := Lib.hid (fun j hj => keep_below hB _ _ (HT.out j hj))
  replace HV := Lib.hid (HV.out.below hB)
  rw [aw15_ze] at hu
  have HU := Lib.hid (IsV.any hu)
  have hsu := HU.out.store
  clear hu
  clear hB
  clear HV
  obtain ⟨W12, hWn⟩ : ∃ xw9, W11.alloc (.cells #[u] 27) = xw9 := ⟨_, rfl⟩
  have hB : Below W11.heap.size W11 W12 := by rw [← hWn]; exact below_new _ _
  have hNB : At1 W12 W11.heap.size (u) := by rw [← hWn]; exact At1.new _ _ _
  replace HB := Lib.hid (HB.out.trans (hB.mono HB.out.size))
  replace HT := Lib.hid (fun j hj => keep_below hB _ _ (HT.out j hj))
  replace HU := Lib.hid (HU.out.grow hB)
  have HA := Lib.hid hNB
  clear hNB hB
  have cHA0 := HA.out.2.1
  go_wp2_with fail
  clear hWn
  refine (pcopies_39 _ _ HU.out HT.out).mono ?_
  rintro e W13 ⟨v1, rfl, hv1, hB⟩
  clear cHA0
  replace HB := Lib.hid (HB.out.trans (hB.mono HB.out.size))
  replace HT := Lib.hid (fun j hj => keep_below hB _ _ (HT.out j hj))
  replace HU := Lib.hid (HU.out.grow hB)
  replace HA := Lib.hid (HA.out.below hB)
  have H1 := Lib.hid hv1
  obtain ⟨a1, c1, rfl, _⟩ := hv1.opened
  clear hv1
  clear hB
  clear HA HU
  go_wp2_with fail
  refine (ptaken_23 _).mono ?_
  rintro e W14 ⟨v2, rfl, hv2, hB⟩
  replace HB := Lib.hid (HB.out.trans (hB.mono HB.out.size))
  replace HT := Lib.hid (fun j hj => keep_below hB _ _ (HT.out j hj))
  replace H1 := Lib.hid (H1.out.below hB)
  have H2 := Lib.hid hv2.any
  obtain ⟨a2, c2, rfl, _⟩ := hv2.opened
  clear hv2
  clear hB
  go_wp2_with fail
  obtain ⟨W15, hWn⟩ : ∃ xw9, W14.alloc (.cells #[.int .i64 0, .int .i64 0, .int .i64 (-1)] 3) = xw9 := ⟨_, rfl⟩
  have hB : Below W14.heap.size W14 W15 := by rw [← hWn]; exact below_new _ _
  have hNB : Slc W15 (fun _ => True) (.slice (some ⟨W14.heap.size, 0, none⟩) 3 3) 3 (ints [0, 0, -1]) := by
    rw [← hWn]; exact (Slc.owned (World.ownsRow_lit (base := 0) (e := 3) (size := 1) W14 #[.int .i64 0, .int .i64 0, .int .i64 (-1)] 3 (Nat.zero_le _) (by unfold maxLen; omega) rfl)).keep (Kept.refl _ _) (fun _ _ _ => trivial)
  rw [hWn]
  clear hWn
  replace HB := Lib.hid (HB.out.trans (hB.mono HB.out.size))
  replace HT := Lib.hid (fun j hj => keep_below hB _ _ (HT.out j hj))
  replace H1 := Lib.hid (H1.out.below hB)
  replace H2 := Lib.hid (H2.out.below hB)
  have HL1 := Lib.hid hNB
  clear hNB hB
  refine (ints_eq _ _ [0, 0, -1] 3 _ H1.out HL1.out rfl (by decide)).mono ?_
  rintro e W16 ⟨rfl, hB⟩
  replace HB := Lib.hid (HB.out.trans (hB.mono HB.out.size))
  replace HT := Lib.hid (fun j hj => keep_below hB _ _ (HT.out j hj))
  replace H1 := Lib.hid (H1.out.below hB)
  replace H2 := Lib.hid (H2.out.below hB)
  replace HL1 := Lib.hid (HL1.out.below hB)
  clear hB
  go_wp2_with fail
  obtain ⟨W17, hWn⟩ : ∃ xw9, W16.alloc (.cells #[.int .i64 0, .int .i64 1, .int .i64 (-1)] 3) = xw9 := ⟨_, rfl⟩
  have hB : Below W16.heap.size W16 W17 := by rw [← hWn]; exact below_new _ _
  have hNB : Slc W17 (fun _ => True) (.slice (some ⟨W16.heap.size, 0, none⟩) 3 3) 3 (ints [0, 1, -1]) := by
    rw [← hWn]; exact (Slc.owned (World.ownsRow_lit (base := 0) (e := 3) (size := 1) W16 #[.int .i64 0, .int .i64 1, .int .i64 (-1)] 3 (Nat.zero_le _) (by unfold maxLen; omega) rfl)).keep (Kept.refl _ _) (fun _ _ _ => trivial)
  rw [hWn]
  clear hWn
  replace HB := Lib.hid (HB.out.trans (hB.mono HB.out.size))
  replace HT := Lib.hid (fun j hj => keep_below hB _ _ (HT.out j hj))
  replace H1 := Lib.hid (H1.out.below hB)
  replace H2 := Lib.hid (H2.out.below hB)
  replace HL1 := Lib.hid (HL1.out.below hB)
  have HL2 := Lib.hid hNB
  clear hNB hB
  refine (ints_eq _ _ [0, 1, -1] 3 _ H2.out HL2.out rfl (by decide)).mono ?_
  rintro e W18 ⟨rfl, hB⟩
  replace HB := Lib.hid (HB.out.trans (hB.mono HB.out.size))
  replace HT := Lib.hid (fun j hj => keep_below hB _ _ (HT.out j hj))
  replace H1 := Lib.hid (H1.out.below hB)
  replace H2 := Lib.hid (H2.out.below hB)
  replace HL1 := Lib.hid (HL1.out.below hB)
  replace HL2 := Lib.hid (HL2.out.below hB)
  clear hB
  go_wp2_with fail
  refine (prolled_31 _).mono ?_
  rintro e W19 ⟨v3, rfl, hv3, hB⟩
  replace HB := Lib.hid (HB.out.trans (hB.mono HB.out.size))
  replace HT := Lib.hid (fun j hj => keep_below hB _ _ (HT.out j hj))
  replace H1 := Lib.hid (H1.out.below hB)
  replace H2 := Lib.hid (H2.out.below hB)
  replace HL1 := Lib.hid (HL1.out.below hB)
  replace HL2 := Lib.hid (HL2.out.below hB)
  have H3 := Lib.hid hv3.any
  obtain ⟨a3, c3, rfl, _⟩ := hv3.opened
  clear hv3
  clear hB
  go_wp2_with fail
  obtain ⟨W20, hWn⟩ : ∃ xw9, W19.alloc (.cells #[.int .i64 2, .int .i64 0, .int .i64 1] 3) = xw9 := ⟨_, rfl⟩
  have hB : Below W19.heap.size W19 W20 := by rw [← hWn]; exact below_new _ _
  have hNB : Slc W20 (fun _ => True) (.slice (some ⟨W19.heap.size, 0, none⟩) 3 3) 3 (ints [2, 0, 1]) := by
    rw [← hWn]; exact (Slc.owned (World.ownsRow_lit (base := 0) (e := 3) (size := 1) W19 #[.int .i64 2, .int .i64 0, .int .i64 1] 3 (Nat.zero_le _) (by unfold maxLen; omega) rfl)).keep (Kept.refl _ _) (fun _ _ _ => trivial)
  rw [hWn]
  clear hWn
  replace HB := Lib.hid (HB.out.trans (hB.mono HB.out.size))
  replace HT := Lib.hid (fun j hj => keep_below hB _ _ (HT.out j hj))
  replace H1 := Lib.hid (H1.out.below hB)
  replace H2 := Lib.hid (H2.out.below hB)
  replace HL1 := Lib.hid (HL1.out.below hB)
  replace HL2 := Lib.hid (HL2.out.below hB)
  replace H3 := Lib.hid (H3.out.below hB)
  have HL3 := Lib.hid hNB
  clear hNB hB
  refine (ints_eq _ _ [2, 0, 1] 3 _ H3.out HL3.out rfl (by decide)).mono ?_
  rintro e W21 ⟨rfl, hB⟩
  replace HB := Lib.hid (HB.out.trans (hB.mono HB.out.size))
  replace HT := Lib.hid (fun j hj => keep_below hB _ _ (HT.out j hj))
  replace H1 := Lib.hid (H1.out.below hB)
  replace H2 := Lib.hid (H2.out.below hB)
  replace HL1 := Lib.hid (HL1.out.below hB)
  replace HL2 := Lib.hid (HL2.out.below hB)
  replace H3 := Lib.hid (H3.out.below hB)
  replace HL3 := Lib.hid (HL3.out.below hB)
  clear hB
  go_wp2_with fail
  go_ret
  exact ⟨rfl, HB.out⟩
end Go.Proofs.YtpcighgflolojaaDoor

/- Layer 15, walked: the reference's Copies. -/
namespace Go.Proofs.YtpcighgflolojaaDoor
set_option maxRecDepth 100000
open Go.RowKit Fl
set_option linter.unusedVariables false

theorem rwhole_y (x : Nat) (n : Int) (w : World) (h : Wh x n) : Calls Tryd.prog 25 #[.float .f64 x] w fun e w' => e = .returned (.bool true) ∧ w = w' := rwhole_calls x w h.1.1 true (Iff.intro (fun _ => Exists.intro n h) (fun _ => rfl))
theorem rwhole_n (x : Nat) (w : World) (hx : x < 18446744073709551616) (h : ¬ ∃ n, Wh x n) : Calls Tryd.prog 25 #[.float .f64 x] w fun e w' => e = .returned (.bool false) ∧ w = w' := rwhole_calls x w hx false (Iff.intro (fun e => by cases e) (fun e => absurd e h))
set_option maxHeartbeats 4000000 in
theorem rcopies_no {ok : Nat → Prop} (v : Value) (t : List Nat) (n most : Nat) (w : World) (hv : Slc w ok v t.length (f64s t)) (hl : t.length ≤ 1048576) (hN : ∀ x ∈ t, Num x) (hW : ¬ ∀ x ∈ t, ∃ n, Wh x n) :
    Calls Tryd.prog 9 #[v, .int .i64 (n : Int), .int .i64 (most : Int)] w fun e w' => e = .returned (.tuple #[.slice none 0 0, .int .i64 24]) ∧ w = w' := by
  have HV := Lib.hid hv
  have HNM := Lib.hid hN
  have HW := Lib.hid hW
  obtain ⟨ao, cap, rfl, _⟩ := hv.opened
  clear hv hN hW
  go_enter Tryd.func9, Tryd.ntmps9
  go_wp2
  go_loopw [8] (fun i wr => ∃ k : Nat, k ≤ t.length ∧ i = .int .i64 k ∧ (∀ j (h : j < t.length), j < k → ∃ n, Wh (t[j]) n) ∧ wr = w) (fun i _ => t.length - (intOf i).toNat)
  case atStart => exact ⟨0, by omega, rfl, fun j _ h => absurd h (Nat.not_lt_zero _), rfl⟩
  case round =>
    obtain ⟨k, hk, rfl, hall, rfl⟩ := hrel
    have HA := Lib.hid hall
    clear hall
    by_cases hlt : k < t.length
    · obtain ⟨b, off, cap1, x, e, hx, c0⟩ := Slc.at_map (Value.float .f64) HV.out k hlt
      cases e
      have HX := Lib.hid hx
      have HXN := Lib.hid (HNM.out x (by obtain ⟨h1, h2⟩ := List.getElem?_eq_some_iff.1 hx; rw [← h2]; exact List.getElem_mem h1))
      clear hx
      go_wp2_with fail
      by_cases hw : ∃ n, Wh x n
      · obtain ⟨m, hm⟩ := hw
        have HM := Lib.hid hm
        refine (rwhole_y x m _ hm).mono ?_
        rintro e w1 ⟨rfl, rfl⟩
        clear hm
        go_wp2
        go_roundw
        case rel =>
          refine ⟨k + 1, by omega, by go_num, fun j h hj => ?_, by trivial⟩
          by_cases hjk : j < k
          · exact HA.out j h hjk
          · have : j = k := by omega
            subst this
            obtain ⟨h1, h2⟩ := List.getElem?_eq_some_iff.1 HX.out
            rw [h2]; exact ⟨m, HM.out⟩
        case measure => simp [intOf]; omega
      · refine (rwhole_n x _ HXN.out.1.1 hw).mono ?_
        rintro e w1 ⟨rfl, rfl⟩
        clear hw
        go_wp2
        go_ret2
        exact ⟨rfl, rfl⟩
    · refine absurd (fun x hx => ?_) HW.out
      obtain ⟨j, hj, rfl⟩ := List.getElem_of_mem hx
      exact HA.out j hj (by omega)

theorem getD_wn {t : List Nat} {k x : Nat} (h : t[k]? = some x) : (t.map wnOf).getD k 0 = wnOf x := by
  rw [List.getD_eq_getElem?_getD, List.getElem?_map, h]; rfl
theorem mem_nat {l : List Nat} {k : Nat} {x : Nat} (h : l[k]? = some x) : x ∈ l := by
  obtain ⟨h1, h2⟩ := List.getElem?_eq_some_iff.1 h
  rw [← h2]; exact List.getElem_mem h1
set_option maxHeartbeats 16000000 in
theorem rcopies_yes {ok : Nat → Prop} (v : Value) (t : List Nat) (n most : Nat) (w : World) (hv : Slc w ok v t.length (f64s t)) (hl : t.length ≤ 1048576) (hN : ∀ x ∈ t, Num x) (hW : ∀ x ∈ t, ∃ n, Wh x n) (hn : n ≤ 1048576) (hmo : most ≤ 1048576) :
    Calls Tryd.prog 9 #[v, .int .i64 (n : Int), .int .i64 (most : Int)] w fun e w' => ∃ v, e = .returned (.tuple #[v, .int .i64 (cpEw (t.map wnOf) n most)]) ∧ Slc w' (fun _ => True) v (cpLw (t.map wnOf) n most).length (ints (cpLw (t.map wnOf) n most)) ∧ Below w.heap.size w w' := by
  obtain ⟨E, hEE⟩ : ∃ E, cpEw (t.map wnOf) n most = E := ⟨_, rfl⟩
  obtain ⟨L, hLL⟩ : ∃ L, cpLw (t.map wnOf) n most = L := ⟨_, rfl⟩
  rw [hEE, hLL]
  have HEE := Lib.hid hEE
  have HLL := Lib.hid hLL
  have HV := Lib.hid hv
  have HNM := Lib.hid hN
  have HW := Lib.hid hW
  have HN := Lib.hid hn
  have HMO := Lib.hid hmo
  obtain ⟨i0, hi, hz0, hz1, hz2⟩ := info_parts info_int3
  have HI0 := Lib.hid (And.intro hi (And.intro hz0 (And.intro hz1 hz2)))
  obtain ⟨ao, cap, rfl, _⟩ := hv.opened
  have HTL := Lib.hid (show (t.map wnOf).length = t.length by simp)
  clear hv hN hW hi hz0 hz1 hz2 hEE hLL
  go_enter Tryd.func9, Tryd.ntmps9
  go_wp2
  go_loopw [8] (fun i wr => ∃ k : Nat, k ≤ t.length ∧ i = .int .i64 k ∧ w = wr) (fun i _ => t.length - (intOf i).toNat)
  case atStart => exact ⟨0, by omega, rfl, rfl⟩
  case round =>
    obtain ⟨k, hk, rfl, rfl⟩ := hrel
    by_cases hlt : k < t.length
    · obtain ⟨b, off, cap1, x, e, hx, c0⟩ := Slc.at_map (Value.float .f64) HV.out k hlt
      cases e
      obtain ⟨m, hm⟩ := HW.out x (mem_nat hx)
      clear hx
      go_wp2_with fail
      refine (rwhole_y x m _ hm).mono ?_
      rintro e w1 ⟨rfl, rfl⟩
      clear hm
      go_wp2
      go_roundw
      case rel => exact ⟨k + 1, by omega, by go_num, by trivial⟩
      case measure => simp [intOf]; omega
    · have hkl : ¬ (k : Int) < (t.length : Int) := by omega
      by_cases hln : t.length = n
      · have hb1 : ((t.length : Int) != (n : Int)) = false := by simp; omega
        have HLE := Lib.hid (show (t.map wnOf).length = n ∨ (t.map wnOf).length = 1 by rw [HTL.out]; omega)
        have HLN := Lib.hid (show t.length = n ∨ t.length = 1 by omega)
        have HLM := Lib.hid hln
        clear hln
        go_wp2_with fail
        go_loopw [9, 10] (fun v i wr => ∃ k : Nat, k ≤ n ∧ i = .int .i64 k ∧ wr.ownsRow w.heap.size 3 1 v (cpTo (cpS (t.map wnOf) n) k).length (ints (cpTo (cpS (t.map wnOf) n) k)) ∧ (cpTo (cpS (t.map wnOf) n) k).length ≤ most ∧ Below w.heap.size w wr) (fun _ i _ => n - (intOf i).toNat)
        case atStart => exact ⟨0, by omega, rfl, World.ownsRow_nil _ _ _ _, Nat.zero_le _, Below.refl _ _⟩
        case round =>
          obtain ⟨k, hk, rfl, hown, hfi, hB⟩ := hrel
          obtain ⟨vo, vc, rfl⟩ := owns_form hown
          have HO := Lib.hid hown
          have HB := Lib.hid hB
          have HFI := Lib.hid hfi
          clear hown hB
          by_cases hlt : k < n
          · obtain ⟨C, hC⟩ : ∃ C, cpTo (cpS (t.map wnOf) n) k = C := ⟨_, rfl⟩
            have HCC := Lib.hid hC
            rw [hC] at HO hfi
            obtain ⟨B, hB9⟩ : ∃ B, C.length = B := ⟨_, rfl⟩
            have HCL := Lib.hid hB9
            rw [hB9] at HO hfi
            rw [hC, hB9]
            clear hC hB9 HFI
            have ht0 : 0 < t.length := by have := HLN.out; omega
            obtain ⟨b, off, cap1, x0, e, hx0, c0⟩ := Slc.at_map (Value.float .f64) (HV.out.below HB.out) 0 ht0
            cases e
            have c00 : wr.cell? ⟨b, off, none⟩ = some (.float .f64 x0) := c0
            by_cases hgt : 1 < t.length
            · have h1 : (1 : Int) < (t.length : Int) := by omega
              obtain ⟨b, off, cap1, x, e, hx, c1⟩ := Slc.at_map (Value.float .f64) (HV.out.below HB.out) k (by have := HLM.out; omega)
              have hkt : k < t.length := by have := HLM.out; omega
              cases e
              have HGD := Lib.hid (show (cpS (t.map wnOf) n).getD k 0 = wnOf x by rw [cpS_get hlt HLE.out, if_pos (by rw [HTL.out]; exact hgt)]; exact getD_wn hx)
              have hq0 : Wh x (wnOf x) := by obtain ⟨m9, hm9⟩ := HW.out x (mem_nat hx); rw [wnOf_wh hm9]; exact hm9
              obtain ⟨m, hm⟩ : ∃ m, wnOf x = m := ⟨_, rfl⟩
              rw [hm] at hq0 HGD
              obtain ⟨q, hq⟩ : ∃ q : Nat, m.natAbs = q := ⟨_, rfl⟩
              have hqb : q ≤ 9007199254740992 := by have := hq0.2.1; omega
              have HXN := Lib.hid (HNM.out x (mem_nat hx))
              have HWX := Lib.hid hq0
              have hc3 := wh_cmp hq0 wh_zero
              have HS2 := Lib.hid (show cpTo (cpS (t.map wnOf) n) (k + 1) = C ++ cpR m k by rw [cpTo_succ, HGD.out, HCC.out])
              clear hx hm hq0
              rcases Int.lt_trichotomy m 0 with h3 | h3 | h3
              · have hsg := hc3.1 h3
                obtain ⟨z, hz, hwz⟩ := wh_neg HXN.out HWX.out
                have hsb : ∀ t w, (binOp .sub t (.float .f64 0) (.float .f64 x)).run Tryd.prog w = .ok (.float .f64 z) w := fun t w => run_float_arith w .sub t .f64 _ _ _ hz
                have HZ := Lib.hid (show Wh z (q : Int) by rw [show (q : Int) = -m by omega]; exact hwz)
                have HSU := Lib.hid (show cpTo (cpS (t.map wnOf) n) (k + 1) = C ++ List.replicate q (-1) by rw [HS2.out]; unfold cpR; rw [hq, if_pos h3])
                clear hc3 hz hwz
                go_wp2_with fail
                go_loopw [9, 13] (fun v j wq => ∃ i : Nat, i ≤ q ∧ j = .float .f64 (floatOfInt .f64 (i : Int)) ∧ wq.ownsRow w.heap.size 3 1 v (B + i) (ints (C ++ List.replicate i (-1))) ∧ B + i ≤ most ∧ Below w.heap.size w wq) (fun v _ _ => most + 1 - lenV v)
                case atStart => exact ⟨0, by omega, by rw [fl_nought], by simpa using HO.out, by omega, HB.out⟩
                case round =>
                  obtain ⟨i, hi, rfl, hown, him, hBq⟩ := hrel
                  obtain ⟨vo, vc, rfl⟩ := owns_form hown
                  have HOq := Lib.hid hown
                  have HBq := Lib.hid hBq
                  have HIM := Lib.hid him
                  have hsz := hBq.size
                  have hcmp := wh_cmp (wh_nat i (by omega)) HZ.out
                  clear hown hBq
                  by_cases hit : i < q
                  · have hord := hcmp.1 (by omega)
                    clear hcmp
                    by_cases hful : most ≤ B + i
                    · have hfi : (most : Int) ≤ ((B + i : Nat) : Int) := by omega
                      have hTT := Lib.hid (show most < (cpTo (cpS (t.map wnOf) n) n).length by have h1 := cpTo_mono (cpS (t.map wnOf) n) (k := k + 1) (n := n) hlt; rw [HSU.out, List.length_append, List.length_replicate, HCL.out] at h1; omega)
                      have hE2 : E = 26 := by rw [← HEE.out]; exact (cpEw_26 HLE.out hTT.out).1
                      have HL2 := Lib.hid (show L = [] by rw [← HLL.out]; exact (cpEw_26 HLE.out hTT.out).2)
                      subst hE2
                      clear hful
                      go_wp2
                      go_ret2
                      refine ⟨.slice none 0 0, rfl, ?_, HBq.out⟩
                      rw [HL2.out]
                      exact Slc.nil _ _
                    · have hfi : ¬ (most : Int) ≤ ((B + i : Nat) : Int) := by omega
                      have hop : ∀ t w, (binOp .add t (.float .f64 (floatOfInt .f64 (i : Int))) (.float .f64 4607182418800017408)).run Tryd.prog w = .ok (.float .f64 (floatOfInt .f64 ((i + 1 : Nat) : Int))) w := fun t w => run_float_arith w .add t .f64 _ _ _ (fl_succ i (by omega))
                      obtain ⟨W4, hW4⟩ : ∃ W4, W4 = wr.alloc (.cells #[.int .i64 (-1)] 3) := ⟨_, rfl⟩
                      have HB4 := Lib.hid (show Below w.heap.size w W4 by rw [hW4]; exact HBq.out.alloc hsz _)
                      have HO4 := Lib.hid (show W4.ownsRow w.heap.size 3 1 (.slice vo (B + i) vc) (B + i) (ints (C ++ List.replicate i (-1))) by rw [hW4]; exact HOq.out.alloc _)
                      have HN4 := Lib.hid (show ∀ j u, ([.int .i64 (-1)] : List Value)[j]? = some u → W4.cell? ((⟨wr.heap.size, 0, none⟩ : Addr).add j) = some u by rw [hW4]; exact cell_one_newp _ _ _)
                      have HSZ4 := Lib.hid HB4.out.size
                      have HM1 := Lib.hid (show B + i + 1 ≤ maxLen by unfold maxLen; omega)
                      have HM2 := Lib.hid (show (B + i + 1) * 8 ≤ 140737488355328 by omega)
                      have hfold4 := hW4.symm
                      clear hW4
                      go_wp2_with (at_builtin; refine wpList_append_own _ rfl _ _ 30 rfl w.heap.size 3 i0 (.int .i64 0) 1 8 Tryd.underlying30 HI0.out.1 HI0.out.2.1 HI0.out.2.2.1 HI0.out.2.2.2 rfl (by decide) _ _ _ rfl HO4.out ⟨wr.heap.size, 0, none⟩ 1 1 [.int .i64 (-1)] rfl rfl HN4.out (one_intp _) HM1.out HM2.out HSZ4.out ?_)
                      intro v' w1 hown' hgrow _
                      have HO1 := Lib.hid hown'
                      have HB1 := Lib.hid (grown_below HB4.out HO4.out (Nat.le_refl _) HSZ4.out hgrow)
                      clear hown' hgrow hfold4
                      go_wp2
                      go_roundw
                      case rel =>
                        refine ⟨i + 1, by omega, by rfl, ?_, by omega, HB1.out⟩
                        have := HO1.out
                        rw [show ints (C ++ List.replicate (i + 1) (-1)) = ints (C ++ List.replicate i (-1)) ++ [.int .i64 (-1)] by simp [ints, List.replicate_succ']]
                        exact this
                      case measure => obtain ⟨vo2, vc2, rfl⟩ := owns_form HO1.out; simp [lenV]; omega
                  · have hiq : i = q := by omega
                    have hord := hcmp.2.1 (by omega)
                    have HIQ := Lib.hid hiq
                    clear hcmp hiq
                    go_wp2
                    go_roundw
                    case rel =>
                      refine ⟨k + 1, by omega, by go_num, ?_, ?_, HBq.out⟩
                      · rw [HSU.out, List.length_append, List.length_replicate, HCL.out, ← HIQ.out]
                        exact HOq.out
                      · rw [HSU.out, List.length_append, List.length_replicate, HCL.out, ← HIQ.out]
                        exact HIM.out
                    case measure => simp [intOf]; omega
              · have hsg := hc3.2.1 h3
                have HZ := Lib.hid (show Wh x (q : Int) by rw [show (q : Int) = m by omega]; exact HWX.out)
                have HSU := Lib.hid (show cpTo (cpS (t.map wnOf) n) (k + 1) = C ++ List.replicate q (k : Int) by rw [HS2.out]; unfold cpR; rw [hq, if_neg (by omega)])
                clear hc3
                go_wp2_with fail
                go_loopw [9, 13] (fun v j wq => ∃ i : Nat, i ≤ q ∧ j = .float .f64 (floatOfInt .f64 (i : Int)) ∧ wq.ownsRow w.heap.size 3 1 v (B + i) (ints (C ++ List.replicate i ((k : Int)))) ∧ B + i ≤ most ∧ Below w.heap.size w wq) (fun v _ _ => most + 1 - lenV v)
                case atStart => exact ⟨0, by omega, by rw [fl_nought], by simpa using HO.out, by omega, HB.out⟩
                case round =>
                  obtain ⟨i, hi, rfl, hown, him, hBq⟩ := hrel
                  obtain ⟨vo, vc, rfl⟩ := owns_form hown
                  have HOq := Lib.hid hown
                  have HBq := Lib.hid hBq
                  have HIM := Lib.hid him
                  have hsz := hBq.size
                  have hcmp := wh_cmp (wh_nat i (by omega)) HZ.out
                  clear hown hBq
                  by_cases hit : i < q
                  · exact absurd hit (by omega)
                  · have hiq : i = q := by omega
                    have hord := hcmp.2.1 (by omega)
                    have HIQ := Lib.hid hiq
                    clear hcmp hiq
                    go_wp2
                    go_roundw
                    case rel =>
                      refine ⟨k + 1, by omega, by go_num, ?_, ?_, HBq.out⟩
                      · rw [HSU.out, List.length_append, List.length_replicate, HCL.out, ← HIQ.out]
                        exact HOq.out
                      · rw [HSU.out, List.length_append, List.length_replicate, HCL.out, ← HIQ.out]
                        exact HIM.out
                    case measure => simp [intOf]; omega
              · have hsg := hc3.2.2 h3
                have HZ := Lib.hid (show Wh x (q : Int) by rw [show (q : Int) = m by omega]; exact HWX.out)
                have HSU := Lib.hid (show cpTo (cpS (t.map wnOf) n) (k + 1) = C ++ List.replicate q (k : Int) by rw [HS2.out]; unfold cpR; rw [hq, if_neg (by omega)])
                clear hc3
                go_wp2_with fail
                go_loopw [9, 13] (fun v j wq => ∃ i : Nat, i ≤ q ∧ j = .float .f64 (floatOfInt .f64 (i : Int)) ∧ wq.ownsRow w.heap.size 3 1 v (B + i) (ints (C ++ List.replicate i ((k : Int)))) ∧ B + i ≤ most ∧ Below w.heap.size w wq) (fun v _ _ => most + 1 - lenV v)
                case atStart => exact ⟨0, by omega, by rw [fl_nought], by simpa using HO.out, by omega, HB.out⟩
                case round =>
                  obtain ⟨i, hi, rfl, hown, him, hBq⟩ := hrel
                  obtain ⟨vo, vc, rfl⟩ := owns_form hown
                  have HOq := Lib.hid hown
                  have HBq := Lib.hid hBq
                  have HIM := Lib.hid him
                  have hsz := hBq.size
                  have hcmp := wh_cmp (wh_nat i (by omega)) HZ.out
                  clear hown hBq
                  by_cases hit : i < q
                  · have hord := hcmp.1 (by omega)
                    clear hcmp
                    by_cases hful : most ≤ B + i
                    · have hfi : (most : Int) ≤ ((B + i : Nat) : Int) := by omega
                      have hTT := Lib.hid (show most < (cpTo (cpS (t.map wnOf) n) n).length by have h1 := cpTo_mono (cpS (t.map wnOf) n) (k := k + 1) (n := n) hlt; rw [HSU.out, List.length_append, List.length_replicate, HCL.out] at h1; omega)
                      have hE2 : E = 26 := by rw [← HEE.out]; exact (cpEw_26 HLE.out hTT.out).1
                      have HL2 := Lib.hid (show L = [] by rw [← HLL.out]; exact (cpEw_26 HLE.out hTT.out).2)
                      subst hE2
                      clear hful
                      go_wp2
                      go_ret2
                      refine ⟨.slice none 0 0, rfl, ?_, HBq.out⟩
                      rw [HL2.out]
                      exact Slc.nil _ _
                    · have hfi : ¬ (most : Int) ≤ ((B + i : Nat) : Int) := by omega
                      have hop : ∀ t w, (binOp .add t (.float .f64 (floatOfInt .f64 (i : Int))) (.float .f64 4607182418800017408)).run Tryd.prog w = .ok (.float .f64 (floatOfInt .f64 ((i + 1 : Nat) : Int))) w := fun t w => run_float_arith w .add t .f64 _ _ _ (fl_succ i (by omega))
                      obtain ⟨W4, hW4⟩ : ∃ W4, W4 = wr.alloc (.cells #[.int .i64 ((k : Int))] 3) := ⟨_, rfl⟩
                      have HB4 := Lib.hid (show Below w.heap.size w W4 by rw [hW4]; exact HBq.out.alloc hsz _)
                      have HO4 := Lib.hid (show W4.ownsRow w.heap.size 3 1 (.slice vo (B + i) vc) (B + i) (ints (C ++ List.replicate i ((k : Int)))) by rw [hW4]; exact HOq.out.alloc _)
                      have HN4 := Lib.hid (show ∀ j u, ([.int .i64 ((k : Int))] : List Value)[j]? = some u → W4.cell? ((⟨wr.heap.size, 0, none⟩ : Addr).add j) = some u by rw [hW4]; exact cell_one_newp _ _ _)
                      have HSZ4 := Lib.hid HB4.out.size
                      have HM1 := Lib.hid (show B + i + 1 ≤ maxLen by unfold maxLen; omega)
                      have HM2 := Lib.hid (show (B + i + 1) * 8 ≤ 140737488355328 by omega)
                      have hfold4 := hW4.symm
                      clear hW4
                      go_wp2_with (at_builtin; refine wpList_append_own _ rfl _ _ 30 rfl w.heap.size 3 i0 (.int .i64 0) 1 8 Tryd.underlying30 HI0.out.1 HI0.out.2.1 HI0.out.2.2.1 HI0.out.2.2.2 rfl (by decide) _ _ _ rfl HO4.out ⟨wr.heap.size, 0, none⟩ 1 1 [.int .i64 ((k : Int))] rfl rfl HN4.out (one_intp _) HM1.out HM2.out HSZ4.out ?_)
                      intro v' w1 hown' hgrow _
                      have HO1 := Lib.hid hown'
                      have HB1 := Lib.hid (grown_below HB4.out HO4.out (Nat.le_refl _) HSZ4.out hgrow)
                      clear hown' hgrow hfold4
                      go_wp2
                      go_roundw
                      case rel =>
                        refine ⟨i + 1, by omega, by rfl, ?_, by omega, HB1.out⟩
                        have := HO1.out
                        rw [show ints (C ++ List.replicate (i + 1) ((k : Int))) = ints (C ++ List.replicate i ((k : Int))) ++ [.int .i64 ((k : Int))] by simp [ints, List.replicate_succ']]
                        exact this
                      case measure => obtain ⟨vo2, vc2, rfl⟩ := owns_form HO1.out; simp [lenV]; omega
                  · have hiq : i = q := by omega
                    have hord := hcmp.2.1 (by omega)
                    have HIQ := Lib.hid hiq
                    clear hcmp hiq
                    go_wp2
                    go_roundw
                    case rel =>
                      refine ⟨k + 1, by omega, by go_num, ?_, ?_, HBq.out⟩
                      · rw [HSU.out, List.length_append, List.length_replicate, HCL.out, ← HIQ.out]
                        exact HOq.out
                      · rw [HSU.out, List.length_append, List.length_replicate, HCL.out, ← HIQ.out]
                        exact HIM.out
                    case measure => simp [intOf]; omega
            · have h1 : ¬ (1 : Int) < (t.length : Int) := by omega
              obtain ⟨x, hxx⟩ : ∃ x, x = x0 := ⟨_, rfl⟩
              rw [← hxx] at hx0 c0 c00
              clear hxx
              have hx := hx0
              have HGD := Lib.hid (show (cpS (t.map wnOf) n).getD k 0 = wnOf x by rw [cpS_get hlt HLE.out, if_neg (by rw [HTL.out]; have := h1; omega)]; exact getD_wn hx0)
              clear hx0
              have hq0 : Wh x (wnOf x) := by obtain ⟨m9, hm9⟩ := HW.out x (mem_nat hx); rw [wnOf_wh hm9]; exact hm9
              obtain ⟨m, hm⟩ : ∃ m, wnOf x = m := ⟨_, rfl⟩
              rw [hm] at hq0 HGD
              obtain ⟨q, hq⟩ : ∃ q : Nat, m.natAbs = q := ⟨_, rfl⟩
              have hqb : q ≤ 9007199254740992 := by have := hq0.2.1; omega
              have HXN := Lib.hid (HNM.out x (mem_nat hx))
              have HWX := Lib.hid hq0
              have hc3 := wh_cmp hq0 wh_zero
              have HS2 := Lib.hid (show cpTo (cpS (t.map wnOf) n) (k + 1) = C ++ cpR m k by rw [cpTo_succ, HGD.out, HCC.out])
              clear hx hm hq0
              rcases Int.lt_trichotomy m 0 with h3 | h3 | h3
              · have hsg := hc3.1 h3
                obtain ⟨z, hz, hwz⟩ := wh_neg HXN.out HWX.out
                have hsb : ∀ t w, (binOp .sub t (.float .f64 0) (.float .f64 x)).run Tryd.prog w = .ok (.float .f64 z) w := fun t w => run_float_arith w .sub t .f64 _ _ _ hz
                have HZ := Lib.hid (show Wh z (q : Int) by rw [show (q : Int) = -m by omega]; exact hwz)
                have HSU := Lib.hid (show cpTo (cpS (t.map wnOf) n) (k + 1) = C ++ List.replicate q (-1) by rw [HS2.out]; unfold cpR; rw [hq, if_pos h3])
                clear hc3 hz hwz
                go_wp2_with fail
                go_loopw [9, 13] (fun v j wq => ∃ i : Nat, i ≤ q ∧ j = .float .f64 (floatOfInt .f64 (i : Int)) ∧ wq.ownsRow w.heap.size 3 1 v (B + i) (ints (C ++ List.replicate i (-1))) ∧ B + i ≤ most ∧ Below w.heap.size w wq) (fun v _ _ => most + 1 - lenV v)
                case atStart => exact ⟨0, by omega, by rw [fl_nought], by simpa using HO.out, by omega, HB.out⟩
                case round =>
                  obtain ⟨i, hi, rfl, hown, him, hBq⟩ := hrel
                  obtain ⟨vo, vc, rfl⟩ := owns_form hown
                  have HOq := Lib.hid hown
                  have HBq := Lib.hid hBq
                  have HIM := Lib.hid him
                  have hsz := hBq.size
                  have hcmp := wh_cmp (wh_nat i (by omega)) HZ.out
                  clear hown hBq
                  by_cases hit : i < q
                  · have hord := hcmp.1 (by omega)
                    clear hcmp
                    by_cases hful : most ≤ B + i
                    · have hfi : (most : Int) ≤ ((B + i : Nat) : Int) := by omega
                      have hTT := Lib.hid (show most < (cpTo (cpS (t.map wnOf) n) n).length by have h1 := cpTo_mono (cpS (t.map wnOf) n) (k := k + 1) (n := n) hlt; rw [HSU.out, List.length_append, List.length_replicate, HCL.out] at h1; omega)
                      have hE2 : E = 26 := by rw [← HEE.out]; exact (cpEw_26 HLE.out hTT.out).1
                      have HL2 := Lib.hid (show L = [] by rw [← HLL.out]; exact (cpEw_26 HLE.out hTT.out).2)
                      subst hE2
                      clear hful
                      go_wp2
                      go_ret2
                      refine ⟨.slice none 0 0, rfl, ?_, HBq.out⟩
                      rw [HL2.out]
                      exact Slc.nil _ _
                    · have hfi : ¬ (most : Int) ≤ ((B + i : Nat) : Int) := by omega
                      have hop : ∀ t w, (binOp .add t (.float .f64 (floatOfInt .f64 (i : Int))) (.float .f64 4607182418800017408)).run Tryd.prog w = .ok (.float .f64 (floatOfInt .f64 ((i + 1 : Nat) : Int))) w := fun t w => run_float_arith w .add t .f64 _ _ _ (fl_succ i (by omega))
                      obtain ⟨W4, hW4⟩ : ∃ W4, W4 = wr.alloc (.cells #[.int .i64 (-1)] 3) := ⟨_, rfl⟩
                      have HB4 := Lib.hid (show Below w.heap.size w W4 by rw [hW4]; exact HBq.out.alloc hsz _)
                      have HO4 := Lib.hid (show W4.ownsRow w.heap.size 3 1 (.slice vo (B + i) vc) (B + i) (ints (C ++ List.replicate i (-1))) by rw [hW4]; exact HOq.out.alloc _)
                      have HN4 := Lib.hid (show ∀ j u, ([.int .i64 (-1)] : List Value)[j]? = some u → W4.cell? ((⟨wr.heap.size, 0, none⟩ : Addr).add j) = some u by rw [hW4]; exact cell_one_newp _ _ _)
                      have HSZ4 := Lib.hid HB4.out.size
                      have HM1 := Lib.hid (show B + i + 1 ≤ maxLen by unfold maxLen; omega)
                      have HM2 := Lib.hid (show (B + i + 1) * 8 ≤ 140737488355328 by omega)
                      have hfold4 := hW4.symm
                      clear hW4
                      go_wp2_with (at_builtin; refine wpList_append_own _ rfl _ _ 30 rfl w.heap.size 3 i0 (.int .i64 0) 1 8 Tryd.underlying30 HI0.out.1 HI0.out.2.1 HI0.out.2.2.1 HI0.out.2.2.2 rfl (by decide) _ _ _ rfl HO4.out ⟨wr.heap.size, 0, none⟩ 1 1 [.int .i64 (-1)] rfl rfl HN4.out (one_intp _) HM1.out HM2.out HSZ4.out ?_)
                      intro v' w1 hown' hgrow _
                      have HO1 := Lib.hid hown'
                      have HB1 := Lib.hid (grown_below HB4.out HO4.out (Nat.le_refl _) HSZ4.out hgrow)
                      clear hown' hgrow hfold4
                      go_wp2
                      go_roundw
                      case rel =>
                        refine ⟨i + 1, by omega, by rfl, ?_, by omega, HB1.out⟩
                        have := HO1.out
                        rw [show ints (C ++ List.replicate (i + 1) (-1)) = ints (C ++ List.replicate i (-1)) ++ [.int .i64 (-1)] by simp [ints, List.replicate_succ']]
                        exact this
                      case measure => obtain ⟨vo2, vc2, rfl⟩ := owns_form HO1.out; simp [lenV]; omega
                  · have hiq : i = q := by omega
                    have hord := hcmp.2.1 (by omega)
                    have HIQ := Lib.hid hiq
                    clear hcmp hiq
                    go_wp2
                    go_roundw
                    case rel =>
                      refine ⟨k + 1, by omega, by go_num, ?_, ?_, HBq.out⟩
                      · rw [HSU.out, List.length_append, List.length_replicate, HCL.out, ← HIQ.out]
                        exact HOq.out
                      · rw [HSU.out, List.length_append, List.length_replicate, HCL.out, ← HIQ.out]
                        exact HIM.out
                    case measure => simp [intOf]; omega
              · have hsg := hc3.2.1 h3
                have HZ := Lib.hid (show Wh x (q : Int) by rw [show (q : Int) = m by omega]; exact HWX.out)
                have HSU := Lib.hid (show cpTo (cpS (t.map wnOf) n) (k + 1) = C ++ List.replicate q (k : Int) by rw [HS2.out]; unfold cpR; rw [hq, if_neg (by omega)])
                clear hc3
                go_wp2_with fail
                go_loopw [9, 13] (fun v j wq => ∃ i : Nat, i ≤ q ∧ j = .float .f64 (floatOfInt .f64 (i : Int)) ∧ wq.ownsRow w.heap.size 3 1 v (B + i) (ints (C ++ List.replicate i ((k : Int)))) ∧ B + i ≤ most ∧ Below w.heap.size w wq) (fun v _ _ => most + 1 - lenV v)
                case atStart => exact ⟨0, by omega, by rw [fl_nought], by simpa using HO.out, by omega, HB.out⟩
                case round =>
                  obtain ⟨i, hi, rfl, hown, him, hBq⟩ := hrel
                  obtain ⟨vo, vc, rfl⟩ := owns_form hown
                  have HOq := Lib.hid hown
                  have HBq := Lib.hid hBq
                  have HIM := Lib.hid him
                  have hsz := hBq.size
                  have hcmp := wh_cmp (wh_nat i (by omega)) HZ.out
                  clear hown hBq
                  by_cases hit : i < q
                  · exact absurd hit (by omega)
                  · have hiq : i = q := by omega
                    have hord := hcmp.2.1 (by omega)
                    have HIQ := Lib.hid hiq
                    clear hcmp hiq
                    go_wp2
                    go_roundw
                    case rel =>
                      refine ⟨k + 1, by omega, by go_num, ?_, ?_, HBq.out⟩
                      · rw [HSU.out, List.length_append, List.length_replicate, HCL.out, ← HIQ.out]
                        exact HOq.out
                      · rw [HSU.out, List.length_append, List.length_replicate, HCL.out, ← HIQ.out]
                        exact HIM.out
                    case measure => simp [intOf]; omega
              · have hsg := hc3.2.2 h3
                have HZ := Lib.hid (show Wh x (q : Int) by rw [show (q : Int) = m by omega]; exact HWX.out)
                have HSU := Lib.hid (show cpTo (cpS (t.map wnOf) n) (k + 1) = C ++ List.replicate q (k : Int) by rw [HS2.out]; unfold cpR; rw [hq, if_neg (by omega)])
                clear hc3
                go_wp2_with fail
                go_loopw [9, 13] (fun v j wq => ∃ i : Nat, i ≤ q ∧ j = .float .f64 (floatOfInt .f64 (i : Int)) ∧ wq.ownsRow w.heap.size 3 1 v (B + i) (ints (C ++ List.replicate i ((k : Int)))) ∧ B + i ≤ most ∧ Below w.heap.size w wq) (fun v _ _ => most + 1 - lenV v)
                case atStart => exact ⟨0, by omega, by rw [fl_nought], by simpa using HO.out, by omega, HB.out⟩
                case round =>
                  obtain ⟨i, hi, rfl, hown, him, hBq⟩ := hrel
                  obtain ⟨vo, vc, rfl⟩ := owns_form hown
                  have HOq := Lib.hid hown
                  have HBq := Lib.hid hBq
                  have HIM := Lib.hid him
                  have hsz := hBq.size
                  have hcmp := wh_cmp (wh_nat i (by omega)) HZ.out
                  clear hown hBq
                  by_cases hit : i < q
                  · have hord := hcmp.1 (by omega)
                    clear hcmp
                    by_cases hful : most ≤ B + i
                    · have hfi : (most : Int) ≤ ((B + i : Nat) : Int) := by omega
                      have hTT := Lib.hid (show most < (cpTo (cpS (t.map wnOf) n) n).length by have h1 := cpTo_mono (cpS (t.map wnOf) n) (k := k + 1) (n := n) hlt; rw [HSU.out, List.length_append, List.length_replicate, HCL.out] at h1; omega)
                      have hE2 : E = 26 := by rw [← HEE.out]; exact (cpEw_26 HLE.out hTT.out).1
                      have HL2 := Lib.hid (show L = [] by rw [← HLL.out]; exact (cpEw_26 HLE.out hTT.out).2)
                      subst hE2
                      clear hful
                      go_wp2
                      go_ret2
                      refine ⟨.slice none 0 0, rfl, ?_, HBq.out⟩
                      rw [HL2.out]
                      exact Slc.nil _ _
                    · have hfi : ¬ (most : Int) ≤ ((B + i : Nat) : Int) := by omega
                      have hop : ∀ t w, (binOp .add t (.float .f64 (floatOfInt .f64 (i : Int))) (.float .f64 4607182418800017408)).run Tryd.prog w = .ok (.float .f64 (floatOfInt .f64 ((i + 1 : Nat) : Int))) w := fun t w => run_float_arith w .add t .f64 _ _ _ (fl_succ i (by omega))
                      obtain ⟨W4, hW4⟩ : ∃ W4, W4 = wr.alloc (.cells #[.int .i64 ((k : Int))] 3) := ⟨_, rfl⟩
                      have HB4 := Lib.hid (show Below w.heap.size w W4 by rw [hW4]; exact HBq.out.alloc hsz _)
                      have HO4 := Lib.hid (show W4.ownsRow w.heap.size 3 1 (.slice vo (B + i) vc) (B + i) (ints (C ++ List.replicate i ((k : Int)))) by rw [hW4]; exact HOq.out.alloc _)
                      have HN4 := Lib.hid (show ∀ j u, ([.int .i64 ((k : Int))] : List Value)[j]? = some u → W4.cell? ((⟨wr.heap.size, 0, none⟩ : Addr).add j) = some u by rw [hW4]; exact cell_one_newp _ _ _)
                      have HSZ4 := Lib.hid HB4.out.size
                      have HM1 := Lib.hid (show B + i + 1 ≤ maxLen by unfold maxLen; omega)
                      have HM2 := Lib.hid (show (B + i + 1) * 8 ≤ 140737488355328 by omega)
                      have hfold4 := hW4.symm
                      clear hW4
                      go_wp2_with (at_builtin; refine wpList_append_own _ rfl _ _ 30 rfl w.heap.size 3 i0 (.int .i64 0) 1 8 Tryd.underlying30 HI0.out.1 HI0.out.2.1 HI0.out.2.2.1 HI0.out.2.2.2 rfl (by decide) _ _ _ rfl HO4.out ⟨wr.heap.size, 0, none⟩ 1 1 [.int .i64 ((k : Int))] rfl rfl HN4.out (one_intp _) HM1.out HM2.out HSZ4.out ?_)
                      intro v' w1 hown' hgrow _
                      have HO1 := Lib.hid hown'
                      have HB1 := Lib.hid (grown_below HB4.out HO4.out (Nat.le_refl _) HSZ4.out hgrow)
                      clear hown' hgrow hfold4
                      go_wp2
                      go_roundw
                      case rel =>
                        refine ⟨i + 1, by omega, by rfl, ?_, by omega, HB1.out⟩
                        have := HO1.out
                        rw [show ints (C ++ List.replicate (i + 1) ((k : Int))) = ints (C ++ List.replicate i ((k : Int))) ++ [.int .i64 ((k : Int))] by simp [ints, List.replicate_succ']]
                        exact this
                      case measure => obtain ⟨vo2, vc2, rfl⟩ := owns_form HO1.out; simp [lenV]; omega
                  · have hiq : i = q := by omega
                    have hord := hcmp.2.1 (by omega)
                    have HIQ := Lib.hid hiq
                    clear hcmp hiq
                    go_wp2
                    go_roundw
                    case rel =>
                      refine ⟨k + 1, by omega, by go_num, ?_, ?_, HBq.out⟩
                      · rw [HSU.out, List.length_append, List.length_replicate, HCL.out, ← HIQ.out]
                        exact HOq.out
                      · rw [HSU.out, List.length_append, List.length_replicate, HCL.out, ← HIQ.out]
                        exact HIM.out
                    case measure => simp [intOf]; omega
          · have hkl : k = n := by omega
            have hkn : ¬ (k : Int) < (n : Int) := by omega
            rw [hkl] at HFI
            have hE2 : E = 0 := by rw [← HEE.out]; exact (cpEw_0 HLE.out HFI.out).1
            have HL2 := Lib.hid (show L = cpTo (cpS (t.map wnOf) n) n by rw [← HLL.out]; exact (cpEw_0 HLE.out HFI.out).2)
            subst hE2
            have HK := Lib.hid hkl
            clear hkl
            go_wp2
            go_ret2
            refine ⟨.slice vo (cpTo (cpS (t.map wnOf) n) k).length vc, rfl, ?_, HB.out⟩
            rw [HL2.out]
            have := (Slc.owned HO.out).any
            rw [HK.out] at this ⊢
            exact this
      · have hb1 : ((t.length : Int) != (n : Int)) = true := by simp; omega
        by_cases hl1 : t.length = 1
        · have hb2 : ((t.length : Int) != 1) = false := by simp; omega
          have HLE := Lib.hid (show (t.map wnOf).length = n ∨ (t.map wnOf).length = 1 by rw [HTL.out]; omega)
          have HLN := Lib.hid (show t.length = n ∨ t.length = 1 by omega)
          have HL1 := Lib.hid hl1
          clear hln hl1
          go_wp2_with fail
          go_loopw [9, 10] (fun v i wr => ∃ k : Nat, k ≤ n ∧ i = .int .i64 k ∧ wr.ownsRow w.heap.size 3 1 v (cpTo (cpS (t.map wnOf) n) k).length (ints (cpTo (cpS (t.map wnOf) n) k)) ∧ (cpTo (cpS (t.map wnOf) n) k).length ≤ most ∧ Below w.heap.size w wr) (fun _ i _ => n - (intOf i).toNat)
          case atStart => exact ⟨0, by omega, rfl, World.ownsRow_nil _ _ _ _, Nat.zero_le _, Below.refl _ _⟩
          case round =>
            obtain ⟨k, hk, rfl, hown, hfi, hB⟩ := hrel
            obtain ⟨vo, vc, rfl⟩ := owns_form hown
            have HO := Lib.hid hown
            have HB := Lib.hid hB
            have HFI := Lib.hid hfi
            clear hown hB
            by_cases hlt : k < n
            · obtain ⟨C, hC⟩ : ∃ C, cpTo (cpS (t.map wnOf) n) k = C := ⟨_, rfl⟩
              have HCC := Lib.hid hC
              rw [hC] at HO hfi
              obtain ⟨B, hB9⟩ : ∃ B, C.length = B := ⟨_, rfl⟩
              have HCL := Lib.hid hB9
              rw [hB9] at HO hfi
              rw [hC, hB9]
              clear hC hB9 HFI
              have ht0 : 0 < t.length := by have := HLN.out; omega
              obtain ⟨b, off, cap1, x0, e, hx0, c0⟩ := Slc.at_map (Value.float .f64) (HV.out.below HB.out) 0 ht0
              cases e
              have c00 : wr.cell? ⟨b, off, none⟩ = some (.float .f64 x0) := c0
              have h1 : ¬ (1 : Int) < (t.length : Int) := by have := HL1.out; omega
              obtain ⟨x, hxx⟩ : ∃ x, x = x0 := ⟨_, rfl⟩
              rw [← hxx] at hx0 c0 c00
              clear hxx
              have hx := hx0
              have HGD := Lib.hid (show (cpS (t.map wnOf) n).getD k 0 = wnOf x by rw [cpS_get hlt HLE.out, if_neg (by rw [HTL.out]; have := h1; omega)]; exact getD_wn hx0)
              clear hx0
              have hq0 : Wh x (wnOf x) := by obtain ⟨m9, hm9⟩ := HW.out x (mem_nat hx); rw [wnOf_wh hm9]; exact hm9
              obtain ⟨m, hm⟩ : ∃ m, wnOf x = m := ⟨_, rfl⟩
              rw [hm] at hq0 HGD
              obtain ⟨q, hq⟩ : ∃ q : Nat, m.natAbs = q := ⟨_, rfl⟩
              have hqb : q ≤ 9007199254740992 := by have := hq0.2.1; omega
              have HXN := Lib.hid (HNM.out x (mem_nat hx))
              have HWX := Lib.hid hq0
              have hc3 := wh_cmp hq0 wh_zero
              have HS2 := Lib.hid (show cpTo (cpS (t.map wnOf) n) (k + 1) = C ++ cpR m k by rw [cpTo_succ, HGD.out, HCC.out])
              clear hx hm hq0
              rcases Int.lt_trichotomy m 0 with h3 | h3 | h3
              · have hsg := hc3.1 h3
                obtain ⟨z, hz, hwz⟩ := wh_neg HXN.out HWX.out
                have hsb : ∀ t w, (binOp .sub t (.float .f64 0) (.float .f64 x)).run Tryd.prog w = .ok (.float .f64 z) w := fun t w => run_float_arith w .sub t .f64 _ _ _ hz
                have HZ := Lib.hid (show Wh z (q : Int) by rw [show (q : Int) = -m by omega]; exact hwz)
                have HSU := Lib.hid (show cpTo (cpS (t.map wnOf) n) (k + 1) = C ++ List.replicate q (-1) by rw [HS2.out]; unfold cpR; rw [hq, if_pos h3])
                clear hc3 hz hwz
                go_wp2_with fail
                go_loopw [9, 13] (fun v j wq => ∃ i : Nat, i ≤ q ∧ j = .float .f64 (floatOfInt .f64 (i : Int)) ∧ wq.ownsRow w.heap.size 3 1 v (B + i) (ints (C ++ List.replicate i (-1))) ∧ B + i ≤ most ∧ Below w.heap.size w wq) (fun v _ _ => most + 1 - lenV v)
                case atStart => exact ⟨0, by omega, by rw [fl_nought], by simpa using HO.out, by omega, HB.out⟩
                case round =>
                  obtain ⟨i, hi, rfl, hown, him, hBq⟩ := hrel
                  obtain ⟨vo, vc, rfl⟩ := owns_form hown
                  have HOq := Lib.hid hown
                  have HBq := Lib.hid hBq
                  have HIM := Lib.hid him
                  have hsz := hBq.size
                  have hcmp := wh_cmp (wh_nat i (by omega)) HZ.out
                  clear hown hBq
                  by_cases hit : i < q
                  · have hord := hcmp.1 (by omega)
                    clear hcmp
                    by_cases hful : most ≤ B + i
                    · have hfi : (most : Int) ≤ ((B + i : Nat) : Int) := by omega
                      have hTT := Lib.hid (show most < (cpTo (cpS (t.map wnOf) n) n).length by have h1 := cpTo_mono (cpS (t.map wnOf) n) (k := k + 1) (n := n) hlt; rw [HSU.out, List.length_append, List.length_replicate, HCL.out] at h1; omega)
                      have hE2 : E = 26 := by rw [← HEE.out]; exact (cpEw_26 HLE.out hTT.out).1
                      have HL2 := Lib.hid (show L = [] by rw [← HLL.out]; exact (cpEw_26 HLE.out hTT.out).2)
                      subst hE2
                      clear hful
                      go_wp2
                      go_ret2
                      refine ⟨.slice none 0 0, rfl, ?_, HBq.out⟩
                      rw [HL2.out]
                      exact Slc.nil _ _
                    · have hfi : ¬ (most : Int) ≤ ((B + i : Nat) : Int) := by omega
                      have hop : ∀ t w, (binOp .add t (.float .f64 (floatOfInt .f64 (i : Int))) (.float .f64 4607182418800017408)).run Tryd.prog w = .ok (.float .f64 (floatOfInt .f64 ((i + 1 : Nat) : Int))) w := fun t w => run_float_arith w .add t .f64 _ _ _ (fl_succ i (by omega))
                      obtain ⟨W4, hW4⟩ : ∃ W4, W4 = wr.alloc (.cells #[.int .i64 (-1)] 3) := ⟨_, rfl⟩
                      have HB4 := Lib.hid (show Below w.heap.size w W4 by rw [hW4]; exact HBq.out.alloc hsz _)
                      have HO4 := Lib.hid (show W4.ownsRow w.heap.size 3 1 (.slice vo (B + i) vc) (B + i) (ints (C ++ List.replicate i (-1))) by rw [hW4]; exact HOq.out.alloc _)
                      have HN4 := Lib.hid (show ∀ j u, ([.int .i64 (-1)] : List Value)[j]? = some u → W4.cell? ((⟨wr.heap.size, 0, none⟩ : Addr).add j) = some u by rw [hW4]; exact cell_one_newp _ _ _)
                      have HSZ4 := Lib.hid HB4.out.size
                      have HM1 := Lib.hid (show B + i + 1 ≤ maxLen by unfold maxLen; omega)
                      have HM2 := Lib.hid (show (B + i + 1) * 8 ≤ 140737488355328 by omega)
                      have hfold4 := hW4.symm
                      clear hW4
                      go_wp2_with (at_builtin; refine wpList_append_own _ rfl _ _ 30 rfl w.heap.size 3 i0 (.int .i64 0) 1 8 Tryd.underlying30 HI0.out.1 HI0.out.2.1 HI0.out.2.2.1 HI0.out.2.2.2 rfl (by decide) _ _ _ rfl HO4.out ⟨wr.heap.size, 0, none⟩ 1 1 [.int .i64 (-1)] rfl rfl HN4.out (one_intp _) HM1.out HM2.out HSZ4.out ?_)
                      intro v' w1 hown' hgrow _
                      have HO1 := Lib.hid hown'
                      have HB1 := Lib.hid (grown_below HB4.out HO4.out (Nat.le_refl _) HSZ4.out hgrow)
                      clear hown' hgrow hfold4
                      go_wp2
                      go_roundw
                      case rel =>
                        refine ⟨i + 1, by omega, by rfl, ?_, by omega, HB1.out⟩
                        have := HO1.out
                        rw [show ints (C ++ List.replicate (i + 1) (-1)) = ints (C ++ List.replicate i (-1)) ++ [.int .i64 (-1)] by simp [ints, List.replicate_succ']]
                        exact this
                      case measure => obtain ⟨vo2, vc2, rfl⟩ := owns_form HO1.out; simp [lenV]; omega
                  · have hiq : i = q := by omega
                    have hord := hcmp.2.1 (by omega)
                    have HIQ := Lib.hid hiq
                    clear hcmp hiq
                    go_wp2
                    go_roundw
                    case rel =>
                      refine ⟨k + 1, by omega, by go_num, ?_, ?_, HBq.out⟩
                      · rw [HSU.out, List.length_append, List.length_replicate, HCL.out, ← HIQ.out]
                        exact HOq.out
                      · rw [HSU.out, List.length_append, List.length_replicate, HCL.out, ← HIQ.out]
                        exact HIM.out
                    case measure => simp [intOf]; omega
              · have hsg := hc3.2.1 h3
                have HZ := Lib.hid (show Wh x (q : Int) by rw [show (q : Int) = m by omega]; exact HWX.out)
                have HSU := Lib.hid (show cpTo (cpS (t.map wnOf) n) (k + 1) = C ++ List.replicate q (k : Int) by rw [HS2.out]; unfold cpR; rw [hq, if_neg (by omega)])
                clear hc3
                go_wp2_with fail
                go_loopw [9, 13] (fun v j wq => ∃ i : Nat, i ≤ q ∧ j = .float .f64 (floatOfInt .f64 (i : Int)) ∧ wq.ownsRow w.heap.size 3 1 v (B + i) (ints (C ++ List.replicate i ((k : Int)))) ∧ B + i ≤ most ∧ Below w.heap.size w wq) (fun v _ _ => most + 1 - lenV v)
                case atStart => exact ⟨0, by omega, by rw [fl_nought], by simpa using HO.out, by omega, HB.out⟩
                case round =>
                  obtain ⟨i, hi, rfl, hown, him, hBq⟩ := hrel
                  obtain ⟨vo, vc, rfl⟩ := owns_form hown
                  have HOq := Lib.hid hown
                  have HBq := Lib.hid hBq
                  have HIM := Lib.hid him
                  have hsz := hBq.size
                  have hcmp := wh_cmp (wh_nat i (by omega)) HZ.out
                  clear hown hBq
                  by_cases hit : i < q
                  · exact absurd hit (by omega)
                  · have hiq : i = q := by omega
                    have hord := hcmp.2.1 (by omega)
                    have HIQ := Lib.hid hiq
                    clear hcmp hiq
                    go_wp2
                    go_roundw
                    case rel =>
                      refine ⟨k + 1, by omega, by go_num, ?_, ?_, HBq.out⟩
                      · rw [HSU.out, List.length_append, List.length_replicate, HCL.out, ← HIQ.out]
                        exact HOq.out
                      · rw [HSU.out, List.length_append, List.length_replicate, HCL.out, ← HIQ.out]
                        exact HIM.out
                    case measure => simp [intOf]; omega
              · have hsg := hc3.2.2 h3
                have HZ := Lib.hid (show Wh x (q : Int) by rw [show (q : Int) = m by omega]; exact HWX.out)
                have HSU := Lib.hid (show cpTo (cpS (t.map wnOf) n) (k + 1) = C ++ List.replicate q (k : Int) by rw [HS2.out]; unfold cpR; rw [hq, if_neg (by omega)])
                clear hc3
                go_wp2_with fail
                go_loopw [9, 13] (fun v j wq => ∃ i : Nat, i ≤ q ∧ j = .float .f64 (floatOfInt .f64 (i : Int)) ∧ wq.ownsRow w.heap.size 3 1 v (B + i) (ints (C ++ List.replicate i ((k : Int)))) ∧ B + i ≤ most ∧ Below w.heap.size w wq) (fun v _ _ => most + 1 - lenV v)
                case atStart => exact ⟨0, by omega, by rw [fl_nought], by simpa using HO.out, by omega, HB.out⟩
                case round =>
                  obtain ⟨i, hi, rfl, hown, him, hBq⟩ := hrel
                  obtain ⟨vo, vc, rfl⟩ := owns_form hown
                  have HOq := Lib.hid hown
                  have HBq := Lib.hid hBq
                  have HIM := Lib.hid him
                  have hsz := hBq.size
                  have hcmp := wh_cmp (wh_nat i (by omega)) HZ.out
                  clear hown hBq
                  by_cases hit : i < q
                  · have hord := hcmp.1 (by omega)
                    clear hcmp
                    by_cases hful : most ≤ B + i
                    · have hfi : (most : Int) ≤ ((B + i : Nat) : Int) := by omega
                      have hTT := Lib.hid (show most < (cpTo (cpS (t.map wnOf) n) n).length by have h1 := cpTo_mono (cpS (t.map wnOf) n) (k := k + 1) (n := n) hlt; rw [HSU.out, List.length_append, List.length_replicate, HCL.out] at h1; omega)
                      have hE2 : E = 26 := by rw [← HEE.out]; exact (cpEw_26 HLE.out hTT.out).1
                      have HL2 := Lib.hid (show L = [] by rw [← HLL.out]; exact (cpEw_26 HLE.out hTT.out).2)
                      subst hE2
                      clear hful
                      go_wp2
                      go_ret2
                      refine ⟨.slice none 0 0, rfl, ?_, HBq.out⟩
                      rw [HL2.out]
                      exact Slc.nil _ _
                    · have hfi : ¬ (most : Int) ≤ ((B + i : Nat) : Int) := by omega
                      have hop : ∀ t w, (binOp .add t (.float .f64 (floatOfInt .f64 (i : Int))) (.float .f64 4607182418800017408)).run Tryd.prog w = .ok (.float .f64 (floatOfInt .f64 ((i + 1 : Nat) : Int))) w := fun t w => run_float_arith w .add t .f64 _ _ _ (fl_succ i (by omega))
                      obtain ⟨W4, hW4⟩ : ∃ W4, W4 = wr.alloc (.cells #[.int .i64 ((k : Int))] 3) := ⟨_, rfl⟩
                      have HB4 := Lib.hid (show Below w.heap.size w W4 by rw [hW4]; exact HBq.out.alloc hsz _)
                      have HO4 := Lib.hid (show W4.ownsRow w.heap.size 3 1 (.slice vo (B + i) vc) (B + i) (ints (C ++ List.replicate i ((k : Int)))) by rw [hW4]; exact HOq.out.alloc _)
                      have HN4 := Lib.hid (show ∀ j u, ([.int .i64 ((k : Int))] : List Value)[j]? = some u → W4.cell? ((⟨wr.heap.size, 0, none⟩ : Addr).add j) = some u by rw [hW4]; exact cell_one_newp _ _ _)
                      have HSZ4 := Lib.hid HB4.out.size
                      have HM1 := Lib.hid (show B + i + 1 ≤ maxLen by unfold maxLen; omega)
                      have HM2 := Lib.hid (show (B + i + 1) * 8 ≤ 140737488355328 by omega)
                      have hfold4 := hW4.symm
                      clear hW4
                      go_wp2_with (at_builtin; refine wpList_append_own _ rfl _ _ 30 rfl w.heap.size 3 i0 (.int .i64 0) 1 8 Tryd.underlying30 HI0.out.1 HI0.out.2.1 HI0.out.2.2.1 HI0.out.2.2.2 rfl (by decide) _ _ _ rfl HO4.out ⟨wr.heap.size, 0, none⟩ 1 1 [.int .i64 ((k : Int))] rfl rfl HN4.out (one_intp _) HM1.out HM2.out HSZ4.out ?_)
                      intro v' w1 hown' hgrow _
                      have HO1 := Lib.hid hown'
                      have HB1 := Lib.hid (grown_below HB4.out HO4.out (Nat.le_refl _) HSZ4.out hgrow)
                      clear hown' hgrow hfold4
                      go_wp2
                      go_roundw
                      case rel =>
                        refine ⟨i + 1, by omega, by rfl, ?_, by omega, HB1.out⟩
                        have := HO1.out
                        rw [show ints (C ++ List.replicate (i + 1) ((k : Int))) = ints (C ++ List.replicate i ((k : Int))) ++ [.int .i64 ((k : Int))] by simp [ints, List.replicate_succ']]
                        exact this
                      case measure => obtain ⟨vo2, vc2, rfl⟩ := owns_form HO1.out; simp [lenV]; omega
                  · have hiq : i = q := by omega
                    have hord := hcmp.2.1 (by omega)
                    have HIQ := Lib.hid hiq
                    clear hcmp hiq
                    go_wp2
                    go_roundw
                    case rel =>
                      refine ⟨k + 1, by omega, by go_num, ?_, ?_, HBq.out⟩
                      · rw [HSU.out, List.length_append, List.length_replicate, HCL.out, ← HIQ.out]
                        exact HOq.out
                      · rw [HSU.out, List.length_append, List.length_replicate, HCL.out, ← HIQ.out]
                        exact HIM.out
                    case measure => simp [intOf]; omega
            · have hkl : k = n := by omega
              have hkn : ¬ (k : Int) < (n : Int) := by omega
              rw [hkl] at HFI
              have hE2 : E = 0 := by rw [← HEE.out]; exact (cpEw_0 HLE.out HFI.out).1
              have HL2 := Lib.hid (show L = cpTo (cpS (t.map wnOf) n) n by rw [← HLL.out]; exact (cpEw_0 HLE.out HFI.out).2)
              subst hE2
              have HK := Lib.hid hkl
              clear hkl
              go_wp2
              go_ret2
              refine ⟨.slice vo (cpTo (cpS (t.map wnOf) n) k).length vc, rfl, ?_, HB.out⟩
              rw [HL2.out]
              have := (Slc.owned HO.out).any
              rw [HK.out] at this ⊢
              exact this
        · have hb2 : ((t.length : Int) != 1) = true := by simp; omega
          have HLE := Lib.hid (show ¬ ((t.map wnOf).length = n ∨ (t.map wnOf).length = 1) by rw [HTL.out]; omega)
          have hE2 : E = 23 := by rw [← HEE.out]; exact (cpEw_23 HLE.out).1
          have HL2 := Lib.hid (show L = [] by rw [← HLL.out]; exact (cpEw_23 HLE.out).2)
          subst hE2
          go_wp2
          go_ret2
          refine ⟨.slice none 0 0, rfl, ?_, Below.refl _ _⟩
          rw [HL2.out]
          exact Slc.nil _ _
end Go.Proofs.YtpcighgflolojaaDoor

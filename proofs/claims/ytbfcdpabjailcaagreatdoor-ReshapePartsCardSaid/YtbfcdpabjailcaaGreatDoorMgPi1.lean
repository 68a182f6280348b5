/- Merged: PiM, PiN, PiA, PiW, PiG. -/
import Derived.Test.YtbfcdpabjailcaaGreatDoorMgVe1
import Derived.Test.YtbfcdpabjailcaaGreatDoorMgNu1
import Derived.Test.YtbfcdpabjailcaaGreatDoorMgSq1
import Derived.Test.YtbfcdpabjailcaaGreatDoorMgBv1
import Derived.Test.YtbfcdpabjailcaaGreatDoorMgFo1
import Derived.Test.YtbfcdpabjailcaaGreatDoorMgVa1
import Derived.Test.YtbfcdpabjailcaaGreatDoorMgFl1
/- Layer 15, plain: places that are turned, taken, dropped, copied, and picked along an axis. -/
namespace Go.Proofs.YtbfcdpabjailcaaGreatDoor
set_option maxRecDepth 100000
open Go.RowKit Fl
set_option linter.unusedVariables false

/-- What Taken tells: from the first place on, or up to the last one. -/
def takA (n : Nat) (many : Int) : Int := if many < 0 then (n : Int) + many else 0
def takF (n : Nat) (many : Int) (i : Nat) : Int := if 0 ≤ takA n many + (i : Int) ∧ takA n many + (i : Int) < n then takA n many + (i : Int) else -1
def takL (n : Nat) (many : Int) : List Int := (List.range many.natAbs).map (takF n many)
theorem tak_len (n : Nat) (many : Int) : (takL n many).length = many.natAbs := by simp [takL]
end Go.Proofs.YtbfcdpabjailcaaGreatDoor

/- Layer 15, plain: the whole numbers of a squeezed vector. -/
namespace Go.Proofs.YtbfcdpabjailcaaGreatDoor
set_option maxRecDepth 100000
open Go.RowKit Fl
set_option linter.unusedVariables false

theorem wn_flag (b : Bool) : Wh (flagW b) (flagZ b) := by
  cases b
  · exact wh_ofInt (by decide) (by decide +kernel)
  · exact wh_ofInt (by decide) (by decide +kernel)
theorem VV.wh_nums {V : VV} (hok : V.ok) (hn : V.nm) (h : V.isWh = true) : V.whs = V.nums.map wnOf ∧ (∀ x ∈ V.nums, ∃ n, Wh x n) ∧ ∀ z ∈ V.whs, z.natAbs ≤ 9007199254740992 := by
  have key : ∀ l : List Int, (∀ z ∈ l, z.natAbs ≤ 9007199254740992) → l = (l.map (floatOfInt .f64)).map wnOf ∧ ∀ x ∈ l.map (floatOfInt .f64), ∃ n, Wh x n := by
    intro l hl
    refine ⟨?_, ?_⟩
    · rw [List.map_map]
      conv => lhs; rw [← List.map_id l]
      exact List.map_congr_left (fun z hz => (wnOf_wh (wh_ofInt (hl z hz) rfl)).symm)
    · intro x hx
      obtain ⟨z, hz, rfl⟩ := List.mem_map.1 hx
      exact ⟨z, wh_ofInt (hl z hz) rfl⟩
  cases V with
  | bits l =>
    refine ⟨?_, ?_, ?_⟩
    · show l.map flagZ = (l.map flagW).map wnOf
      rw [List.map_map]
      exact List.map_congr_left (fun b _ => (wnOf_wh (wn_flag b)).symm)
    · intro x hx
      obtain ⟨b, _, rfl⟩ := List.mem_map.1 hx
      exact ⟨_, wn_flag b⟩
    · intro z hz
      obtain ⟨b, _, rfl⟩ := List.mem_map.1 hz
      cases b <;> decide
  | smalls l =>
    have hb : ∀ z ∈ l, z.natAbs ≤ 9007199254740992 := fun z hz => by have := hok.2 z hz; omega
    exact ⟨(key l hb).1, (key l hb).2, hb⟩
  | ints l =>
    have hb : ∀ z ∈ l, z.natAbs ≤ 9007199254740992 := fun z hz => by have := sm_of (hn z hz); omega
    exact ⟨(key l hb).1, (key l hb).2, hb⟩
  | none => simp [VV.isWh] at h
  | floats l => simp [VV.isWh] at h
  | chars l => simp [VV.isWh] at h
  | boxes l => simp [VV.isWh] at h
theorem sq_yes {t : List Nat} (hl : t.length ≤ 1048576) (hN : ∀ x ∈ t, Num x) (h : ∀ x ∈ t, ∃ n, Wh x n) : (VV.floats t).sq.isWh = true ∧ (VV.floats t).sq.whs = t.map wnOf ∧ ∀ z ∈ (VV.floats t).sq.whs, z.natAbs ≤ 9007199254740992 := by
  obtain ⟨s1, s2, s3, s4, s5, s6⟩ := VV.sq_spec (V := VV.floats t) hl hN
  have hk := VV.sq_kind (V := VV.floats t) hl hN rfl
  have h3 : leastW t ≤ 3 := leastW_all (by decide) (fun x hx => by obtain ⟨n, hn⟩ := h x hx; rw [kindW_wh hn]; exact (kindZ_le n).2)
  have h1 := (leastW_le t).1
  have hw : (VV.floats t).sq.isWh = true := by
    have e : (VV.floats t).sq.kind = (leastW t : Int) := hk
    have c : (VV.floats t).sq.cls = 0 := s3
    revert e c
    cases (VV.floats t).sq <;> intro e c <;> first | rfl | (simp [VV.kind] at e; omega) | (simp [VV.cls] at c)
  obtain ⟨a, _, b⟩ := VV.wh_nums s4 s5 hw
  exact ⟨hw, by rw [a, s2]; rfl, b⟩
end Go.Proofs.YtbfcdpabjailcaaGreatDoor

/- Layer 15, walked: has, size, Rolled, Taken, Dropped, the program's and the reference's. -/
namespace Go.Proofs.YtbfcdpabjailcaaGreatDoor
set_option maxRecDepth 100000
open Go.RowKit Fl
set_option linter.unusedVariables false

theorem info_int3 : (Tryz.prog.info? 3).map (fun i => (i.zero, i.size, i.bytes)) = some (some (.int .i64 0), 1, 8) := by kernel_rfl
theorem run_mkI3 (n : Nat) (hn : n ≤ 2000000) (w : World) : (Instr.makeSlice 22 (.int .i64 (n : Int)) (.int .i64 (n : Int))).run Tryz.prog w = .ok (.slice (some ⟨w.heap.size, 0, none⟩) n n) (w.alloc (.cells (zerosV (.int .i64 0) n) 3)) := by
  obtain ⟨i0, hi, hz0, hz1, hz2⟩ := info_parts info_int3
  have hr := run_make (P := Tryz.prog) w 22 3 i0 _ Tryz.underlying22 hi hz0 .i64 .i64 n n (by omega) (Int.le_refl _) (by rw [hz2]; omega) (by omega)
  simp only [Int.toNat_natCast, hz1] at hr
  exact hr
theorem cell_one_newp (w : World) (x : Value) (t : TypeId) : ∀ (j : Nat) (u : Value), ([x] : List Value)[j]? = some u → (w.alloc (.cells #[x] t)).cell? ((⟨w.heap.size, 0, none⟩ : Addr).add j) = some u := by
  intro j u hj
  match j, hj with
  | 0, hj => simp at hj; subst hj; simp [Addr.add]
theorem one_intp (z : Int) : ∀ u ∈ ([.int .i64 z] : List Value), u.oneCell' = true := by intro u hu; simp at hu; subst hu; rfl
theorem phas_yes (n p : Int) (w : World) (h1 : 0 ≤ p) (h2 : p < n) : Calls Tryz.prog 95 #[.int .i64 n, .int .i64 p] w fun e w' => e = .returned (.bool true) ∧ w = w' := by
  go_enter Tryz.func95, Tryz.ntmps95
  go_wp2
  go_ret
  exact ⟨rfl, rfl⟩
theorem phas_no (n p : Int) (w : World) (h : ¬ (0 ≤ p ∧ p < n)) : Calls Tryz.prog 95 #[.int .i64 n, .int .i64 p] w fun e w' => e = .returned (.bool false) ∧ w = w' := by
  by_cases h1 : 0 ≤ p
  · have h2 : ¬ p < n := by omega
    clear h
    go_enter Tryz.func95, Tryz.ntmps95
    go_wp2
    go_ret
    exact ⟨rfl, rfl⟩
  · clear h
    go_enter Tryz.func95, Tryz.ntmps95
    go_wp2
    go_ret
    exact ⟨rfl, rfl⟩
theorem psize_calls (n : Int) (w : World) (h : -9223372036854775808 < n) (h2 : n ≤ 9223372036854775807) : Calls Tryz.prog 94 #[.int .i64 n] w fun e w' => e = .returned (.int .i64 (n.natAbs : Int)) ∧ w = w' := by
  by_cases h0 : n < 0
  · have h1 : n < -n := by omega
    have e : ((n.natAbs : Nat) : Int) = -n := by omega
    rw [e]
    go_enter Tryz.func94, Tryz.ntmps94
    go_wp2
    go_ret
    exact ⟨rfl, rfl⟩
  · have h1 : ¬ n < -n := by omega
    have e : ((n.natAbs : Nat) : Int) = n := by omega
    rw [e]
    go_enter Tryz.func94, Tryz.ntmps94
    go_wp2
    go_ret
    exact ⟨rfl, rfl⟩

set_option maxHeartbeats 4000000 in
theorem ptaken_own (n : Nat) (many : Int) (most : Nat) (w : World) (hn : n ≤ 1048576) (hm : many.natAbs ≤ most) (hmo : most ≤ 1048576) :
    Calls Tryz.prog 61 #[.int .i64 (n : Int), .int .i64 many, .int .i64 (most : Int)] w fun e w' => e = .returned (.tuple #[.slice (some ⟨w.heap.size, 0, none⟩) many.natAbs many.natAbs, .bool true]) ∧ w'.ownsRow w.heap.size 3 1 (.slice (some ⟨w.heap.size, 0, none⟩) many.natAbs many.natAbs) many.natAbs (ints (takL n many)) ∧ Below w.heap.size w w' := by
  obtain ⟨q, hq⟩ : ∃ q : Nat, many.natAbs = q := ⟨_, rfl⟩
  rw [hq]
  have h9 : ¬ (1048576 : Int) < (most : Int) := by omega
  have h1 : ¬ (most : Int) < 0 := by omega
  have h2 : ¬ (most : Int) < many := by omega
  have h3 : ¬ many < -(most : Int) := by omega
  by_cases hneg : many < 0
  · obtain ⟨f, hf⟩ : ∃ f, (n : Int) + many = f := ⟨_, rfl⟩
    have hf1 : -1048576 ≤ f := by omega
    have hf2 : f < (n : Int) := by omega
    have HF := Lib.hid (show ∀ k : Nat, takF n many k = if 0 ≤ f + (k : Int) ∧ f + (k : Int) < n then f + (k : Int) else -1 from fun k => by unfold takF; rw [show takA n many = f by rw [← hf]; exact if_pos hneg])
    obtain ⟨xs, hxs⟩ : ∃ xs : List Value, xs = ints (takL n many) := ⟨_, rfl⟩
    have hxl : xs.length = many.natAbs := by rw [hxs]; simp [ints, takL]
    have hget : ∀ k (h : k < xs.length), xs[k]'h = .int .i64 (takF n many k) := by intro k h; simp [hxs, ints, takL]
    rw [← hxs]
    have HX := Lib.hid hget
    rw [hq] at hxl
    have HXL := Lib.hid hxl
    have hmk := run_mkI3 q (by omega) w
    clear hxs hget hxl
    obtain ⟨W0, hW0⟩ : ∃ W0, W0 = w.alloc (.cells (zerosV (.int .i64 0) q) 3) := ⟨_, rfl⟩
    have HO0 : Hid (W0.ownsRow w.heap.size 3 1 (.slice (some ⟨w.heap.size, 0, none⟩) q q) q (List.replicate q (.int .i64 0))) := Lib.hid (by rw [hW0]; exact own_make1 _ _ _ (by omega) _ _ (Nat.le_refl _))
    have HW := Lib.hid (show Below w.heap.size w W0 by rw [hW0]; exact below_new _ _)
    go_enter Tryz.func61, Tryz.ntmps61
    go_wp2_with fail
    refine (psize_calls many _ (by omega) (by omega)).mono ?_
    rintro e w1 ⟨rfl, rfl⟩
    rw [hq]
    go_wp2_with fail
    rw [← hW0]
    clear hW0 hmk
    go_loopw [37] (fun i wr => ∃ k : Nat, k ≤ q ∧ i = .int .i64 k ∧ wr.ownsRow w.heap.size 3 1 (.slice (some ⟨w.heap.size, 0, none⟩) q q) q (fillTo xs (.int .i64 0) k) ∧ W0.grownBy wr (some w.heap.size)) (fun i _ => q - (intOf i).toNat)
    case atStart => exact ⟨0, by omega, rfl, by rw [fillTo_zero, HXL.out]; exact HO0.out, grown_refl _ _⟩
    case round =>
      obtain ⟨k, hk, rfl, hown, hgr⟩ := hrel
      have HO := Lib.hid hown
      have HG := Lib.hid hgr
      have HB := Lib.hid (HW.out.grown hgr HW.out.size (fun j hj => by cases hj; omega))
      by_cases hlt : k < q
      · have hcw := owns_cell HO.out k (by rw [fillTo_len _ _ _ (by rw [HXL.out]; exact hk), HXL.out]; exact hlt)
        have hfr := World.ownsRow.frozenAt HO.out k
        have HXK := Lib.hid (HX.out k (by rw [HXL.out]; exact hlt))
        clear hown hgr
        by_cases hin : 0 ≤ f + (k : Int) ∧ f + (k : Int) < n
        · have hi1 := hin.1
          have hi2 := hin.2
          have HKF := Lib.hid ((HF.out k).trans (if_pos hin))
          go_wp2_with fail
          refine (phas_yes _ _ _ hi1 hi2).mono ?_
          rintro e w1 ⟨rfl, rfl⟩
          obtain ⟨W1, hW1⟩ : ∃ W1, wr.setCell ⟨w.heap.size, k, none⟩ (.int .i64 (-1)) = W1 := ⟨_, rfl⟩
          rw [hW1]
          have HO1 := Lib.hid (show W1.ownsRow w.heap.size 3 1 (.slice (some ⟨w.heap.size, 0, none⟩) q q) q ((fillTo xs (.int .i64 0) k).set k (.int .i64 (-1))) by rw [← hW1]; exact (World.ownsRow.stored HO.out k (.int .i64 (-1))).1)
          have HG1 := Lib.hid (show W0.grownBy W1 (some w.heap.size) by rw [← hW1]; exact grown_trans HG.out (grown_setCell _ ⟨w.heap.size, k, none⟩ _))
          clear hcw hfr hW1
          have hcw := owns_cell HO1.out k (by rw [List.length_set, fillTo_len _ _ _ (by rw [HXL.out]; exact hk), HXL.out]; exact hlt)
          have hfr := World.ownsRow.frozenAt HO1.out k
          go_wp2
          go_roundw
          case rel =>
            refine ⟨k + 1, by omega, by go_num, ?_, grown_trans HG1.out (grown_setCell _ ⟨w.heap.size, k, none⟩ _)⟩
            rw [HKF.out] at HXK
            have := (World.ownsRow.stored HO1.out k (.int .i64 (f + (k : Int)))).1
            rw [List.set_set, ← HXK.out, fillTo_set] at this
            rw [← HXK.out]
            exact this
          case measure => simp [intOf]; omega
        · have HKF := Lib.hid ((HF.out k).trans (if_neg hin))
          go_wp2_with fail
          refine (phas_no _ _ _ hin).mono ?_
          rintro e w1 ⟨rfl, rfl⟩
          go_wp2
          go_roundw
          case rel =>
            refine ⟨k + 1, by omega, by go_num, ?_, grown_trans HG.out (grown_setCell _ ⟨w.heap.size, k, none⟩ _)⟩
            rw [HKF.out] at HXK
            have := (World.ownsRow.stored HO.out k (.int .i64 (-1))).1
            rw [← HXK.out, fillTo_set] at this
            rw [← HXK.out]
            exact this
          case measure => simp [intOf]; omega
      · have hkl : k = q := by omega
        have HK := Lib.hid hkl
        clear hown hgr hkl
        go_wp2
        go_ret2
        refine ⟨rfl, ?_, HB.out⟩
        have := HO.out
        rwa [HK.out, ← HXL.out, fillTo_all, HXL.out] at this
  · have HF := Lib.hid (show ∀ k : Nat, takF n many k = if 0 ≤ (k : Int) ∧ (k : Int) < n then (k : Int) else -1 from fun k => by unfold takF; rw [show takA n many = 0 from if_neg hneg, Int.zero_add])
    obtain ⟨xs, hxs⟩ : ∃ xs : List Value, xs = ints (takL n many) := ⟨_, rfl⟩
    have hxl : xs.length = many.natAbs := by rw [hxs]; simp [ints, takL]
    have hget : ∀ k (h : k < xs.length), xs[k]'h = .int .i64 (takF n many k) := by intro k h; simp [hxs, ints, takL]
    rw [← hxs]
    have HX := Lib.hid hget
    rw [hq] at hxl
    have HXL := Lib.hid hxl
    have hmk := run_mkI3 q (by omega) w
    clear hxs hget hxl
    obtain ⟨W0, hW0⟩ : ∃ W0, W0 = w.alloc (.cells (zerosV (.int .i64 0) q) 3) := ⟨_, rfl⟩
    have HO0 : Hid (W0.ownsRow w.heap.size 3 1 (.slice (some ⟨w.heap.size, 0, none⟩) q q) q (List.replicate q (.int .i64 0))) := Lib.hid (by rw [hW0]; exact own_make1 _ _ _ (by omega) _ _ (Nat.le_refl _))
    have HW := Lib.hid (show Below w.heap.size w W0 by rw [hW0]; exact below_new _ _)
    go_enter Tryz.func61, Tryz.ntmps61
    go_wp2_with fail
    refine (psize_calls many _ (by omega) (by omega)).mono ?_
    rintro e w1 ⟨rfl, rfl⟩
    rw [hq]
    go_wp2_with fail
    rw [← hW0]
    clear hW0 hmk
    go_loopw [37] (fun i wr => ∃ k : Nat, k ≤ q ∧ i = .int .i64 k ∧ wr.ownsRow w.heap.size 3 1 (.slice (some ⟨w.heap.size, 0, none⟩) q q) q (fillTo xs (.int .i64 0) k) ∧ W0.grownBy wr (some w.heap.size)) (fun i _ => q - (intOf i).toNat)
    case atStart => exact ⟨0, by omega, rfl, by rw [fillTo_zero, HXL.out]; exact HO0.out, grown_refl _ _⟩
    case round =>
      obtain ⟨k, hk, rfl, hown, hgr⟩ := hrel
      have HO := Lib.hid hown
      have HG := Lib.hid hgr
      have HB := Lib.hid (HW.out.grown hgr HW.out.size (fun j hj => by cases hj; omega))
      by_cases hlt : k < q
      · have hcw := owns_cell HO.out k (by rw [fillTo_len _ _ _ (by rw [HXL.out]; exact hk), HXL.out]; exact hlt)
        have hfr := World.ownsRow.frozenAt HO.out k
        have HXK := Lib.hid (HX.out k (by rw [HXL.out]; exact hlt))
        clear hown hgr
        by_cases hin : 0 ≤ (k : Int) ∧ (k : Int) < n
        · have hi1 := hin.1
          have hi2 := hin.2
          have HKF := Lib.hid ((HF.out k).trans (if_pos hin))
          go_wp2_with fail
          refine (phas_yes _ _ _ hi1 hi2).mono ?_
          rintro e w1 ⟨rfl, rfl⟩
          obtain ⟨W1, hW1⟩ : ∃ W1, wr.setCell ⟨w.heap.size, k, none⟩ (.int .i64 (-1)) = W1 := ⟨_, rfl⟩
          rw [hW1]
          have HO1 := Lib.hid (show W1.ownsRow w.heap.size 3 1 (.slice (some ⟨w.heap.size, 0, none⟩) q q) q ((fillTo xs (.int .i64 0) k).set k (.int .i64 (-1))) by rw [← hW1]; exact (World.ownsRow.stored HO.out k (.int .i64 (-1))).1)
          have HG1 := Lib.hid (show W0.grownBy W1 (some w.heap.size) by rw [← hW1]; exact grown_trans HG.out (grown_setCell _ ⟨w.heap.size, k, none⟩ _))
          clear hcw hfr hW1
          have hcw := owns_cell HO1.out k (by rw [List.length_set, fillTo_len _ _ _ (by rw [HXL.out]; exact hk), HXL.out]; exact hlt)
          have hfr := World.ownsRow.frozenAt HO1.out k
          go_wp2
          go_roundw
          case rel =>
            refine ⟨k + 1, by omega, by go_num, ?_, grown_trans HG1.out (grown_setCell _ ⟨w.heap.size, k, none⟩ _)⟩
            rw [HKF.out] at HXK
            have := (World.ownsRow.stored HO1.out k (.int .i64 ((k : Int)))).1
            rw [List.set_set, ← HXK.out, fillTo_set] at this
            rw [← HXK.out]
            exact this
          case measure => simp [intOf]; omega
        · have HKF := Lib.hid ((HF.out k).trans (if_neg hin))
          go_wp2_with fail
          refine (phas_no _ _ _ hin).mono ?_
          rintro e w1 ⟨rfl, rfl⟩
          go_wp2
          go_roundw
          case rel =>
            refine ⟨k + 1, by omega, by go_num, ?_, grown_trans HG.out (grown_setCell _ ⟨w.heap.size, k, none⟩ _)⟩
            rw [HKF.out] at HXK
            have := (World.ownsRow.stored HO.out k (.int .i64 (-1))).1
            rw [← HXK.out, fillTo_set] at this
            rw [← HXK.out]
            exact this
          case measure => simp [intOf]; omega
      · have hkl : k = q := by omega
        have HK := Lib.hid hkl
        clear hown hgr hkl
        go_wp2
        go_ret2
        refine ⟨rfl, ?_, HB.out⟩
        have := HO.out
        rwa [HK.out, ← HXL.out, fillTo_all, HXL.out] at this
theorem ptaken_yes (n : Nat) (many : Int) (most : Nat) (w : World) (hn : n ≤ 1048576) (hm : many.natAbs ≤ most) (hmo : most ≤ 1048576) :
    Calls Tryz.prog 61 #[.int .i64 (n : Int), .int .i64 many, .int .i64 (most : Int)] w fun e w' => ∃ v, e = .returned (.tuple #[v, .bool true]) ∧ Slc w' (fun b => w.heap.size ≤ b) v (takL n many).length (ints (takL n many)) ∧ Below w.heap.size w w' := by
  refine (ptaken_own n many most w hn hm hmo).mono ?_
  rintro e w1 ⟨rfl, h, hB⟩
  exact ⟨_, rfl, by rw [tak_len]; exact Slc.owned h, hB⟩
end Go.Proofs.YtbfcdpabjailcaaGreatDoor

/- Layer 15, walked: slices.Repeat of one whole number. -/
namespace Go.Proofs.YtbfcdpabjailcaaGreatDoor
set_option maxRecDepth 100000
open Go.RowKit
set_option linter.unusedVariables false

/-- A row of c cells, the first n of them x. -/
def repI (x : Int) (c n : Nat) : List Value := List.replicate n (.int .i64 x) ++ List.replicate (c - n) (.int .i64 0)
theorem repI_len (x : Int) (c n : Nat) (h : n ≤ c) : (repI x c n).length = c := by simp [repI]; omega
theorem repI_full (x : Int) (c : Nat) : repI x c c = List.replicate c (.int .i64 x) := by simp [repI]
theorem repI_zero (x : Int) (c : Nat) : repI x c 0 = List.replicate c (.int .i64 0) := by simp [repI]
theorem repI_splice (x : Int) (c n k : Nat) (h : n + k ≤ c) : splice (repI x c n) n (List.replicate k (.int .i64 x)) = repI x c (n + k) := by
  unfold splice repI
  rw [List.take_left' (by simp), List.length_replicate, ← List.append_assoc, List.replicate_append_replicate, List.drop_append, List.drop_eq_nil_of_le (by simp), List.nil_append, List.drop_replicate]
  congr 2
  simp; omega
theorem repI_get (x : Int) (c n : Nat) {j : Nat} (hj : j < n) : (repI x c n)[j]? = some (.int .i64 x) := by
  unfold repI
  rw [List.getElem?_append_left (by simpa using hj), List.getElem?_replicate, if_pos hj]
end Go.Proofs.YtbfcdpabjailcaaGreatDoor

/- Layer 15: a part of a plain array. -/
namespace Go.Proofs.YtbfcdpabjailcaaGreatDoor
set_option maxRecDepth 100000
open Go.RowKit Fl
set_option linter.unusedVariables false

end Go.Proofs.YtbfcdpabjailcaaGreatDoor

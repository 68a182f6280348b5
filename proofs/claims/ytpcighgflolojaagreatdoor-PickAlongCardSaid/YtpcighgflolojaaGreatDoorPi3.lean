/- Layer 15's law: PickAlong. -/
import Derived.Test.YtpcighgflolojaaGreatDoorMgPi1
import Derived.Test.YtpcighgflolojaaGreatDoorMgFl1
import Derived.Test.YtpcighgflolojaaGreatDoorMgNu1
namespace Go.Proofs.YtpcighgflolojaaGreatDoor
set_option maxRecDepth 100000
open Go.RowKit Fl
set_option linter.unusedVariables false

theorem fld_its (x y z : Value) (w : World) : (Instr.field 25 (.agg #[x, y, z]) 1).run Tryz.prog w = .ok y w := by kernel_rfl
theorem kind_pos {V : VV} (h : V.kind ≠ 0) : 0 < V.kind := by cases V <;> first | exact absurd rfl h | simp [VV.kind]
theorem fld_vec (x y : Value) (w : World) : (Instr.field 33 (.agg #[x, y]) 1).run Tryz.prog w = .ok (.agg #[y]) w := by kernel_rfl
set_option maxHeartbeats 16000000 in
theorem pickAlong_walk (p : PA) (u : Value) (nd : Nat) (outer inner : Int) (v : Value) (at_ : List Int) (w : World) (hl : lo nd p) (hp : IsP w (fun _ => True) u p) (hv : Slc w (fun _ => True) v at_.length (ints at_)) (hm : at_.length ≤ maxLen)
    (hat2 : ∀ z ∈ at_, -9223372036854775808 ≤ z ∧ z ≤ 9223372036854775807) (hT : TabAt w) :
    Calls Tryz.prog 3 #[u, .int .i64 outer, .int .i64 inner, v] w (Yes15 w) := by
  have HP := Lib.hid hp
  have HVV := Lib.hid hv
  have HA8 := Lib.hid hat2
  obtain ⟨so, sc, io, ic, rfl, hs, hit⟩ := hp.opened
  obtain ⟨vo, vc, rfl, hvc, hvm, _⟩ := hv.opened
  have HLO := Lib.hid hl
  obtain ⟨W1, hW1⟩ : ∃ W1, W1 = w.alloc (.cells #[.slice so p.s.length sc, .slice io p.l.length ic, .int .i64 p.f] 25) := ⟨_, rfl⟩
  have HB := Lib.hid (show Below w.heap.size w W1 by rw [hW1]; exact below_new _ _)
  have HA := Lib.hid (show At3 W1 w.heap.size (.slice so p.s.length sc) (.slice io p.l.length ic) (.int .i64 p.f) by rw [hW1]; exact At3.new w _ _ _ _)
  have HI := Lib.hid (show IsP W1 (fun _ => True) _ p from HP.out.grow HB.out)
  have HIT := Lib.hid (show Its W1 (fun _ => True) (.slice io p.l.length ic) p.l from hit.grow HB.out)
  have HV := Lib.hid (show Slc W1 (fun _ => True) _ at_.length (ints at_) from HVV.out.below HB.out)
  have HT := Lib.hid (show TabAt W1 from fun j hj => keep_below HB.out _ _ (hT j hj))
  have hfold := hW1.symm
  clear hs hit hp hl hv hT hW1 hat2 HP HVV
  have cHA0 := HA.out.2.1
  have cHA1 := HA.out.2.2.1
  have cHA2 := HA.out.2.2.2.1
  go_enter Tryz.func3, Tryz.ntmps3
  go_wp2_with fail
  clear hfold
  refine (pcount_calls nd _ p _ _ _ HLO.out HI.out).mono ?_
  rintro e W11 ⟨cn, rfl, hB⟩
  clear cHA0 cHA1 cHA2
  replace HA := Lib.hid (HA.out.below hB)
  replace HB := Lib.hid (HB.out.trans (hB.mono HB.out.size))
  replace HI := Lib.hid (HI.out.grow hB)
  replace HIT := Lib.hid (HIT.out.grow hB)
  replace HV := Lib.hid (HV.out.below hB)
  replace HT := Lib.hid (fun j hj => keep_below hB _ _ (HT.out j hj))
  clear hB
  have cHA0 := HA.out.2.1
  have cHA1 := HA.out.2.2.1
  have cHA2 := HA.out.2.2.2.1
  by_cases hcn : 1000 < cn
  · go_wp2_with fail
    refine (awake15_calls _ HT.out).mono ?_
    rintro e W12 ⟨rfl, hB⟩
    clear cHA0 cHA1 cHA2
    replace HA := Lib.hid (HA.out.below hB)
    replace HB := Lib.hid (HB.out.trans (hB.mono HB.out.size))
    replace HI := Lib.hid (HI.out.grow hB)
    replace HIT := Lib.hid (HIT.out.grow hB)
    replace HV := Lib.hid (HV.out.below hB)
    replace HT := Lib.hid (fun j hj => keep_below hB _ _ (HT.out j hj))
    clear hB
    have cHA0 := HA.out.2.1
    have cHA1 := HA.out.2.2.1
    have cHA2 := HA.out.2.2.2.1
    go_wp2_with fail
    go_ret
    exact ⟨rfl, HB.out⟩
  go_wp2_with fail
  refine (vCheck_calls _ p _ nd _ HLO.out HI.out).mono ?_
  rintro e W12 ⟨rfl, hB⟩
  clear cHA0 cHA1 cHA2
  replace HA := Lib.hid (HA.out.below hB)
  replace HB := Lib.hid (HB.out.trans (hB.mono HB.out.size))
  replace HI := Lib.hid (HI.out.grow hB)
  replace HIT := Lib.hid (HIT.out.grow hB)
  replace HV := Lib.hid (HV.out.below hB)
  replace HT := Lib.hid (fun j hj => keep_below hB _ _ (HT.out j hj))
  obtain ⟨cc, hcc⟩ : ∃ cc, chk 40 p = cc := ⟨_, rfl⟩
  rw [hcc]
  have HCC := Lib.hid hcc
  clear hcc
  clear hB
  have cHA0 := HA.out.2.1
  have cHA1 := HA.out.2.2.1
  have cHA2 := HA.out.2.2.2.1
  by_cases hc0 : cc = 0
  rotate_left
  · have hce : (cc != 0) = true := by simpa using hc0
    go_wp2_with fail
    refine (awake15_calls _ HT.out).mono ?_
    rintro e W13 ⟨rfl, hB⟩
    clear cHA0 cHA1 cHA2
    replace HA := Lib.hid (HA.out.below hB)
    replace HB := Lib.hid (HB.out.trans (hB.mono HB.out.size))
    replace HI := Lib.hid (HI.out.grow hB)
    replace HIT := Lib.hid (HIT.out.grow hB)
    replace HV := Lib.hid (HV.out.below hB)
    replace HT := Lib.hid (fun j hj => keep_below hB _ _ (HT.out j hj))
    clear hB
    have cHA0 := HA.out.2.1
    have cHA1 := HA.out.2.2.1
    have cHA2 := HA.out.2.2.2.1
    go_wp2_with fail
    go_ret
    exact ⟨rfl, HB.out⟩
  subst hc0
  by_cases g0 : 60 < at_.length
  · go_wp2_with fail
    refine (awake15_calls _ HT.out).mono ?_
    rintro e W13 ⟨rfl, hB⟩
    clear cHA0 cHA1 cHA2
    replace HA := Lib.hid (HA.out.below hB)
    replace HB := Lib.hid (HB.out.trans (hB.mono HB.out.size))
    replace HI := Lib.hid (HI.out.grow hB)
    replace HIT := Lib.hid (HIT.out.grow hB)
    replace HV := Lib.hid (HV.out.below hB)
    replace HT := Lib.hid (fun j hj => keep_below hB _ _ (HT.out j hj))
    clear hB
    have cHA0 := HA.out.2.1
    have cHA1 := HA.out.2.2.1
    have cHA2 := HA.out.2.2.2.1
    go_wp2_with fail
    go_ret
    exact ⟨rfl, HB.out⟩
  by_cases g1 : outer < 1
  · go_wp2_with fail
    refine (awake15_calls _ HT.out).mono ?_
    rintro e W13 ⟨rfl, hB⟩
    clear cHA0 cHA1 cHA2
    replace HA := Lib.hid (HA.out.below hB)
    replace HB := Lib.hid (HB.out.trans (hB.mono HB.out.size))
    replace HI := Lib.hid (HI.out.grow hB)
    replace HIT := Lib.hid (HIT.out.grow hB)
    replace HV := Lib.hid (HV.out.below hB)
    replace HT := Lib.hid (fun j hj => keep_below hB _ _ (HT.out j hj))
    clear hB
    have cHA0 := HA.out.2.1
    have cHA1 := HA.out.2.2.1
    have cHA2 := HA.out.2.2.2.1
    go_wp2_with fail
    go_ret
    exact ⟨rfl, HB.out⟩
  by_cases g2 : inner < 1
  · go_wp2_with fail
    refine (awake15_calls _ HT.out).mono ?_
    rintro e W13 ⟨rfl, hB⟩
    clear cHA0 cHA1 cHA2
    replace HA := Lib.hid (HA.out.below hB)
    replace HB := Lib.hid (HB.out.trans (hB.mono HB.out.size))
    replace HI := Lib.hid (HI.out.grow hB)
    replace HIT := Lib.hid (HIT.out.grow hB)
    replace HV := Lib.hid (HV.out.below hB)
    replace HT := Lib.hid (fun j hj => keep_below hB _ _ (HT.out j hj))
    clear hB
    have cHA0 := HA.out.2.1
    have cHA1 := HA.out.2.2.1
    have cHA2 := HA.out.2.2.2.1
    go_wp2_with fail
    go_ret
    exact ⟨rfl, HB.out⟩
  by_cases g3 : 60 < outer
  · go_wp2_with fail
    refine (awake15_calls _ HT.out).mono ?_
    rintro e W13 ⟨rfl, hB⟩
    clear cHA0 cHA1 cHA2
    replace HA := Lib.hid (HA.out.below hB)
    replace HB := Lib.hid (HB.out.trans (hB.mono HB.out.size))
    replace HI := Lib.hid (HI.out.grow hB)
    replace HIT := Lib.hid (HIT.out.grow hB)
    replace HV := Lib.hid (HV.out.below hB)
    replace HT := Lib.hid (fun j hj => keep_below hB _ _ (HT.out j hj))
    clear hB
    have cHA0 := HA.out.2.1
    have cHA1 := HA.out.2.2.1
    have cHA2 := HA.out.2.2.2.1
    go_wp2_with fail
    go_ret
    exact ⟨rfl, HB.out⟩
  by_cases g4 : 60 < inner
  · go_wp2_with fail
    refine (awake15_calls _ HT.out).mono ?_
    rintro e W13 ⟨rfl, hB⟩
    clear cHA0 cHA1 cHA2
    replace HA := Lib.hid (HA.out.below hB)
    replace HB := Lib.hid (HB.out.trans (hB.mono HB.out.size))
    replace HI := Lib.hid (HI.out.grow hB)
    replace HIT := Lib.hid (HIT.out.grow hB)
    replace HV := Lib.hid (HV.out.below hB)
    replace HT := Lib.hid (fun j hj => keep_below hB _ _ (HT.out j hj))
    clear hB
    have cHA0 := HA.out.2.1
    have cHA1 := HA.out.2.2.1
    have cHA2 := HA.out.2.2.2.1
    go_wp2_with fail
    go_ret
    exact ⟨rfl, HB.out⟩
  obtain ⟨O, hO⟩ : ∃ O : Nat, outer = (O : Int) := ⟨outer.toNat, by omega⟩
  obtain ⟨I, hI⟩ : ∃ I : Nat, inner = (I : Int) := ⟨inner.toNat, by omega⟩
  subst hO hI
  have HLM := Lib.hid (len_chk (d := 39) HCC.out)
  obtain ⟨NL, hNL⟩ : ∃ NL, p.l.length = NL := ⟨_, rfl⟩
  obtain ⟨Q1, hQ1⟩ : ∃ Q1, NL / O = Q1 := ⟨_, rfl⟩
  obtain ⟨NN, hNN⟩ : ∃ NN, Q1 / I = NN := ⟨_, rfl⟩
  obtain ⟨X, hX⟩ : ∃ X, NN * O = X := ⟨_, rfl⟩
  obtain ⟨KK, hK⟩ : ∃ KK, X * I = KK := ⟨_, rfl⟩
  have HNL := Lib.hid hNL
  have hNLm : NL ≤ 1048576 := by rw [← hNL]; exact HLM.out
  have hQm : Q1 ≤ 1048576 := by rw [← hQ1]; exact Nat.le_trans (Nat.div_le_self _ _) hNLm
  have hNm : NN ≤ 1048576 := by rw [← hNN]; exact Nat.le_trans (Nat.div_le_self _ _) hQm
  have hKL : KK ≤ NL := by
    rw [← hK, ← hX]
    have h1 : NN * I ≤ Q1 := by rw [← hNN]; exact Nat.div_mul_le_self _ _
    have h2 : Q1 * O ≤ NL := by rw [← hQ1]; exact Nat.div_mul_le_self _ _
    calc NN * O * I = NN * I * O := Nat.mul_right_comm _ _ _
      _ ≤ Q1 * O := Nat.mul_le_mul_right _ h1
      _ ≤ NL := h2
  have hXm : X ≤ 70000000 := by rw [← hX]; have := Nat.mul_le_mul hNm (show O ≤ 60 by omega); omega
  have HKE := Lib.hid (show KK = NN * O * I by rw [← hK, ← hX])
  have HKL := Lib.hid (show KK ≤ p.l.length by rw [hNL]; exact hKL)
  have HKM := Lib.hid (show KK ≤ 1048576 by omega)
  have HNM := Lib.hid hNm
  have HO := Lib.hid (show O ≤ 60 by omega)
  have HI6 := Lib.hid (show I ≤ 60 by omega)
  have HI0 := Lib.hid (show 0 < I by omega)
  have HM := Lib.hid (show at_.length ≤ 60 by omega)
  have d1 : (NL : Int) / (O : Int) = (Q1 : Int) := by rw [← hQ1]; rfl
  have d2 : (NL : Int).tdiv (O : Int) = (Q1 : Int) := by rw [← hQ1]; rfl
  have d3 : (Q1 : Int) / (I : Int) = (NN : Int) := by rw [← hNN]; rfl
  have d4 : (Q1 : Int).tdiv (I : Int) = (NN : Int) := by rw [← hNN]; rfl
  have q1 : IntKind.i64.wrap ((NN : Int) * (O : Int)) = (X : Int) := by rw [← Int.natCast_mul, hX]; exact IntWalk.i64_in _ (by omega)
  have q2 : IntKind.i64.wrap ((X : Int) * (I : Int)) = (KK : Int) := by rw [← Int.natCast_mul, hK]; exact IntWalk.i64_in _ (by omega)
  have hz1 : ¬ (O : Int) = 0 := by omega
  have hz2 : ¬ (I : Int) = 0 := by omega
  have hz3 : ¬ O = 0 := by omega
  have hz4 : ¬ I = 0 := by omega
  have w1 : IntKind.i64.wrap (Q1 : Int) = (Q1 : Int) := IntWalk.i64_in _ (by omega)
  have w2 : IntKind.i64.wrap (NN : Int) = (NN : Int) := IntWalk.i64_in _ (by omega)
  have hic : KK ≤ ic := by have h1 := HIT.out.len; obtain ⟨ao9, cap9, e9, h8, h9⟩ := h1; cases e9; omega
  rw [hNL] at HA ⊢
  clear hNL hX hK hQ1 hNN
  clear cHA0 cHA1 cHA2
  have cHA0 := HA.out.2.1
  have cHA1 := HA.out.2.2.1
  have cHA2 := HA.out.2.2.2.1
  go_wp2_with fail
  clear cHA0 cHA1 cHA2
  refine wp_mid (fun s0 s1 w' => ∃ (rs rq : Nat), s1 = ((((((((((((((((((s0.put (some 50) (.int .i64 (NN : Int))).put (some 51) (.int .i64 (O : Int))).put (some 52) (.int .i64 (X : Int))).put (some 53) (.int .i64 (I : Int))).put (some 54) (.int .i64 (KK : Int))).put (some 55) (.slice (some ⟨rs, 0, none⟩) 1 1)).put (some 56) (.pointer (some ⟨w.heap.size, 1, none⟩))).put (some 57) (.slice io NL ic)).put (some 58) (.int .i64 (NN : Int))).put (some 59) (.int .i64 (O : Int))).put (some 60) (.int .i64 (X : Int))).put (some 61) (.int .i64 (I : Int))).put (some 62) (.int .i64 (KK : Int))).put (some 63) (.slice io KK ic)).put (some 64) (.pointer (some ⟨w.heap.size, 2, none⟩))).put (some 65) (.int .i64 p.f)).put (some 66) (.agg #[.slice (some ⟨rs, 0, none⟩) 1 1, .slice io KK ic, .int .i64 p.f])).put (some 10) (.pointer (some ⟨rq, 0, none⟩))) ∧ Slc w' (fun _ => True) (.slice (some ⟨rs, 0, none⟩) 1 1) 1 (ints [(KK : Int)]) ∧ At3 w' rq (.slice (some ⟨rs, 0, none⟩) 1 1) (.slice io KK ic) (.int .i64 p.f) ∧ Below W12.heap.size W12 w') ?_ ?_
  · have HW0 := Lib.hid (Below.refl W12.heap.size W12)
    have HAS := HA
    obtain ⟨W13, hWD⟩ : ∃ xw9, W12.drew = xw9 := ⟨_, rfl⟩
    have hB : Below W12.heap.size W12 W13 := by rw [← hWD]; exact Below.drewN' (Below.refl _ _) 1
    replace HA := Lib.hid (HA.out.below hB)
    replace HW0 := Lib.hid (HW0.out.trans (hB.mono HW0.out.size))
    clear hB
    refine wp_region_held_drew (S := fun w' => w'.cell? ⟨w.heap.size, 0, none⟩ = some (.slice so p.s.length sc) ∧ w'.cell? ⟨w.heap.size, 1, none⟩ = some (.slice io NL ic) ∧ w'.cell? ⟨w.heap.size, 2, none⟩ = some (.int .i64 p.f)) (by kernel_rfl) (by rw [hWD]; exact ⟨HA.out.2.1, HA.out.2.2.1, HA.out.2.2.2.1⟩) (fun hHeld => ?_)
    rw [hWD] at hHeld ⊢
    clear hWD
    refine wpAnyH_take (i := 0) (v := ?_) rfl (by kernel_rfl) (by kernel_rfl) (by kernel_rfl) (fun _ _ _ h => absurd h.1 (by simp)) (Or.inl ⟨by rfl, ?_⟩) (by assumption) ?_
    rotate_left
    · (intro w hSw; (try dsimp only at hSw); go_simp; try with_reducible rfl)
    simp only [Act.put, List.getElem_toArray, List.getElem_cons_zero, List.setIfInBounds_toArray, List.set_cons_zero, List.set_cons_succ]
    refine wpAnyH_take (i := 1) (v := ?_) rfl (by kernel_rfl) (by kernel_rfl) (by kernel_rfl) (fun _ _ _ h => absurd h.1 (by simp)) (Or.inl ⟨by rfl, ?_⟩) (by assumption) ?_
    rotate_left
    · (intro w hSw; (try dsimp only at hSw); go_simp; try with_reducible rfl)
    simp only [Act.put, List.getElem_toArray, List.getElem_cons_succ, List.getElem_cons_zero, List.setIfInBounds_toArray, List.set_cons_zero, List.set_cons_succ]
    refine wpAnyH_take (i := 2) (v := ?_) rfl (by kernel_rfl) (by kernel_rfl) (by kernel_rfl) (fun _ _ _ h => absurd h.1 (by simp)) (Or.inl ⟨by rfl, ?_⟩) (by assumption) ?_
    rotate_left
    · (intro w hSw; (try dsimp only at hSw); go_simp; try with_reducible rfl)
    simp only [Act.put, List.getElem_toArray, List.getElem_cons_succ, List.getElem_cons_zero, List.setIfInBounds_toArray, List.set_cons_zero, List.set_cons_succ]
    refine wpAnyH_take (i := 3) (v := ?_) rfl (by kernel_rfl) (by kernel_rfl) (by kernel_rfl) (fun _ _ _ h => absurd h.1 (by simp)) (Or.inl ⟨by rfl, ?_⟩) (by assumption) ?_
    rotate_left
    · (intro w hSw; (try dsimp only at hSw); go_simp; try with_reducible rfl)
    simp only [Act.put, List.getElem_toArray, List.getElem_cons_succ, List.getElem_cons_zero, List.setIfInBounds_toArray, List.set_cons_zero, List.set_cons_succ]
    refine wpAnyH_take (i := 4) (v := ?_) rfl (by kernel_rfl) (by kernel_rfl) (by kernel_rfl) (fun _ _ _ h => absurd h.1 (by simp)) (Or.inl ⟨by rfl, ?_⟩) (by assumption) ?_
    rotate_left
    · (intro w hSw; (try dsimp only at hSw); go_simp; try with_reducible rfl)
    simp only [Act.put, List.getElem_toArray, List.getElem_cons_succ, List.getElem_cons_zero, List.setIfInBounds_toArray, List.set_cons_zero, List.set_cons_succ]
    refine wpAnyH_take (i := 6) (v := ?_) rfl (by kernel_rfl) (by kernel_rfl) (by kernel_rfl) (fun _ _ _ h => absurd h.1 (by simp)) (Or.inl ⟨by rfl, ?_⟩) (by assumption) ?_
    rotate_left
    · (intro w hSw; (try dsimp only at hSw); go_simp; try with_reducible rfl)
    simp only [Act.put, List.getElem_toArray, List.getElem_cons_succ, List.getElem_cons_zero, List.setIfInBounds_toArray, List.set_cons_zero, List.set_cons_succ]
    refine wpAnyH_take (i := 7) (v := ?_) rfl (by kernel_rfl) (by kernel_rfl) (by kernel_rfl) (fun _ _ _ h => absurd h.1 (by simp)) (Or.inl ⟨by rfl, ?_⟩) (by assumption) ?_
    rotate_left
    · (intro w hSw; (try dsimp only at hSw); go_simp; try with_reducible rfl)
    simp only [Act.put, List.getElem_toArray, List.getElem_cons_succ, List.getElem_cons_zero, List.setIfInBounds_toArray, List.set_cons_zero, List.set_cons_succ]
    refine wpAnyH_take (i := 8) (v := ?_) rfl (by kernel_rfl) (by kernel_rfl) (by kernel_rfl) (fun _ _ _ h => absurd h.1 (by simp)) (Or.inl ⟨by rfl, ?_⟩) (by assumption) ?_
    rotate_left
    · (intro w hSw; (try dsimp only at hSw); go_simp; try with_reducible rfl)
    simp only [Act.put, List.getElem_toArray, List.getElem_cons_succ, List.getElem_cons_zero, List.setIfInBounds_toArray, List.set_cons_zero, List.set_cons_succ]
    refine wpAnyH_take (i := 9) (v := ?_) rfl (by kernel_rfl) (by kernel_rfl) (by kernel_rfl) (fun _ _ _ h => absurd h.1 (by simp)) (Or.inl ⟨by rfl, ?_⟩) (by assumption) ?_
    rotate_left
    · (intro w hSw; (try dsimp only at hSw); go_simp; try with_reducible rfl)
    simp only [Act.put, List.getElem_toArray, List.getElem_cons_succ, List.getElem_cons_zero, List.setIfInBounds_toArray, List.set_cons_zero, List.set_cons_succ]
    refine wpAnyH_take (i := 10) (v := ?_) rfl (by kernel_rfl) (by kernel_rfl) (by kernel_rfl) (fun _ _ _ h => absurd h.1 (by simp)) (Or.inl ⟨by rfl, ?_⟩) (by assumption) ?_
    rotate_left
    · (intro w hSw; (try dsimp only at hSw); go_simp; try with_reducible rfl)
    simp only [Act.put, List.getElem_toArray, List.getElem_cons_succ, List.getElem_cons_zero, List.setIfInBounds_toArray, List.set_cons_zero, List.set_cons_succ]
    refine wpAnyH_take (i := 11) (v := ?_) rfl (by kernel_rfl) (by kernel_rfl) (by kernel_rfl) (fun _ _ _ h => absurd h.1 (by simp)) (Or.inl ⟨by rfl, ?_⟩) (by assumption) ?_
    rotate_left
    · (intro w hSw; (try dsimp only at hSw); go_simp; try with_reducible rfl)
    simp only [Act.put, List.getElem_toArray, List.getElem_cons_succ, List.getElem_cons_zero, List.setIfInBounds_toArray, List.set_cons_zero, List.set_cons_succ]
    refine wpAnyH_take (i := 12) (v := ?_) rfl (by kernel_rfl) (by kernel_rfl) (by kernel_rfl) (fun _ _ _ h => absurd h.1 (by simp)) (Or.inl ⟨by rfl, ?_⟩) (by assumption) ?_
    rotate_left
    · (intro w hSw; (try dsimp only at hSw); go_simp; try with_reducible rfl)
    simp only [Act.put, List.getElem_toArray, List.getElem_cons_succ, List.getElem_cons_zero, List.setIfInBounds_toArray, List.set_cons_zero, List.set_cons_succ]
    refine wpAnyH_take (i := 13) (v := ?_) rfl (by kernel_rfl) (by kernel_rfl) (by kernel_rfl) (fun _ _ _ h => absurd h.1 (by simp)) (Or.inl ⟨by rfl, ?_⟩) (by assumption) ?_
    rotate_left
    · (intro w hSw; (try dsimp only at hSw); go_simp; try with_reducible rfl)
    simp only [Act.put, List.getElem_toArray, List.getElem_cons_succ, List.getElem_cons_zero, List.setIfInBounds_toArray, List.set_cons_zero, List.set_cons_succ]
    refine wpAnyH_take (i := 14) (v := ?_) rfl (by kernel_rfl) (by kernel_rfl) (by kernel_rfl) (fun _ _ _ h => absurd h.1 (by simp)) (Or.inl ⟨by rfl, ?_⟩) (by assumption) ?_
    rotate_left
    · (intro w hSw; (try dsimp only at hSw); go_simp; try with_reducible rfl)
    simp only [Act.put, List.getElem_toArray, List.getElem_cons_succ, List.getElem_cons_zero, List.setIfInBounds_toArray, List.set_cons_zero, List.set_cons_succ]
    refine wpAnyH_take (i := 15) (v := ?_) rfl (by kernel_rfl) (by kernel_rfl) (by kernel_rfl) (fun _ _ _ h => absurd h.1 (by simp)) (Or.inl ⟨by rfl, ?_⟩) (by assumption) ?_
    rotate_left
    · (intro w hSw; (try dsimp only at hSw); go_simp; try with_reducible rfl)
    simp only [Act.put, List.getElem_toArray, List.getElem_cons_succ, List.getElem_cons_zero, List.setIfInBounds_toArray, List.set_cons_zero, List.set_cons_succ]
    refine wpAnyH_ready (rs := [5, 17]) (by kernel_rfl) (by simp) ?_
    refine AllReadyH.cons (o := _) rfl (fun K hK => ?_) ?_
    · clear hHeld
      go_simp
      obtain ⟨W14, hWn⟩ : ∃ xw9, W13.alloc (.cells #[.int .i64 (KK : Int)] 3) = xw9 := ⟨_, rfl⟩
      have hB : Below W13.heap.size W13 W14 := by rw [← hWn]; exact below_new _ _
      have hNB : Slc W14 (fun b => b = W13.heap.size) (.slice (some ⟨W13.heap.size, 0, none⟩) 1 1) 1 (ints [(KK : Int)]) := by
        rw [← hWn]; exact (Slc.owned (World.ownsRow_lit (base := W13.heap.size) (e := 3) (size := 1) W13 #[.int .i64 (KK : Int)] 1 (Nat.le_refl _) (by unfold maxLen; omega) rfl)).keep (Kept.refl _ _) (fun b hb h => by simp at hb; omega)
      have hsz : W14.heap.size = W13.heap.size + 1 := by rw [← hWn]; simp
      rw [hWn]
      clear hWn
      obtain ⟨rs, hnm⟩ : ∃ x, W13.heap.size = x := ⟨_, rfl⟩
      rw [hnm] at hNB hsz ⊢
      have HEW14 := Lib.hid hnm
      have HXW14 := Lib.hid hsz
      clear hsz
      replace HA := Lib.hid (HA.out.below hB)
      replace HW0 := Lib.hid (HW0.out.trans (hB.mono HW0.out.size))
      have HSL := Lib.hid hNB
      clear hNB hB hnm
      refine hK.out _ _ ?_ (fun hHeld => ?_)
      · exact ⟨HA.out.2.1, HA.out.2.2.1, HA.out.2.2.2.1⟩
      clear hK K
      refine wpAnyH_take (i := 16) (v := ?_) rfl (by kernel_rfl) (by kernel_rfl) (by kernel_rfl) (fun _ _ _ h => absurd h.1 (by simp)) (Or.inl ⟨by rfl, ?_⟩) (by assumption) ?_
      rotate_left
      · (intro w hSw; (try dsimp only at hSw); go_simp; try with_reducible rfl)
      simp only [Act.put, List.getElem_toArray, List.getElem_cons_succ, List.getElem_cons_zero, List.setIfInBounds_toArray, List.set_cons_zero, List.set_cons_succ]
      refine wpAnyH_ready (rs := [17]) (by kernel_rfl) (by simp) ?_
      refine AllReadyH.cons (o := _) rfl (fun K hK => ?_) ?_
      · clear hHeld
        go_simp
        obtain ⟨W15, hWn⟩ : ∃ xw9, W14.alloc (.cells #[.slice none 0 0, .slice none 0 0, .int .i64 0] 25) = xw9 := ⟨_, rfl⟩
        have hB : Below W14.heap.size W14 W15 := by rw [← hWn]; exact below_new _ _
        have hNB : At3 W15 W14.heap.size (.slice none 0 0) (.slice none 0 0) (.int .i64 0) := by rw [← hWn]; exact At3.new _ _ _ _ _
        have hsz : W15.heap.size = W14.heap.size + 1 := by rw [← hWn]; simp
        have hbk : W12.heap.size ≤ W14.heap.size := HW0.out.size
        rw [hWn]
        clear hWn
        obtain ⟨rq, hnm⟩ : ∃ x, W14.heap.size = x := ⟨_, rfl⟩
        rw [hnm] at hNB hbk hsz ⊢
        have HEW15 := Lib.hid hnm
        have HXW15 := Lib.hid hsz
        have HBK := Lib.hid hbk
        clear hsz hbk
        replace HA := Lib.hid (HA.out.below hB)
        replace HW0 := Lib.hid (HW0.out.trans (hB.mono HW0.out.size))
        replace HSL := Lib.hid (HSL.out.below hB)
        have HRV := Lib.hid hNB
        clear hNB hB hnm
        refine hK.out _ _ ?_ (fun hHeld => ?_)
        · exact ⟨HA.out.2.1, HA.out.2.2.1, HA.out.2.2.2.1⟩
        clear hK K
        refine wpAnyH_ready (rs := [18]) (by kernel_rfl) (by simp) ?_
        refine AllReadyH.cons (o := _) rfl (fun K hK => ?_) ?_
        · clear hHeld
          have s0 := HRV.out.2.1
          have s1 := HRV.out.2.2.1
          have s2 := HRV.out.2.2.2.1
          have t0 := HRV.out.2.2.2.2 0
          have t1 := HRV.out.2.2.2.2 1
          have t2 := HRV.out.2.2.2.2 2
          go_simp
          clear s0 t0 s1 t1 s2 t2
          obtain ⟨W16, hWn⟩ : ∃ xw9, ((W15.setCell ⟨rq, 0, none⟩ (.slice (some ⟨rs, 0, none⟩) 1 1)).setCell ⟨rq, 1, none⟩ (.slice io KK ic)).setCell ⟨rq, 2, none⟩ (.int .i64 p.f) = xw9 := ⟨_, rfl⟩
          rw [hWn]
          have hne : ¬ rq = rs := by have h1 := HEW14.out; have h2 := HXW14.out; have h3 := HEW15.out; have h4 := HXW15.out; omega
          replace HSL := Lib.hid (show Slc W16 (fun _ => True) (.slice (some ⟨rs, 0, none⟩) 1 1) 1 (ints [(KK : Int)]) by rw [← hWn]; exact HSL.out.keep (((Kept.setCell _ ⟨rq, 0, none⟩ _ hne).trans (Kept.setCell _ ⟨rq, 1, none⟩ _ hne)).trans (Kept.setCell _ ⟨rq, 2, none⟩ _ hne)) (fun _ _ _ => trivial))
          replace HRV := Lib.hid (show At3 W16 rq (.slice (some ⟨rs, 0, none⟩) 1 1) (.slice io KK ic) (.int .i64 p.f) by rw [← hWn]; exact HRV.out.put3 _ _ _)
          replace HW0 := Lib.hid (show Below W12.heap.size W12 W16 by rw [← hWn]; exact ((HW0.out.setCell (p := ⟨rq, 0, none⟩) HBK.out _).setCell (p := ⟨rq, 1, none⟩) HBK.out _).setCell (p := ⟨rq, 2, none⟩) HBK.out _)
          replace HA := Lib.hid (show At3 W16 w.heap.size (.slice so p.s.length sc) (.slice io NL ic) (.int .i64 p.f) from HAS.out.below HW0.out)
          clear hWn hne
          refine hK.out _ _ ?_ (fun hHeld => ?_)
          · exact ⟨HA.out.2.1, HA.out.2.2.1, HA.out.2.2.2.1⟩
          clear hK K
          refine wpAnyH_done (by kernel_rfl) ?_ _
          clear hHeld
          refine ⟨rfl, rs, rq, ?_, HSL.out, HRV.out, HW0.out⟩
          first | rfl | kernel_rfl
        exact AllReadyH.nil
      exact AllReadyH.nil
    refine AllReadyH.cons (o := _) rfl (fun K hK => ?_) ?_
    · clear hHeld
      go_simp
      obtain ⟨W14, hWn⟩ : ∃ xw9, W13.alloc (.cells #[.slice none 0 0, .slice none 0 0, .int .i64 0] 25) = xw9 := ⟨_, rfl⟩
      have hB : Below W13.heap.size W13 W14 := by rw [← hWn]; exact below_new _ _
      have hNB : At3 W14 W13.heap.size (.slice none 0 0) (.slice none 0 0) (.int .i64 0) := by rw [← hWn]; exact At3.new _ _ _ _ _
      have hsz : W14.heap.size = W13.heap.size + 1 := by rw [← hWn]; simp
      have hbk : W12.heap.size ≤ W13.heap.size := HW0.out.size
      rw [hWn]
      clear hWn
      obtain ⟨rq, hnm⟩ : ∃ x, W13.heap.size = x := ⟨_, rfl⟩
      rw [hnm] at hNB hbk hsz ⊢
      have HEW14 := Lib.hid hnm
      have HXW14 := Lib.hid hsz
      have HBK := Lib.hid hbk
      clear hsz hbk
      replace HA := Lib.hid (HA.out.below hB)
      replace HW0 := Lib.hid (HW0.out.trans (hB.mono HW0.out.size))
      have HRV := Lib.hid hNB
      clear hNB hB hnm
      refine hK.out _ _ ?_ (fun hHeld => ?_)
      · exact ⟨HA.out.2.1, HA.out.2.2.1, HA.out.2.2.2.1⟩
      clear hK K
      refine wpAnyH_ready (rs := [5]) (by kernel_rfl) (by simp) ?_
      refine AllReadyH.cons (o := _) rfl (fun K hK => ?_) ?_
      · clear hHeld
        go_simp
        obtain ⟨W15, hWn⟩ : ∃ xw9, W14.alloc (.cells #[.int .i64 (KK : Int)] 3) = xw9 := ⟨_, rfl⟩
        have hB : Below W14.heap.size W14 W15 := by rw [← hWn]; exact below_new _ _
        have hNB : Slc W15 (fun b => b = W14.heap.size) (.slice (some ⟨W14.heap.size, 0, none⟩) 1 1) 1 (ints [(KK : Int)]) := by
          rw [← hWn]; exact (Slc.owned (World.ownsRow_lit (base := W14.heap.size) (e := 3) (size := 1) W14 #[.int .i64 (KK : Int)] 1 (Nat.le_refl _) (by unfold maxLen; omega) rfl)).keep (Kept.refl _ _) (fun b hb h => by simp at hb; omega)
        have hsz : W15.heap.size = W14.heap.size + 1 := by rw [← hWn]; simp
        rw [hWn]
        clear hWn
        obtain ⟨rs, hnm⟩ : ∃ x, W14.heap.size = x := ⟨_, rfl⟩
        rw [hnm] at hNB hsz ⊢
        have HEW15 := Lib.hid hnm
        have HXW15 := Lib.hid hsz
        clear hsz
        replace HA := Lib.hid (HA.out.below hB)
        replace HW0 := Lib.hid (HW0.out.trans (hB.mono HW0.out.size))
        replace HRV := Lib.hid (HRV.out.below hB)
        have HSL := Lib.hid hNB
        clear hNB hB hnm
        refine hK.out _ _ ?_ (fun hHeld => ?_)
        · exact ⟨HA.out.2.1, HA.out.2.2.1, HA.out.2.2.2.1⟩
        clear hK K
        refine wpAnyH_take (i := 16) (v := ?_) rfl (by kernel_rfl) (by kernel_rfl) (by kernel_rfl) (fun _ _ _ h => absurd h.1 (by simp)) (Or.inl ⟨by rfl, ?_⟩) (by assumption) ?_
        rotate_left
        · (intro w hSw; (try dsimp only at hSw); go_simp; try with_reducible rfl)
        simp only [Act.put, List.getElem_toArray, List.getElem_cons_succ, List.getElem_cons_zero, List.setIfInBounds_toArray, List.set_cons_zero, List.set_cons_succ]
        refine wpAnyH_ready (rs := [18]) (by kernel_rfl) (by simp) ?_
        refine AllReadyH.cons (o := _) rfl (fun K hK => ?_) ?_
        · clear hHeld
          have s0 := HRV.out.2.1
          have s1 := HRV.out.2.2.1
          have s2 := HRV.out.2.2.2.1
          have t0 := HRV.out.2.2.2.2 0
          have t1 := HRV.out.2.2.2.2 1
          have t2 := HRV.out.2.2.2.2 2
          go_simp
          clear s0 t0 s1 t1 s2 t2
          obtain ⟨W16, hWn⟩ : ∃ xw9, ((W15.setCell ⟨rq, 0, none⟩ (.slice (some ⟨rs, 0, none⟩) 1 1)).setCell ⟨rq, 1, none⟩ (.slice io KK ic)).setCell ⟨rq, 2, none⟩ (.int .i64 p.f) = xw9 := ⟨_, rfl⟩
          rw [hWn]
          have hne : ¬ rq = rs := by have h1 := HEW15.out; have h2 := HXW15.out; have h3 := HEW14.out; have h4 := HXW14.out; omega
          replace HSL := Lib.hid (show Slc W16 (fun _ => True) (.slice (some ⟨rs, 0, none⟩) 1 1) 1 (ints [(KK : Int)]) by rw [← hWn]; exact HSL.out.keep (((Kept.setCell _ ⟨rq, 0, none⟩ _ hne).trans (Kept.setCell _ ⟨rq, 1, none⟩ _ hne)).trans (Kept.setCell _ ⟨rq, 2, none⟩ _ hne)) (fun _ _ _ => trivial))
          replace HRV := Lib.hid (show At3 W16 rq (.slice (some ⟨rs, 0, none⟩) 1 1) (.slice io KK ic) (.int .i64 p.f) by rw [← hWn]; exact HRV.out.put3 _ _ _)
          replace HW0 := Lib.hid (show Below W12.heap.size W12 W16 by rw [← hWn]; exact ((HW0.out.setCell (p := ⟨rq, 0, none⟩) HBK.out _).setCell (p := ⟨rq, 1, none⟩) HBK.out _).setCell (p := ⟨rq, 2, none⟩) HBK.out _)
          replace HA := Lib.hid (show At3 W16 w.heap.size (.slice so p.s.length sc) (.slice io NL ic) (.int .i64 p.f) from HAS.out.below HW0.out)
          clear hWn hne
          refine hK.out _ _ ?_ (fun hHeld => ?_)
          · exact ⟨HA.out.2.1, HA.out.2.2.1, HA.out.2.2.2.1⟩
          clear hK K
          refine wpAnyH_done (by kernel_rfl) ?_ _
          clear hHeld
          refine ⟨rfl, rs, rq, ?_, HSL.out, HRV.out, HW0.out⟩
          first | rfl | kernel_rfl
        exact AllReadyH.nil
      exact AllReadyH.nil
    exact AllReadyH.nil
  rintro _ wm4 ⟨rs, rq, rfl, hs4, hq4, hB⟩
  have HSL := Lib.hid hs4
  have HQV := Lib.hid hq4
  clear hs4 hq4
  replace HA := Lib.hid (HA.out.below hB)
  replace HB := Lib.hid (HB.out.trans (hB.mono HB.out.size))
  replace HI := Lib.hid (HI.out.grow hB)
  replace HIT := Lib.hid (HIT.out.grow hB)
  replace HV := Lib.hid (HV.out.below hB)
  replace HT := Lib.hid (fun j hj => keep_below hB _ _ (HT.out j hj))
  clear hB
  simp only [Act.put, List.setIfInBounds_toArray, List.set_cons_zero, List.set_cons_succ]
  have HQI := Lib.hid (show IsP wm4 (fun _ => True) _ (fstP p KK) from fstP_is HSL.out HIT.out HKL.out)
  have HQC := Lib.hid (fstP_chk (d := 39) HCC.out HKL.out HKM.out)
  have HQL := Lib.hid (fstP_lo (K := KK) HLO.out)
  have HQN := Lib.hid (fstP_len HKL.out)
  obtain ⟨Q, hQ⟩ : ∃ Q, fstP p KK = Q := ⟨_, rfl⟩
  have HQF := Lib.hid (show Q.f = p.f by rw [← hQ]; rfl)
  rw [hQ] at HQI HQC HQL HQN
  obtain ⟨A, hA⟩ : ∃ A, A = arrP 40 Q := ⟨_, rfl⟩
  have HAE := Lib.hid hA
  have HGV := Lib.hid (show gV 39 A.2 by rw [hA]; exact gA_gV (d := 39) (arrP_good 40 Q HQC.out))
  have HTL := Lib.hid (show itsA 39 A.2 = (tidyP 40 Q).l by rw [hA]; exact its_arrP (d := 39) HQC.out)
  have HCL := Lib.hid (show A.2.cls = p.f by rw [hA, ← HQF.out]; exact (arrP_len (d := 40) HQC.out).2.1)
  have HAN := Lib.hid (show A.2.len = KK by rw [hA, ← HQN.out]; exact (arrP_len (d := 40) HQC.out).1)
  have HLN := Lib.hid (show (tidyP 40 Q).l.length = KK by rw [← HTL.out, itsA_len, HAN.out])
  have HFC := Lib.hid (show p.f = 0 ∨ p.f = 1 ∨ p.f = 2 by rw [← HCL.out]; exact VV.cls_cases _)
  have HZT := Lib.hid (show O * at_.length * I ≤ 1048576 by have := Nat.mul_le_mul (Nat.mul_le_mul HO.out HM.out) HI6.out; omega)
  have HZN := Lib.hid (alZ_len O NN I at_)
  obtain ⟨Z, hZ⟩ : ∃ Z, alZ O NN I at_ = Z := ⟨_, rfl⟩
  have HZE := Lib.hid hZ
  have HZM := Lib.hid (show Z.length ≤ 1048576 by rw [← hZ, HZN.out]; exact HZT.out)
  obtain ⟨V2, hV2⟩ : ∃ V2, A.2.sel Z = V2 := ⟨_, rfl⟩
  have HV2 := Lib.hid hV2
  have HG2 := Lib.hid (show gV 39 V2 by rw [← hV2]; exact gV_sel (d := 38) (at_ := Z) HGV.out HZM.out)
  obtain ⟨LP, hLP⟩ : ∃ LP, LP = Z.map (atI (tidyP 40 Q).l (blankI p.f)) := ⟨_, rfl⟩
  have HLP := Lib.hid hLP
  have HIP := Lib.hid (show LP = itsA 39 V2 by rw [hLP, ← hV2, its_sel (d := 38) HGV.out HZM.out, HTL.out, HCL.out])
  have HC2 := Lib.hid (show V2.cls = p.f by rw [← hV2, VV.sel_cls _ _ (VV.nums_num HGV.out.1 HGV.out.2.1) HZM.out]; exact HCL.out)
  have hfa := fld_vec
  clear hQ hA hZ hV2 hLP
  have cHA0 := HA.out.2.1
  have cHA1 := HA.out.2.2.1
  have cHA2 := HA.out.2.2.2.1
  have cHQV0 := HQV.out.2.1
  have cHQV1 := HQV.out.2.2.1
  have cHQV2 := HQV.out.2.2.2.1
  go_wp2_with fail
  refine (lof_calls _ Q _ nd _ HQL.out HQI.out HT.out HQC.out).mono ?_
  rintro e W13 ⟨so3, sc3, uo, rfl, hOR, hB⟩
  clear cHA0 cHA1 cHA2 cHQV0 cHQV1 cHQV2
  replace HA := Lib.hid (HA.out.below hB)
  replace HB := Lib.hid (HB.out.trans (hB.mono HB.out.size))
  replace HI := Lib.hid (HI.out.grow hB)
  replace HIT := Lib.hid (HIT.out.grow hB)
  replace HV := Lib.hid (HV.out.below hB)
  replace HT := Lib.hid (fun j hj => keep_below hB _ _ (HT.out j hj))
  replace HSL := Lib.hid (HSL.out.below hB)
  replace HQV := Lib.hid (HQV.out.below hB)
  replace HQI := Lib.hid (HQI.out.grow hB)
  rw [← HAE.out] at hOR
  have HUO := Lib.hid (show IsV W13 (fun _ => True) uo A.2 from IsV.any hOR.2)
  clear hOR
  clear hB
  have cHA0 := HA.out.2.1
  have cHA1 := HA.out.2.2.1
  have cHA2 := HA.out.2.2.2.1
  have cHQV0 := HQV.out.2.1
  have cHQV1 := HQV.out.2.2.1
  have cHQV2 := HQV.out.2.2.2.1
  go_wp2_with fail
  refine (palong_calls _ A.2 _ at_ O NN I _ HUO.out HGV.out.1 HGV.out.2.1 (gV_box HGV.out) (gV_kind HGV.out) HV.out (by rw [HAN.out, HKE.out, Nat.mul_comm NN O]) HZT.out HI0.out (by have := HO.out; omega) HNM.out (by have := HI6.out; omega) (by have := HM.out; omega) HA8.out HT.out).mono ?_
  rintro e W14 ⟨uv, rfl, huv, hB⟩
  clear cHA0 cHA1 cHA2 cHQV0 cHQV1 cHQV2
  replace HA := Lib.hid (HA.out.below hB)
  replace HB := Lib.hid (HB.out.trans (hB.mono HB.out.size))
  replace HI := Lib.hid (HI.out.grow hB)
  replace HIT := Lib.hid (HIT.out.grow hB)
  replace HV := Lib.hid (HV.out.below hB)
  replace HT := Lib.hid (fun j hj => keep_below hB _ _ (HT.out j hj))
  replace HSL := Lib.hid (HSL.out.below hB)
  replace HQV := Lib.hid (HQV.out.below hB)
  replace HQI := Lib.hid (HQI.out.grow hB)
  replace HUO := Lib.hid (HUO.out.grow hB)
  rw [HZE.out, HV2.out] at huv
  have HUV := Lib.hid huv
  have hsv := huv.store
  clear huv
  clear hB
  obtain ⟨W15, hWn⟩ : ∃ xw9, W14.alloc (.cells #[uv] 30) = xw9 := ⟨_, rfl⟩
  have hB : Below W14.heap.size W14 W15 := by rw [← hWn]; exact below_new _ _
  have hNB : At1 W15 W14.heap.size (uv) := by rw [← hWn]; exact At1.new _ _ _
  replace HA := Lib.hid (HA.out.below hB)
  replace HB := Lib.hid (HB.out.trans (hB.mono HB.out.size))
  replace HI := Lib.hid (HI.out.grow hB)
  replace HIT := Lib.hid (HIT.out.grow hB)
  replace HV := Lib.hid (HV.out.below hB)
  replace HT := Lib.hid (fun j hj => keep_below hB _ _ (HT.out j hj))
  replace HSL := Lib.hid (HSL.out.below hB)
  replace HQV := Lib.hid (HQV.out.below hB)
  replace HQI := Lib.hid (HQI.out.grow hB)
  replace HUO := Lib.hid (HUO.out.grow hB)
  replace HUV := Lib.hid (HUV.out.grow hB)
  have HVV := Lib.hid hNB
  clear hNB hB
  have cHA0 := HA.out.2.1
  have cHA1 := HA.out.2.2.1
  have cHA2 := HA.out.2.2.2.1
  have cHQV0 := HQV.out.2.1
  have cHQV1 := HQV.out.2.2.1
  have cHQV2 := HQV.out.2.2.2.1
  have cHVV0 := HVV.out.2.1
  go_wp2_with fail
  clear hWn
  have hfp := fld_its
  obtain ⟨W16, hWD⟩ : ∃ xw9, W15.drew = xw9 := ⟨_, rfl⟩
  have hB : Below W15.heap.size W15 W16 := by rw [← hWD]; exact Below.drewN' (Below.refl _ _) 1
  clear cHA0 cHA1 cHA2 cHQV0 cHQV1 cHQV2 cHVV0
  replace HA := Lib.hid (HA.out.below hB)
  replace HB := Lib.hid (HB.out.trans (hB.mono HB.out.size))
  replace HI := Lib.hid (HI.out.grow hB)
  replace HIT := Lib.hid (HIT.out.grow hB)
  replace HV := Lib.hid (HV.out.below hB)
  replace HT := Lib.hid (fun j hj => keep_below hB _ _ (HT.out j hj))
  replace HSL := Lib.hid (HSL.out.below hB)
  replace HQV := Lib.hid (HQV.out.below hB)
  replace HQI := Lib.hid (HQI.out.grow hB)
  replace HUO := Lib.hid (HUO.out.grow hB)
  replace HUV := Lib.hid (HUV.out.grow hB)
  replace HVV := Lib.hid (HVV.out.below hB)
  clear hB
  refine wp_region_held_drew (S := fun w' => w'.cell? ⟨w.heap.size, 0, none⟩ = some (.slice so p.s.length sc) ∧ w'.cell? ⟨w.heap.size, 1, none⟩ = some (.slice io NL ic) ∧ w'.cell? ⟨w.heap.size, 2, none⟩ = some (.int .i64 p.f) ∧ w'.cell? ⟨rq, 0, none⟩ = some (.slice (some ⟨rs, 0, none⟩) 1 1) ∧ w'.cell? ⟨rq, 1, none⟩ = some (.slice io KK ic) ∧ w'.cell? ⟨rq, 2, none⟩ = some (.int .i64 p.f) ∧ w'.cell? ⟨W14.heap.size, 0, none⟩ = some (uv)) (by kernel_rfl) (by rw [hWD]; exact ⟨HA.out.2.1, HA.out.2.2.1, HA.out.2.2.2.1, HQV.out.2.1, HQV.out.2.2.1, HQV.out.2.2.2.1, HVV.out.2.1⟩) (fun hHeld => ?_)
  rw [hWD] at hHeld ⊢
  clear hWD
  refine wpAnyH_take (i := 0) (v := ?_) rfl (by kernel_rfl) (by kernel_rfl) (by kernel_rfl) (fun _ _ _ h => h) (Or.inl ⟨by rfl, ?_⟩) (by assumption) ?_
  rotate_left
  · (intro w hSw; (try dsimp only at hSw); go_simp; try with_reducible rfl)
  simp only [Act.put, List.getElem_toArray, List.getElem_cons_zero, List.setIfInBounds_toArray, List.set_cons_zero, List.set_cons_succ]
  refine wpAnyH_take (i := 3) (v := ?_) rfl (by kernel_rfl) (by kernel_rfl) (by kernel_rfl) (fun _ _ _ h => h) (Or.inl ⟨by rfl, ?_⟩) (by assumption) ?_
  rotate_left
  · (intro w hSw; (try dsimp only at hSw); go_simp; try with_reducible rfl)
  simp only [Act.put, List.getElem_toArray, List.getElem_cons_succ, List.getElem_cons_zero, List.setIfInBounds_toArray, List.set_cons_zero, List.set_cons_succ]
  refine wpAnyH_take (i := 4) (v := ?_) rfl (by kernel_rfl) (by kernel_rfl) (by kernel_rfl) (fun _ _ _ h => h) (Or.inl ⟨by rfl, ?_⟩) (by assumption) ?_
  rotate_left
  · (intro w hSw; (try dsimp only at hSw); go_simp; try with_reducible rfl)
  simp only [Act.put, List.getElem_toArray, List.getElem_cons_succ, List.getElem_cons_zero, List.setIfInBounds_toArray, List.set_cons_zero, List.set_cons_succ]
  refine wpAnyH_take (i := 5) (v := ?_) rfl (by kernel_rfl) (by kernel_rfl) (by kernel_rfl) (fun _ _ _ h => h) (Or.inl ⟨by rfl, ?_⟩) (by assumption) ?_
  rotate_left
  · (intro w hSw; (try dsimp only at hSw); go_simp; try with_reducible rfl)
  simp only [Act.put, List.getElem_toArray, List.getElem_cons_succ, List.getElem_cons_zero, List.setIfInBounds_toArray, List.set_cons_zero, List.set_cons_succ]
  refine wpAnyH_take (i := 6) (v := ?_) rfl (by kernel_rfl) (by kernel_rfl) (by kernel_rfl) (fun _ _ _ h => h) (Or.inl ⟨by rfl, ?_⟩) (by assumption) ?_
  rotate_left
  · (intro w hSw; (try dsimp only at hSw); go_simp; try with_reducible rfl)
  simp only [Act.put, List.getElem_toArray, List.getElem_cons_succ, List.getElem_cons_zero, List.setIfInBounds_toArray, List.set_cons_zero, List.set_cons_succ]
  refine wpAnyH_take (i := 7) (v := ?_) rfl (by kernel_rfl) (by kernel_rfl) (by kernel_rfl) (fun _ _ _ h => h) (Or.inl ⟨by rfl, ?_⟩) (by assumption) ?_
  rotate_left
  · (intro w hSw; (try dsimp only at hSw); go_simp; try with_reducible rfl)
  simp only [Act.put, List.getElem_toArray, List.getElem_cons_succ, List.getElem_cons_zero, List.setIfInBounds_toArray, List.set_cons_zero, List.set_cons_succ]
  refine wpAnyH_take (i := 8) (v := ?_) rfl (by kernel_rfl) (by kernel_rfl) (by kernel_rfl) (fun _ _ _ h => h) (Or.inl ⟨by rfl, ?_⟩) (by assumption) ?_
  rotate_left
  · (intro w hSw; (try dsimp only at hSw); go_simp; try with_reducible rfl)
  simp only [Act.put, List.getElem_toArray, List.getElem_cons_succ, List.getElem_cons_zero, List.setIfInBounds_toArray, List.set_cons_zero, List.set_cons_succ]
  refine wpAnyH_ready (rs := [1]) (by kernel_rfl) (by simp) ?_
  refine AllReadyH.cons (o := _) rfl (fun K hK => ?_) ?_
  · clear hHeld
    go_simp
    refine (ptidy_calls 40 _ Q _ _ HQC.out HQI.out).mono ?_
    rintro e W17 ⟨ut, rfl, hut, hB⟩
    replace HA := Lib.hid (HA.out.below hB)
    replace HB := Lib.hid (HB.out.trans (hB.mono HB.out.size))
    replace HI := Lib.hid (HI.out.grow hB)
    replace HIT := Lib.hid (HIT.out.grow hB)
    replace HV := Lib.hid (HV.out.below hB)
    replace HT := Lib.hid (fun j hj => keep_below hB _ _ (HT.out j hj))
    replace HSL := Lib.hid (HSL.out.below hB)
    replace HQV := Lib.hid (HQV.out.below hB)
    replace HQI := Lib.hid (HQI.out.grow hB)
    replace HUO := Lib.hid (HUO.out.grow hB)
    replace HUV := Lib.hid (HUV.out.grow hB)
    replace HVV := Lib.hid (HVV.out.below hB)
    obtain ⟨tso, tsc, tio, tic, rfl, _, hti⟩ := hut.opened
    have HTI := Lib.hid (hti.wide (ok' := fun _ => True) (fun _ _ _ => trivial))
    clear hut hti
    clear hB
    refine hK.out _ _ ?_ (fun hHeld => ?_)
    · exact ⟨HA.out.2.1, HA.out.2.2.1, HA.out.2.2.2.1, HQV.out.2.1, HQV.out.2.2.1, HQV.out.2.2.2.1, HVV.out.2.1⟩
    clear hK K
    refine wpAnyH_take (i := 2) (v := ?_) rfl (by kernel_rfl) (by kernel_rfl) (by kernel_rfl) (fun _ _ _ h => h) (Or.inl ⟨by rfl, ?_⟩) (by assumption) ?_
    rotate_left
    · (intro w hSw; (try dsimp only at hSw); go_simp; try with_reducible rfl)
    simp only [Act.put, List.getElem_toArray, List.getElem_cons_succ, List.getElem_cons_zero, List.setIfInBounds_toArray, List.set_cons_zero, List.set_cons_succ]
    refine wpAnyH_ready (rs := [9]) (by kernel_rfl) (by simp) ?_
    refine AllReadyH.cons (o := _) rfl (fun K hK => ?_) ?_
    · clear hHeld
      go_simp
      refine (ralong_calls _ (tidyP 40 Q).l p.f HFC.out O NN I _ at_ _ HTI.out HV.out (by rw [HLN.out, HKE.out]) (by have h1 := HLN.out; have h2 := HKM.out; omega) HZT.out (by have := HO.out; omega) HNM.out (by have := HI6.out; omega) (by have := HM.out; omega)).mono ?_
      rintro e W18 ⟨u3, rfl, hu3, hB⟩
      replace HA := Lib.hid (HA.out.below hB)
      replace HB := Lib.hid (HB.out.trans (hB.mono HB.out.size))
      replace HI := Lib.hid (HI.out.grow hB)
      replace HIT := Lib.hid (HIT.out.grow hB)
      replace HV := Lib.hid (HV.out.below hB)
      replace HT := Lib.hid (fun j hj => keep_below hB _ _ (HT.out j hj))
      replace HSL := Lib.hid (HSL.out.below hB)
      replace HQV := Lib.hid (HQV.out.below hB)
      replace HQI := Lib.hid (HQI.out.grow hB)
      replace HUO := Lib.hid (HUO.out.grow hB)
      replace HUV := Lib.hid (HUV.out.grow hB)
      replace HVV := Lib.hid (HVV.out.below hB)
      replace HTI := Lib.hid (HTI.out.grow hB)
      rw [HZE.out, ← HLP.out] at hu3
      have HU3 := Lib.hid hu3
      obtain ⟨lo3, lc3, rfl, _⟩ := hu3.len
      clear hu3
      clear hB
      refine hK.out _ _ ?_ (fun hHeld => ?_)
      · exact ⟨HA.out.2.1, HA.out.2.2.1, HA.out.2.2.2.1, HQV.out.2.1, HQV.out.2.2.1, HQV.out.2.2.2.1, HVV.out.2.1⟩
      clear hK K
      refine wpAnyH_take (i := 10) (v := ?_) rfl (by kernel_rfl) (by kernel_rfl) (by kernel_rfl) (fun _ _ _ h => h) (Or.inl ⟨by rfl, ?_⟩) (by assumption) ?_
      rotate_left
      · (intro w hSw; (try dsimp only at hSw); go_simp; try with_reducible rfl)
      simp only [Act.put, List.getElem_toArray, List.getElem_cons_succ, List.getElem_cons_zero, List.setIfInBounds_toArray, List.set_cons_zero, List.set_cons_succ]
      refine wpAnyH_done (by kernel_rfl) ?_ _
      clear hHeld
      obtain ⟨kd, hkd⟩ : ∃ kd, V2.kind = kd := ⟨_, rfl⟩
      have HKD := Lib.hid hkd
      have hkp : (0 : Int) < kd := by rw [← hkd]; exact kind_pos (gV_kind HG2.out)
      have HDT := Lib.hid (show decide (V2.kind = (V2.least : Int)) = true from decide_eq_true HG2.out.2.2.1)
      have HPL := Lib.hid (show plA 40 ([(V2.len : Int)], V2) = .mk [(LP.length : Int)] LP p.f by rw [show (40 : Nat) = 39 + 1 from rfl, plA_list, ← HIP.out, HC2.out])
      have HGA := Lib.hid (gV_gA HG2.out)
      have HNI := Lib.hid (show nice 40 (.mk [(LP.length : Int)] LP p.f) by rw [← HPL.out]; exact nice_plA 40 _ HGA.out)
      clear hkd hfa hfp
      have cHA0 := HA.out.2.1
      have cHA1 := HA.out.2.2.1
      have cHA2 := HA.out.2.2.2.1
      have cHQV0 := HQV.out.2.1
      have cHQV1 := HQV.out.2.2.1
      have cHQV2 := HQV.out.2.2.2.1
      have cHVV0 := HVV.out.2.1
      go_wp2_with fail
      obtain ⟨W19, hWD⟩ : ∃ xw9, W18.drew = xw9 := ⟨_, rfl⟩
      have hB : Below W18.heap.size W18 W19 := by rw [← hWD]; exact Below.drewN' (Below.refl _ _) 1
      clear cHA0 cHA1 cHA2 cHQV0 cHQV1 cHQV2 cHVV0
      replace HA := Lib.hid (HA.out.below hB)
      replace HB := Lib.hid (HB.out.trans (hB.mono HB.out.size))
      replace HI := Lib.hid (HI.out.grow hB)
      replace HIT := Lib.hid (HIT.out.grow hB)
      replace HV := Lib.hid (HV.out.below hB)
      replace HT := Lib.hid (fun j hj => keep_below hB _ _ (HT.out j hj))
      replace HSL := Lib.hid (HSL.out.below hB)
      replace HQV := Lib.hid (HQV.out.below hB)
      replace HQI := Lib.hid (HQI.out.grow hB)
      replace HUO := Lib.hid (HUO.out.grow hB)
      replace HUV := Lib.hid (HUV.out.grow hB)
      replace HVV := Lib.hid (HVV.out.below hB)
      replace HTI := Lib.hid (HTI.out.grow hB)
      replace HU3 := Lib.hid (HU3.out.grow hB)
      clear hB
      refine wp_region_held_drew (S := fun w' => w'.cell? ⟨w.heap.size, 0, none⟩ = some (.slice so p.s.length sc) ∧ w'.cell? ⟨w.heap.size, 1, none⟩ = some (.slice io NL ic) ∧ w'.cell? ⟨w.heap.size, 2, none⟩ = some (.int .i64 p.f) ∧ w'.cell? ⟨rq, 0, none⟩ = some (.slice (some ⟨rs, 0, none⟩) 1 1) ∧ w'.cell? ⟨rq, 1, none⟩ = some (.slice io KK ic) ∧ w'.cell? ⟨rq, 2, none⟩ = some (.int .i64 p.f) ∧ w'.cell? ⟨W14.heap.size, 0, none⟩ = some (uv)) (by kernel_rfl) (by rw [hWD]; exact ⟨HA.out.2.1, HA.out.2.2.1, HA.out.2.2.2.1, HQV.out.2.1, HQV.out.2.2.1, HQV.out.2.2.2.1, HVV.out.2.1⟩) (fun hHeld => ?_)
      rw [hWD] at hHeld ⊢
      clear hWD
      refine wpAnyH_take (i := 0) (v := ?_) rfl (by kernel_rfl) (by kernel_rfl) (by kernel_rfl) (fun _ _ _ h => h) (Or.inl ⟨by rfl, ?_⟩) (by assumption) ?_
      rotate_left
      · (intro w hSw; (try dsimp only at hSw); go_simp; try with_reducible rfl)
      simp only [Act.put, List.getElem_toArray, List.getElem_cons_zero, List.setIfInBounds_toArray, List.set_cons_zero, List.set_cons_succ]
      refine wpAnyH_ready (rs := [1]) (by kernel_rfl) (by simp) ?_
      refine AllReadyH.cons (o := _) rfl (fun K hK => ?_) ?_
      · clear hHeld
        go_simp
        refine (kind_calls _ V2 _ HUV.out).mono ?_
        rintro e W20 ⟨rfl, hB⟩
        replace HA := Lib.hid (HA.out.below hB)
        replace HB := Lib.hid (HB.out.trans (hB.mono HB.out.size))
        replace HI := Lib.hid (HI.out.grow hB)
        replace HIT := Lib.hid (HIT.out.grow hB)
        replace HV := Lib.hid (HV.out.below hB)
        replace HT := Lib.hid (fun j hj => keep_below hB _ _ (HT.out j hj))
        replace HSL := Lib.hid (HSL.out.below hB)
        replace HQV := Lib.hid (HQV.out.below hB)
        replace HQI := Lib.hid (HQI.out.grow hB)
        replace HUO := Lib.hid (HUO.out.grow hB)
        replace HUV := Lib.hid (HUV.out.grow hB)
        replace HVV := Lib.hid (HVV.out.below hB)
        replace HTI := Lib.hid (HTI.out.grow hB)
        replace HU3 := Lib.hid (HU3.out.grow hB)
        rw [HKD.out]
        clear hB
        refine hK.out _ _ ?_ (fun hHeld => ?_)
        · exact ⟨HA.out.2.1, HA.out.2.2.1, HA.out.2.2.2.1, HQV.out.2.1, HQV.out.2.2.1, HQV.out.2.2.2.1, HVV.out.2.1⟩
        clear hK K
        refine wpAnyH_take (i := 2) (v := ?_) rfl (by kernel_rfl) (by kernel_rfl) (by kernel_rfl) (fun _ _ _ h => h) (Or.inl ⟨by rfl, ?_⟩) (by assumption) ?_
        rotate_left
        · (intro w hSw; (try dsimp only at hSw); go_simp; try with_reducible rfl)
        simp only [Act.put, List.getElem_toArray, List.getElem_cons_succ, List.getElem_cons_zero, List.setIfInBounds_toArray, List.set_cons_zero, List.set_cons_succ]
        refine wpAnyH_take (i := 3) (v := ?_) rfl (by kernel_rfl) (by kernel_rfl) (by kernel_rfl) (fun _ _ _ h => h) (Or.inl ⟨by rfl, ?_⟩) (by assumption) ?_
        rotate_left
        · (intro w hSw; (try dsimp only at hSw); go_simp; try with_reducible rfl)
        simp only [Act.put, List.getElem_toArray, List.getElem_cons_succ, List.getElem_cons_zero, List.setIfInBounds_toArray, List.set_cons_zero, List.set_cons_succ]
        refine wpAnyH_take (i := 4) (v := ?_) rfl (by kernel_rfl) (by kernel_rfl) (by kernel_rfl) (fun _ _ _ h => h) (Or.inl ⟨by rfl, ?_⟩) (by assumption) ?_
        rotate_left
        · (intro w hSw; (try dsimp only at hSw); go_simp; try with_reducible rfl)
        simp only [Act.put, List.getElem_toArray, List.getElem_cons_succ, List.getElem_cons_zero, List.setIfInBounds_toArray, List.set_cons_zero, List.set_cons_succ]
        refine wpAnyH_ready (rs := [5]) (by kernel_rfl) (by simp) ?_
        refine AllReadyH.cons (o := _) rfl (fun K hK => ?_) ?_
        · clear hHeld
          go_simp
          refine (tight_calls _ V2 _ HUV.out HG2.out.1 HG2.out.2.1 HT.out).mono ?_
          rintro e W21 ⟨rfl, hB⟩
          replace HA := Lib.hid (HA.out.below hB)
          replace HB := Lib.hid (HB.out.trans (hB.mono HB.out.size))
          replace HI := Lib.hid (HI.out.grow hB)
          replace HIT := Lib.hid (HIT.out.grow hB)
          replace HV := Lib.hid (HV.out.below hB)
          replace HT := Lib.hid (fun j hj => keep_below hB _ _ (HT.out j hj))
          replace HSL := Lib.hid (HSL.out.below hB)
          replace HQV := Lib.hid (HQV.out.below hB)
          replace HQI := Lib.hid (HQI.out.grow hB)
          replace HUO := Lib.hid (HUO.out.grow hB)
          replace HUV := Lib.hid (HUV.out.grow hB)
          replace HVV := Lib.hid (HVV.out.below hB)
          replace HTI := Lib.hid (HTI.out.grow hB)
          replace HU3 := Lib.hid (HU3.out.grow hB)
          rw [HDT.out]
          clear hB
          refine hK.out _ _ ?_ (fun hHeld => ?_)
          · exact ⟨HA.out.2.1, HA.out.2.2.1, HA.out.2.2.2.1, HQV.out.2.1, HQV.out.2.2.1, HQV.out.2.2.2.1, HVV.out.2.1⟩
          clear hK K
          refine wpAnyH_take (i := 6) (v := ?_) rfl (by kernel_rfl) (by kernel_rfl) (by kernel_rfl) (fun _ _ _ h => h) (Or.inl ⟨by rfl, ?_⟩) (by assumption) ?_
          rotate_left
          · (intro w hSw; (try dsimp only at hSw); go_simp; try with_reducible rfl)
          simp only [Act.put, List.getElem_toArray, List.getElem_cons_succ, List.getElem_cons_zero, List.setIfInBounds_toArray, List.set_cons_zero, List.set_cons_succ]
          refine wpAnyH_take (i := 7) (v := ?_) rfl (by kernel_rfl) (by kernel_rfl) (by kernel_rfl) (fun _ _ _ h => h) (Or.inl ⟨by rfl, ?_⟩) (by assumption) ?_
          rotate_left
          · (intro w hSw; (try dsimp only at hSw); go_simp; try with_reducible rfl)
          simp only [Act.put, List.getElem_toArray, List.getElem_cons_succ, List.getElem_cons_zero, List.setIfInBounds_toArray, List.set_cons_zero, List.set_cons_succ]
          refine wpAnyH_take (i := 8) (v := ?_) rfl (by kernel_rfl) (by kernel_rfl) (by kernel_rfl) (fun _ _ _ h => h) (Or.inl ⟨by rfl, ?_⟩) (by assumption) ?_
          rotate_left
          · (intro w hSw; (try dsimp only at hSw); go_simp; try with_reducible rfl)
          simp only [Act.put, List.getElem_toArray, List.getElem_cons_succ, List.getElem_cons_zero, List.setIfInBounds_toArray, List.set_cons_zero, List.set_cons_succ]
          refine wpAnyH_take (i := 11) (v := ?_) rfl (by kernel_rfl) (by kernel_rfl) (by kernel_rfl) (fun _ _ _ h => h) (Or.inl ⟨by rfl, ?_⟩) (by assumption) ?_
          rotate_left
          · (intro w hSw; (try dsimp only at hSw); go_simp; try with_reducible rfl)
          simp only [Act.put, List.getElem_toArray, List.getElem_cons_succ, List.getElem_cons_zero, List.setIfInBounds_toArray, List.set_cons_zero, List.set_cons_succ]
          refine wpAnyH_take (i := 14) (v := ?_) rfl (by kernel_rfl) (by kernel_rfl) (by kernel_rfl) (fun _ _ _ h => h) (Or.inl ⟨by rfl, ?_⟩) (by assumption) ?_
          rotate_left
          · (intro w hSw; (try dsimp only at hSw); go_simp; try with_reducible rfl)
          simp only [Act.put, List.getElem_toArray, List.getElem_cons_succ, List.getElem_cons_zero, List.setIfInBounds_toArray, List.set_cons_zero, List.set_cons_succ]
          refine wpAnyH_take (i := 15) (v := ?_) rfl (by kernel_rfl) (by kernel_rfl) (by kernel_rfl) (fun _ _ _ h => h) (Or.inl ⟨by rfl, ?_⟩) (by assumption) ?_
          rotate_left
          · (intro w hSw; (try dsimp only at hSw); go_simp; try with_reducible rfl)
          simp only [Act.put, List.getElem_toArray, List.getElem_cons_succ, List.getElem_cons_zero, List.setIfInBounds_toArray, List.set_cons_zero, List.set_cons_succ]
          refine wpAnyH_take (i := 16) (v := ?_) rfl (by kernel_rfl) (by kernel_rfl) (by kernel_rfl) (fun _ _ _ h => h) (Or.inl ⟨by rfl, ?_⟩) (by assumption) ?_
          rotate_left
          · (intro w hSw; (try dsimp only at hSw); go_simp; try with_reducible rfl)
          simp only [Act.put, List.getElem_toArray, List.getElem_cons_succ, List.getElem_cons_zero, List.setIfInBounds_toArray, List.set_cons_zero, List.set_cons_succ]
          refine wpAnyH_ready (rs := [9]) (by kernel_rfl) (by simp) ?_
          refine AllReadyH.cons (o := _) rfl (fun K hK => ?_) ?_
          · clear hHeld
            go_simp
            refine (vlen_calls _ V2 _ HUV.out).mono ?_
            rintro e W22 ⟨rfl, hB⟩
            replace HA := Lib.hid (HA.out.below hB)
            replace HB := Lib.hid (HB.out.trans (hB.mono HB.out.size))
            replace HI := Lib.hid (HI.out.grow hB)
            replace HIT := Lib.hid (HIT.out.grow hB)
            replace HV := Lib.hid (HV.out.below hB)
            replace HT := Lib.hid (fun j hj => keep_below hB _ _ (HT.out j hj))
            replace HSL := Lib.hid (HSL.out.below hB)
            replace HQV := Lib.hid (HQV.out.below hB)
            replace HQI := Lib.hid (HQI.out.grow hB)
            replace HUO := Lib.hid (HUO.out.grow hB)
            replace HUV := Lib.hid (HUV.out.grow hB)
            replace HVV := Lib.hid (HVV.out.below hB)
            replace HTI := Lib.hid (HTI.out.grow hB)
            replace HU3 := Lib.hid (HU3.out.grow hB)
            clear hB
            refine hK.out _ _ ?_ (fun hHeld => ?_)
            · exact ⟨HA.out.2.1, HA.out.2.2.1, HA.out.2.2.2.1, HQV.out.2.1, HQV.out.2.2.1, HQV.out.2.2.2.1, HVV.out.2.1⟩
            clear hK K
            refine wpAnyH_ready (rs := [10]) (by kernel_rfl) (by simp) ?_
            refine AllReadyH.cons (o := _) rfl (fun K hK => ?_) ?_
            · clear hHeld
              go_simp
              obtain ⟨W23, hWn⟩ : ∃ xw9, W22.alloc (.cells #[.int .i64 (V2.len : Int)] 3) = xw9 := ⟨_, rfl⟩
              have hB : Below W22.heap.size W22 W23 := by rw [← hWn]; exact below_new _ _
              have hNB : Slc W23 (fun _ => True) (.slice (some ⟨W22.heap.size, 0, none⟩) 1 1) 1 (ints [(V2.len : Int)]) := by
                rw [← hWn]; exact (Slc.owned (World.ownsRow_lit (base := 0) (e := 3) (size := 1) W22 #[.int .i64 (V2.len : Int)] 1 (Nat.zero_le _) (by unfold maxLen; omega) rfl)).keep (Kept.refl _ _) (fun _ _ _ => trivial)
              rw [hWn]
              clear hWn
              obtain ⟨bl, hnm⟩ : ∃ x, W22.heap.size = x := ⟨_, rfl⟩
              rw [hnm] at hNB ⊢
              replace HA := Lib.hid (HA.out.below hB)
              replace HB := Lib.hid (HB.out.trans (hB.mono HB.out.size))
              replace HI := Lib.hid (HI.out.grow hB)
              replace HIT := Lib.hid (HIT.out.grow hB)
              replace HV := Lib.hid (HV.out.below hB)
              replace HT := Lib.hid (fun j hj => keep_below hB _ _ (HT.out j hj))
              replace HSL := Lib.hid (HSL.out.below hB)
              replace HQV := Lib.hid (HQV.out.below hB)
              replace HQI := Lib.hid (HQI.out.grow hB)
              replace HUO := Lib.hid (HUO.out.grow hB)
              replace HUV := Lib.hid (HUV.out.grow hB)
              replace HVV := Lib.hid (HVV.out.below hB)
              replace HTI := Lib.hid (HTI.out.grow hB)
              replace HU3 := Lib.hid (HU3.out.grow hB)
              have HSM := Lib.hid hNB
              clear hNB hB hnm
              refine hK.out _ _ ?_ (fun hHeld => ?_)
              · exact ⟨HA.out.2.1, HA.out.2.2.1, HA.out.2.2.2.1, HQV.out.2.1, HQV.out.2.2.1, HQV.out.2.2.2.1, HVV.out.2.1⟩
              clear hK K
              refine wpAnyH_take (i := 12) (v := ?_) rfl (by kernel_rfl) (by kernel_rfl) (by kernel_rfl) (fun _ _ _ h => h) (Or.inl ⟨by rfl, ?_⟩) (by assumption) ?_
              rotate_left
              · (intro w hSw; (try dsimp only at hSw); go_simp; try with_reducible rfl)
              simp only [Act.put, List.getElem_toArray, List.getElem_cons_succ, List.getElem_cons_zero, List.setIfInBounds_toArray, List.set_cons_zero, List.set_cons_succ]
              refine wpAnyH_ready (rs := [13]) (by kernel_rfl) (by simp) ?_
              refine AllReadyH.cons (o := _) rfl (fun K hK => ?_) ?_
              · clear hHeld
                go_simp
                refine (plain_calls_at 40 (fun _ => True) ([(V2.len : Int)], V2) _ _ _ (gA_dA HGA.out) ⟨HSM.out, HUV.out.wide (fun _ _ _ => trivial)⟩).mono ?_
                rintro e W24 ⟨up, rfl, hup, hB⟩
                replace HA := Lib.hid (HA.out.below hB)
                replace HB := Lib.hid (HB.out.trans (hB.mono HB.out.size))
                replace HI := Lib.hid (HI.out.grow hB)
                replace HIT := Lib.hid (HIT.out.grow hB)
                replace HV := Lib.hid (HV.out.below hB)
                replace HT := Lib.hid (fun j hj => keep_below hB _ _ (HT.out j hj))
                replace HSL := Lib.hid (HSL.out.below hB)
                replace HQV := Lib.hid (HQV.out.below hB)
                replace HQI := Lib.hid (HQI.out.grow hB)
                replace HUO := Lib.hid (HUO.out.grow hB)
                replace HUV := Lib.hid (HUV.out.grow hB)
                replace HVV := Lib.hid (HVV.out.below hB)
                replace HTI := Lib.hid (HTI.out.grow hB)
                replace HU3 := Lib.hid (HU3.out.grow hB)
                replace HSM := Lib.hid (HSM.out.below hB)
                rw [HPL.out] at hup
                have HUP := Lib.hid hup
                obtain ⟨uso, usc, uio, uic, rfl, _⟩ := hup.opened
                clear hup
                clear hB
                refine hK.out _ _ ?_ (fun hHeld => ?_)
                · exact ⟨HA.out.2.1, HA.out.2.2.1, HA.out.2.2.2.1, HQV.out.2.1, HQV.out.2.2.1, HQV.out.2.2.2.1, HVV.out.2.1⟩
                clear hK K
                refine wpAnyH_ready (rs := [17]) (by kernel_rfl) (by simp) ?_
                refine AllReadyH.cons (o := _) rfl (fun K hK => ?_) ?_
                · clear hHeld
                  go_simp
                  refine (rlist_calls _ LP p.f _ HU3.out).mono ?_
                  rintro e W25 ⟨uq, rfl, huq, hB⟩
                  replace HA := Lib.hid (HA.out.below hB)
                  replace HB := Lib.hid (HB.out.trans (hB.mono HB.out.size))
                  replace HI := Lib.hid (HI.out.grow hB)
                  replace HIT := Lib.hid (HIT.out.grow hB)
                  replace HV := Lib.hid (HV.out.below hB)
                  replace HT := Lib.hid (fun j hj => keep_below hB _ _ (HT.out j hj))
                  replace HSL := Lib.hid (HSL.out.below hB)
                  replace HQV := Lib.hid (HQV.out.below hB)
                  replace HQI := Lib.hid (HQI.out.grow hB)
                  replace HUO := Lib.hid (HUO.out.grow hB)
                  replace HUV := Lib.hid (HUV.out.grow hB)
                  replace HVV := Lib.hid (HVV.out.below hB)
                  replace HTI := Lib.hid (HTI.out.grow hB)
                  replace HU3 := Lib.hid (HU3.out.grow hB)
                  replace HSM := Lib.hid (HSM.out.below hB)
                  replace HUP := Lib.hid (HUP.out.grow hB)
                  have HUQ := Lib.hid huq
                  obtain ⟨qso, qsc, qio, qic, rfl, _⟩ := huq.opened
                  clear huq
                  clear hB
                  refine hK.out _ _ ?_ (fun hHeld => ?_)
                  · exact ⟨HA.out.2.1, HA.out.2.2.1, HA.out.2.2.2.1, HQV.out.2.1, HQV.out.2.2.1, HQV.out.2.2.2.1, HVV.out.2.1⟩
                  clear hK K
                  refine wpAnyH_ready (rs := [18]) (by kernel_rfl) (by simp) ?_
                  refine AllReadyH.cons (o := _) rfl (fun K hK => ?_) ?_
                  · clear hHeld
                    go_simp
                    refine (psame_calls 40 _ _ (.mk [(LP.length : Int)] LP p.f) (.mk [(LP.length : Int)] LP p.f) _ _ 40 _ HNI.out HNI.out HUP.out HUQ.out).mono ?_
                    rintro e W26 ⟨rfl, hB⟩
                    replace HA := Lib.hid (HA.out.below hB)
                    replace HB := Lib.hid (HB.out.trans (hB.mono HB.out.size))
                    replace HI := Lib.hid (HI.out.grow hB)
                    replace HIT := Lib.hid (HIT.out.grow hB)
                    replace HV := Lib.hid (HV.out.below hB)
                    replace HT := Lib.hid (fun j hj => keep_below hB _ _ (HT.out j hj))
                    replace HSL := Lib.hid (HSL.out.below hB)
                    replace HQV := Lib.hid (HQV.out.below hB)
                    replace HQI := Lib.hid (HQI.out.grow hB)
                    replace HUO := Lib.hid (HUO.out.grow hB)
                    replace HUV := Lib.hid (HUV.out.grow hB)
                    replace HVV := Lib.hid (HVV.out.below hB)
                    replace HTI := Lib.hid (HTI.out.grow hB)
                    replace HU3 := Lib.hid (HU3.out.grow hB)
                    replace HSM := Lib.hid (HSM.out.below hB)
                    replace HUP := Lib.hid (HUP.out.grow hB)
                    replace HUQ := Lib.hid (HUQ.out.grow hB)
                    rw [pq_yes rfl]
                    clear hB
                    refine hK.out _ _ ?_ (fun hHeld => ?_)
                    · exact ⟨HA.out.2.1, HA.out.2.2.1, HA.out.2.2.2.1, HQV.out.2.1, HQV.out.2.2.1, HQV.out.2.2.2.1, HVV.out.2.1⟩
                    clear hK K
                    refine wpAnyH_take (i := 19) (v := ?_) rfl (by kernel_rfl) (by kernel_rfl) (by kernel_rfl) (fun _ _ _ h => h) (Or.inl ⟨by rfl, ?_⟩) (by assumption) ?_
                    rotate_left
                    · (intro w hSw; (try dsimp only at hSw); go_simp; try with_reducible rfl)
                    simp only [Act.put, List.getElem_toArray, List.getElem_cons_succ, List.getElem_cons_zero, List.setIfInBounds_toArray, List.set_cons_zero, List.set_cons_succ]
                    refine wpAnyH_take (i := 20) (v := ?_) rfl (by kernel_rfl) (by kernel_rfl) (by kernel_rfl) (fun _ _ _ h => h) (Or.inl ⟨by rfl, ?_⟩) (by assumption) ?_
                    rotate_left
                    · (intro w hSw; (try dsimp only at hSw); go_simp; try with_reducible rfl)
                    simp only [Act.put, List.getElem_toArray, List.getElem_cons_succ, List.getElem_cons_zero, List.setIfInBounds_toArray, List.set_cons_zero, List.set_cons_succ]
                    refine wpAnyH_ready (rs := [21]) (by kernel_rfl) (by simp) ?_
                    refine AllReadyH.cons (o := _) rfl (fun K hK => ?_) ?_
                    · clear hHeld
                      go_simp
                      refine (awake15_calls _ HT.out).mono ?_
                      rintro e W27 ⟨rfl, hB⟩
                      replace HA := Lib.hid (HA.out.below hB)
                      replace HB := Lib.hid (HB.out.trans (hB.mono HB.out.size))
                      replace HI := Lib.hid (HI.out.grow hB)
                      replace HIT := Lib.hid (HIT.out.grow hB)
                      replace HV := Lib.hid (HV.out.below hB)
                      replace HT := Lib.hid (fun j hj => keep_below hB _ _ (HT.out j hj))
                      replace HSL := Lib.hid (HSL.out.below hB)
                      replace HQV := Lib.hid (HQV.out.below hB)
                      replace HQI := Lib.hid (HQI.out.grow hB)
                      replace HUO := Lib.hid (HUO.out.grow hB)
                      replace HUV := Lib.hid (HUV.out.grow hB)
                      replace HVV := Lib.hid (HVV.out.below hB)
                      replace HTI := Lib.hid (HTI.out.grow hB)
                      replace HU3 := Lib.hid (HU3.out.grow hB)
                      replace HSM := Lib.hid (HSM.out.below hB)
                      replace HUP := Lib.hid (HUP.out.grow hB)
                      replace HUQ := Lib.hid (HUQ.out.grow hB)
                      clear hB
                      refine hK.out _ _ ?_ (fun hHeld => ?_)
                      · exact ⟨HA.out.2.1, HA.out.2.2.1, HA.out.2.2.2.1, HQV.out.2.1, HQV.out.2.2.1, HQV.out.2.2.2.1, HVV.out.2.1⟩
                      clear hK K
                      refine wpAnyH_take (i := 22) (v := ?_) rfl (by kernel_rfl) (by kernel_rfl) (by kernel_rfl) (fun _ _ _ h => h) (Or.inl ⟨by rfl, ?_⟩) (by assumption) ?_
                      rotate_left
                      · (intro w hSw; (try dsimp only at hSw); go_simp; try with_reducible rfl)
                      simp only [Act.put, List.getElem_toArray, List.getElem_cons_succ, List.getElem_cons_zero, List.setIfInBounds_toArray, List.set_cons_zero, List.set_cons_succ]
                      refine wpAnyH_take (i := 23) (v := ?_) rfl (by kernel_rfl) (by kernel_rfl) (by kernel_rfl) (fun _ _ _ h => h) (Or.inl ⟨by rfl, ?_⟩) (by assumption) ?_
                      rotate_left
                      · (intro w hSw; (try dsimp only at hSw); go_simp; try with_reducible rfl)
                      simp only [Act.put, List.getElem_toArray, List.getElem_cons_succ, List.getElem_cons_zero, List.setIfInBounds_toArray, List.set_cons_zero, List.set_cons_succ]
                      refine wpAnyH_done (by kernel_rfl) ?_ _
                      clear hHeld
                      have cHA0 := HA.out.2.1
                      have cHA1 := HA.out.2.2.1
                      have cHA2 := HA.out.2.2.2.1
                      have cHQV0 := HQV.out.2.1
                      have cHQV1 := HQV.out.2.2.1
                      have cHQV2 := HQV.out.2.2.2.1
                      have cHVV0 := HVV.out.2.1
                      go_wp2_with fail
                      go_ret
                      exact ⟨rfl, HB.out⟩
                    exact AllReadyH.nil
                  exact AllReadyH.nil
                exact AllReadyH.nil
              exact AllReadyH.nil
            exact AllReadyH.nil
          exact AllReadyH.nil
        exact AllReadyH.nil
      exact AllReadyH.nil
    exact AllReadyH.nil
  exact AllReadyH.nil

theorem pickAlong_frame (w : World) (u : Value) (p : PA) (n : Nat) (hl : lo n p) (hp : IsP w (fun _ => True) u p) (outer : Int) (_ : (Lit.int .i64 outer).wf = true) (inner : Int) (_ : (Lit.int .i64 inner).wf = true) (v : Value) (at_ : List Int) (hr : RowC w v (at_.map (Value.int .i64))) (hz : ∀ z ∈ at_, (Lit.int .i64 z).wf = true) (hm : at_.length ≤ maxLen) (hT : TabAt w) :
    Calls Tryz.prog 3 #[u, .int .i64 outer, .int .i64 inner, v] w fun e w' => e = .returned (.bool true) ∧ Below w.heap.size w w' :=
  pickAlong_walk p u n outer inner v at_ w hl hp (by have := hr.slc; rw [List.length_map] at this; exact this) hm (fun z h => wf_i64 (hz z h)) hT
end Go.Proofs.YtpcighgflolojaaGreatDoor

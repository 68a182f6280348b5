/- Package value, walked: has, Alike, Same. -/
import Derived.Test.YtbdhibcbpgjbmaaGreatDoorVaR
import Derived.Test.YtbdhibcbpgjbmaaGreatDoorShW
namespace Go.Proofs.YtbdhibcbpgjbmaaGreatDoor
open Go.RowKit Fl
set_option linter.unusedVariables false
set_option maxRecDepth 100000

theorem vhas_yes {ok : Nat → Prop} (u : Value) (V : VV) (k : Nat) (w : World) (h : IsV w ok u V) (hk : k < V.len) : Calls Tryz.prog 140 #[.agg #[u], .int .i64 (k : Int)] w (BoolIs true w) := by
 have hsx := h.store
 have HV := Lib.hid (h.grow (below_new w (.cells #[u] 36)))
 have HB := Lib.hid (below_new w (.cells #[u] 36))
 clear h
 go_enter Tryz.func140, Tryz.ntmps140
 go_wp2_with fail
 refine (vlen_calls _ _ _ HV.out).mono ?_
 rintro e w2 ⟨rfl, hB⟩
 have HB2 := Lib.hid (HB.out.trans (hB.mono HB.out.size))
 clear hB
 go_wp2_with fail
 go_ret
 exact BoolIs.mk rfl HB2.out
theorem itA_kind (t : List Int × VV → PA) (V : VV) (i : Nat) : (itA t V i).1 = V.cls := by
 unfold itA
 by_cases c1 : V.cls = 1
 ·rw [if_pos c1]; exact c1.symm
 ·rw [if_neg c1]
  by_cases c2 : V.cls = 2
  ·rw [if_pos c2]; exact c2.symm
  ·rw [if_neg c2]
   cases V <;> simp_all [VV.cls]
/-- value.Same, at depth d. -/
def VSameAt (d : Nat) : Prop := ∀ (ok ok2 : Nat → Prop) (A B : List Int × VV) (sh u sh2 u2 : Value) (w : World), gA d A → gA d B → IsArr w ok sh u A → IsArr w ok2 sh2 u2 B → Calls Tryz.prog 141 #[.agg #[sh, u], .agg #[sh2, u2]] w (BoolIs (pq (plA d A) (plA d B)) w)
theorem iq_kind {t t2 : List Int × VV → PA} {V V2 : VV} {i k : Nat} (h : V.cls ≠ V2.cls) : iq (itA t V i) (itA t2 V2 k) = false := iq_no (fun e => h (by rw [← itA_kind t V i, ← itA_kind t2 V2 k, e]))
theorem iq_char {t : List Int × VV → PA} {V V2 : VV} {i k : Nat} (h : V.cls = 1) (h2 : V2.cls = 1) : iq (itA t V i) (itA t V2 k) = (atI V.text 0 (i : Int) == atI V2.text 0 (k : Int)) := by
 have e1 : itA t V i = (1, 0, atI V.text 0 (i : Int), []) := by unfold itA; rw [if_pos h]
 have e2 : itA t V2 k = (1, 0, atI V2.text 0 (k : Int), []) := by unfold itA; rw [if_pos h2]
 rw [e1, e2]
 by_cases e : atI V.text 0 (i : Int) = atI V2.text 0 (k : Int)
 ·rw [e, iq_yes rfl]; simp
 ·rw [iq_no (fun h => e (congrArg (fun z : PI => z.2.2.1) h))]; simp [e]
theorem iq_num {t : List Int × VV → PA} {V V2 : VV} {i k : Nat} (h : V.cls = 0) (h2 : V2.cls = 0) : iq (itA t V i) (itA t V2 k) = (atI V.nums 0 (i : Int) == atI V2.nums 0 (k : Int)) := by
 have e1 : itA t V i = (0, atI V.nums 0 (i : Int), 0, []) := by unfold itA; rw [if_neg (by omega), if_neg (by omega)]
 have e2 : itA t V2 k = (0, atI V2.nums 0 (k : Int), 0, []) := by unfold itA; rw [if_neg (by omega), if_neg (by omega)]
 rw [e1, e2]
 by_cases e : atI V.nums 0 (i : Int) = atI V2.nums 0 (k : Int)
 ·rw [e, iq_yes rfl]; simp
 ·rw [iq_no (fun h => e (congrArg (fun z : PI => z.2.1) h))]; simp [e]
theorem iq_box {t : List Int × VV → PA} {V V2 : VV} {i k : Nat} (h : V.cls = 2) (h2 : V2.cls = 2) : iq (itA t V i) (itA t V2 k) = pq (t (atI V.boxs ([], .none) (i : Int))) (t (atI V2.boxs ([], .none) (k : Int))) := by
 have e1 : itA t V i = (2, 0, 0, [t (atI V.boxs ([], .none) (i : Int))]) := by unfold itA; rw [if_neg (by omega), if_pos h]
 have e2 : itA t V2 k = (2, 0, 0, [t (atI V2.boxs ([], .none) (k : Int))]) := by unfold itA; rw [if_neg (by omega), if_pos h2]
 rw [e1, e2]
 by_cases e : t (atI V.boxs ([], .none) (i : Int)) = t (atI V2.boxs ([], .none) (k : Int))
 ·rw [e, iq_yes rfl, pq_yes rfl]
 ·rw [iq_no (fun h => e (by have := congrArg (fun z : PI => z.2.2.2) h; simpa using this)), pq_no e]
theorem atI_mem {α : Type} {l : List α} {d : α} {i : Nat} (h : i < l.length) : atI l d (i : Int) ∈ l := by rw [atI_nat h]; exact List.getElem_mem h
theorem nums_len {V : VV} (h : V.cls = 0) (hk : V.kind ≠ 0) : V.nums.length = V.len := by cases V <;> simp_all [VV.cls, VV.nums, VV.len, VV.kind]
theorem ord_beq {x y : Nat} (hx : Num x) (hy : Num y) : ∃ o, FloatKind.f64.format.order x y = o ∧ (o == some .eq) = (x == y) := by
 by_cases h : x = y
 ·subst h
  exact ⟨some .eq, ord_eq hx.1 hx.1 rfl, by simp⟩
 ·have hv : V x ≠ V y := fun e => h (V_inj hx hy e)
  have hb : (x == y) = false := by simpa using h
  rcases ord_ne hx.1 hy.1 hv with ho | ho
  ·exact ⟨_, ho, by rw [hb]; rfl⟩
  ·exact ⟨_, ho, by rw [hb]; rfl⟩
theorem numV_any {V : VV} (hok : V.ok) (hnm : V.nm) (i : Nat) : Num (atI V.nums 0 (i : Int)) := by
 by_cases h : i < V.nums.length
 ·exact VV.nums_num hok hnm _ (atI_mem h)
 ·rw [atI_neg (by omega)]; exact ⟨fin_zero, fun _ => rfl⟩

set_option maxHeartbeats 8000000 in
theorem alike_calls (d : Nat) (ih : VSameAt d) {ok ok2 : Nat → Prop} (u u2 : Value) (V V2 : VV) (i k : Nat) (w : World) (hok : V.ok) (hok2 : V2.ok) (hnm : V.nm) (hnm2 : V2.nm) (hbx : ∀ a ∈ V.boxs, gA d a) (hbx2 : ∀ a ∈ V2.boxs, gA d a)
  (hk : i < V.len) (hk2 : k < V2.len) (hv : IsV w ok u V) (hv2 : IsV w ok2 u2 V2) : Calls Tryz.prog 122 #[.agg #[u], .int .i64 (i : Int), .agg #[u2], .int .i64 (k : Int)] w (BoolIs (iq (itA (plA d) V i) (itA (plA d) V2 k)) w) := by
 have HIH := Lib.hid ih
 have HOK := Lib.hid (And.intro hok hok2)
 have HNM := Lib.hid (And.intro hnm hnm2)
 have HBX := Lib.hid (And.intro hbx hbx2)
 have HKK := Lib.hid (And.intro hk hk2)
 have hsx := hv.store; have hsx2 := hv2.store
 obtain ⟨W1, hW1⟩ : ∃ W1, W1 = (w.alloc (.cells #[u] 36)).alloc (.cells #[u2] 36) := ⟨_, rfl⟩
 have HA := Lib.hid (show At1 W1 w.heap.size u by rw [hW1]; exact (At1.new _ _ _).below (below_new _ _))
 have HA2 := Lib.hid (show At1 W1 (w.heap.size + 1) u2 by rw [hW1]; have := At1.new (w.alloc (.cells #[u] 36)) u2 36; simpa using this)
 have HB := Lib.hid (show Below w.heap.size w W1 by rw [hW1]; exact (below_new _ _).alloc (by simp) _)
 have HV := Lib.hid (hv.grow HB.out)
 have HV2 := Lib.hid (hv2.grow HB.out)
 have HFW := Lib.hid hW1.symm; clear ih hok hok2 hnm hnm2 hbx hbx2 hk hk2 hv hv2 hW1
 go_enter Tryz.func122, Tryz.ntmps122
 go_wp2_with fail
 rw [HFW.out]
 by_cases hcl : V.cls = V2.cls
 ·obtain ⟨k1, hk1⟩ : ∃ k1, V.cls = k1 := ⟨_, rfl⟩
  have HC1 := Lib.hid hk1
  have HC2 := Lib.hid (show V2.cls = k1 by rw [← hcl]; exact hk1)
  have hne : (k1 != k1) = false := by simp
  clear hcl hk1
  obtain ⟨W11, hWD⟩ : ∃ X, W1.drew = X := ⟨_, rfl⟩
  have hB : Below W1.heap.size W1 W11 := by rw [← hWD]; exact Below.drewN' (Below.refl _ _) 1
  replace HA := HA.go hB; replace HA2 := HA2.go hB; replace HB := cb hB HB; replace HV := HV.go hB; replace HV2 := HV2.go hB; clear hB
  refine rgn (S := fun w' => w'.cell? ⟨w.heap.size, 0, none⟩ = some (u) ∧ w'.cell? ⟨w.heap.size + 1, 0, none⟩ = some (u2)) hWD ⟨HA.out.2.1, HA2.out.2.1⟩ (fun hHeld => ?_)
  clear hWD; apply tk 0; apply tk 1
  apply rdy 2; intro K hK; clear hHeld; go_simp
  refine (vhas_yes _ _ _ _ HV.out HKK.out.1).mono ?_
  rintro e W12 ⟨rfl, hB⟩
  replace HA := HA.go hB; replace HA2 := HA2.go hB; replace HB := cb hB HB; replace HV := HV.go hB; replace HV2 := HV2.go hB; clear hB
  try go_simp
  refine hK.out _ _ ⟨HA.out.2.1, HA2.out.2.1⟩ (fun hHeld => ?_)
  clear hK K; apply tk 3; apply tk 4; apply tk 5; apply tk 6
  apply rdy 7; intro K hK; clear hHeld; go_simp
  refine (vhas_yes _ _ _ _ HV2.out HKK.out.2).mono ?_
  rintro e W13 ⟨rfl, hB⟩
  replace HA := HA.go hB; replace HA2 := HA2.go hB; replace HB := cb hB HB; replace HV := HV.go hB; replace HV2 := HV2.go hB; clear hB
  try go_simp
  refine hK.out _ _ ⟨HA.out.2.1, HA2.out.2.1⟩ (fun hHeld => ?_)
  clear hK K; apply tk 8; apply tk 9; apply tk 10; apply tk 11; apply tk 13
  apply rdy 12; intro K hK; clear hHeld; go_simp
  refine (class_calls _ _ _ HV.out).mono ?_
  rintro e W14 ⟨rfl, hB⟩
  replace HA := HA.go hB; replace HA2 := HA2.go hB; replace HB := cb hB HB; replace HV := HV.go hB; replace HV2 := HV2.go hB
  try rw [HC1.out]
  clear hB
  try go_simp
  refine hK.out _ _ ⟨HA.out.2.1, HA2.out.2.1⟩ (fun hHeld => ?_)
  clear hK K
  apply rdy 14; intro K hK; clear hHeld; go_simp
  refine (class_calls _ _ _ HV2.out).mono ?_
  rintro e W15 ⟨rfl, hB⟩
  replace HA := HA.go hB; replace HA2 := HA2.go hB; replace HB := cb hB HB; replace HV := HV.go hB; replace HV2 := HV2.go hB
  try rw [HC2.out]
  clear hB
  try go_simp
  refine hK.out _ _ ⟨HA.out.2.1, HA2.out.2.1⟩ (fun hHeld => ?_)
  clear hK K; apply tk 15; apply tk 16
  refine wpAnyH_done (by kernel_rfl) ?_ _
  clear hHeld; clear hne; have cHA0 := HA.out.2.1; have cHA20 := HA2.out.2.1
  go_wp2_with fail
  refine (class_calls _ _ _ HV.out).mono ?_
  rintro e W16 ⟨rfl, hB⟩
  clear cHA0 cHA20; replace HA := HA.go hB; replace HA2 := HA2.go hB; replace HB := cb hB HB; replace HV := HV.go hB; replace HV2 := HV2.go hB; rw [HC1.out]; clear hB; have cHA0 := HA.out.2.1; have cHA20 := HA2.out.2.1
  by_cases c1 : k1 = 1
  ·subst c1
   have HC := Lib.hid (iq_char (t := plA d) (i := i) (k := k) HC1.out HC2.out)
   obtain ⟨x, hx⟩ : ∃ x, x = atI V.text 0 (i : Int) := ⟨_, rfl⟩
   obtain ⟨y, hy⟩ : ∃ y, y = atI V2.text 0 (k : Int) := ⟨_, rfl⟩
   rw [← hx, ← hy] at HC
   have HX := Lib.hid hx; have HY := Lib.hid hy; clear hx hy
   go_wp2_with fail
   obtain ⟨W17, hWD⟩ : ∃ X, W16.drew = X := ⟨_, rfl⟩
   have hB : Below W16.heap.size W16 W17 := by rw [← hWD]; exact Below.drewN' (Below.refl _ _) 1
   clear cHA0 cHA20; replace HA := HA.go hB; replace HA2 := HA2.go hB; replace HB := cb hB HB; replace HV := HV.go hB; replace HV2 := HV2.go hB; clear hB
   refine rgn (S := fun w' => w'.cell? ⟨w.heap.size, 0, none⟩ = some (u) ∧ w'.cell? ⟨w.heap.size + 1, 0, none⟩ = some (u2)) hWD ⟨HA.out.2.1, HA2.out.2.1⟩ (fun hHeld => ?_)
   clear hWD; apply tk 0; apply tk 1; apply tk 3; apply tk 4
   apply rdy 2; intro K hK; clear hHeld; go_simp
   refine (vchar_calls _ _ _ _ HV.out).mono ?_
   rintro e W18 ⟨rfl, hB⟩
   replace HA := HA.go hB; replace HA2 := HA2.go hB; replace HB := cb hB HB; replace HV := HV.go hB; replace HV2 := HV2.go hB
   rw [← HX.out]
   clear hB
   try go_simp
   refine hK.out _ _ ⟨HA.out.2.1, HA2.out.2.1⟩ (fun hHeld => ?_)
   clear hK K
   apply rdy 5; intro K hK; clear hHeld; go_simp
   refine (vchar_calls _ _ _ _ HV2.out).mono ?_
   rintro e W19 ⟨rfl, hB⟩
   replace HA := HA.go hB; replace HA2 := HA2.go hB; replace HB := cb hB HB; replace HV := HV.go hB; replace HV2 := HV2.go hB
   rw [← HY.out]
   clear hB
   try go_simp
   refine hK.out _ _ ⟨HA.out.2.1, HA2.out.2.1⟩ (fun hHeld => ?_)
   clear hK K; apply tk 6; apply tk 7
   refine wpAnyH_done (by kernel_rfl) ?_ _
   clear hHeld
   go_wp2
   go_ret
   exact BoolIs.mk HC.out.symm HB.out
  ·have c1e : (k1 == 1) = false := by simpa using c1
   by_cases c2 : k1 = 2
   ·subst c2
    have HC := Lib.hid (iq_box (t := plA d) (i := i) (k := k) HC1.out HC2.out)
    have HM := Lib.hid (show gA d (atI V.boxs ([], .none) (i : Int)) from HBX.out.1 _ (atI_mem (by rw [VV.boxs_len HC1.out]; exact HKK.out.1)))
    have HM2 := Lib.hid (show gA d (atI V2.boxs ([], .none) (k : Int)) from HBX.out.2 _ (atI_mem (by rw [VV.boxs_len HC2.out]; exact HKK.out.2)))
    obtain ⟨X, hX⟩ : ∃ X, X = atI V.boxs ([], .none) (i : Int) := ⟨_, rfl⟩
    obtain ⟨Y, hY⟩ : ∃ Y, Y = atI V2.boxs ([], .none) (k : Int) := ⟨_, rfl⟩
    rw [← hX] at HM HC
    rw [← hY] at HM2 HC
    have HX := Lib.hid hX; have HY := Lib.hid hY; clear hX hY c1
    go_wp2_with fail
    obtain ⟨W17, hWD⟩ : ∃ X, W16.drew = X := ⟨_, rfl⟩
    have hB : Below W16.heap.size W16 W17 := by rw [← hWD]; exact Below.drewN' (Below.refl _ _) 1
    clear cHA0 cHA20; replace HA := HA.go hB; replace HA2 := HA2.go hB; replace HB := cb hB HB; replace HV := HV.go hB; replace HV2 := HV2.go hB; clear hB
    refine rgn (S := fun w' => w'.cell? ⟨w.heap.size, 0, none⟩ = some (u) ∧ w'.cell? ⟨w.heap.size + 1, 0, none⟩ = some (u2)) hWD ⟨HA.out.2.1, HA2.out.2.1⟩ (fun hHeld => ?_)
    clear hWD; apply tk 0; apply tk 1; apply tk 3; apply tk 4
    apply rdy 2; intro K hK; clear hHeld; go_simp
    refine (vbox_calls _ V _ _ HV.out HOK.out.1).mono ?_
    rintro e W18 ⟨sa, ua, rfl, hAB, hB⟩
    replace HA := HA.go hB; replace HA2 := HA2.go hB; replace HB := cb hB HB; replace HV := HV.go hB; replace HV2 := HV2.go hB
    rw [← HX.out] at hAB
    obtain ⟨sao, sac, rfl, _⟩ := hAB.1.opened
    have HRA := Lib.hid (hAB.wide (ok' := fun _ => True) (fun _ _ _ => trivial))
    have HRAs := Lib.hid hAB.2.store; clear hAB; clear hB
    try go_simp
    refine hK.out _ _ ⟨HA.out.2.1, HA2.out.2.1⟩ (fun hHeld => ?_)
    clear hK K
    apply rdy 5; intro K hK; clear hHeld; go_simp
    refine (vbox_calls _ V2 _ _ HV2.out HOK.out.2).mono ?_
    rintro e W19 ⟨sb, ub, rfl, hAB, hB⟩
    replace HA := HA.go hB; replace HA2 := HA2.go hB; replace HB := cb hB HB; replace HV := HV.go hB; replace HV2 := HV2.go hB; replace HRA := HRA.go hB
    rw [← HY.out] at hAB
    obtain ⟨sbo, sbc, rfl, _⟩ := hAB.1.opened
    have HRB := Lib.hid (hAB.wide (ok' := fun _ => True) (fun _ _ _ => trivial))
    have HRBs := Lib.hid hAB.2.store; clear hAB; clear hB
    try go_simp
    refine hK.out _ _ ⟨HA.out.2.1, HA2.out.2.1⟩ (fun hHeld => ?_)
    clear hK K
    apply rdy 6; intro K hK; clear hHeld; go_simp
    refine (HIH.out _ _ X Y _ _ _ _ _ HM.out HM2.out HRA.out HRB.out).mono ?_
    rintro e W20 ⟨rfl, hB⟩
    replace HA := HA.go hB; replace HA2 := HA2.go hB; replace HB := cb hB HB; replace HV := HV.go hB; replace HV2 := HV2.go hB; replace HRA := HRA.go hB; replace HRB := HRB.go hB
    rw [← HC.out]
    clear hB
    try go_simp
    refine hK.out _ _ ⟨HA.out.2.1, HA2.out.2.1⟩ (fun hHeld => ?_)
    clear hK K; apply tk 7
    refine wpAnyH_done (by kernel_rfl) ?_ _
    clear hHeld
    go_wp2
    go_ret
    exact BoolIs.mk rfl HB.out
   ·have c2e : (k1 == 2) = false := by simpa using c2
    have HZ1 := Lib.hid (show V.cls = 0 by have := HC1.out; cases V <;> simp_all [VV.cls] <;> omega)
    have HZ2 := Lib.hid (show V2.cls = 0 by rw [HC2.out, ← HC1.out]; exact HZ1.out)
    have HC := Lib.hid (iq_num (t := plA d) (i := i) (k := k) HZ1.out HZ2.out)
    obtain ⟨fo, hfo, hfb⟩ := ord_beq (numV_any HOK.out.1 HNM.out.1 i) (numV_any HOK.out.2 HNM.out.2 k)
    rw [← hfb] at HC
    obtain ⟨x, hx⟩ : ∃ x, x = atI V.nums 0 (i : Int) := ⟨_, rfl⟩
    obtain ⟨y, hy⟩ : ∃ y, y = atI V2.nums 0 (k : Int) := ⟨_, rfl⟩
    rw [← hx, ← hy] at hfo
    have HX := Lib.hid hx; have HY := Lib.hid hy; clear hx hy hfb c1 c2
    go_wp2_with fail
    obtain ⟨W17, hWD⟩ : ∃ X, W16.drew = X := ⟨_, rfl⟩
    have hB : Below W16.heap.size W16 W17 := by rw [← hWD]; exact Below.drewN' (Below.refl _ _) 1
    clear cHA0 cHA20; replace HA := HA.go hB; replace HA2 := HA2.go hB; replace HB := cb hB HB; replace HV := HV.go hB; replace HV2 := HV2.go hB; clear hB
    refine rgn (S := fun w' => w'.cell? ⟨w.heap.size, 0, none⟩ = some (u) ∧ w'.cell? ⟨w.heap.size + 1, 0, none⟩ = some (u2)) hWD ⟨HA.out.2.1, HA2.out.2.1⟩ (fun hHeld => ?_)
    clear hWD; apply tk 0; apply tk 1; apply tk 3; apply tk 4
    apply rdy 2; intro K hK; clear hHeld; go_simp
    refine (num_calls _ _ _ _ HV.out).mono ?_
    rintro e W18 ⟨rfl, hB⟩
    replace HA := HA.go hB; replace HA2 := HA2.go hB; replace HB := cb hB HB; replace HV := HV.go hB; replace HV2 := HV2.go hB
    rw [← HX.out]
    clear hB
    try go_simp
    refine hK.out _ _ ⟨HA.out.2.1, HA2.out.2.1⟩ (fun hHeld => ?_)
    clear hK K
    apply rdy 5; intro K hK; clear hHeld; go_simp
    refine (num_calls _ _ _ _ HV2.out).mono ?_
    rintro e W19 ⟨rfl, hB⟩
    replace HA := HA.go hB; replace HA2 := HA2.go hB; replace HB := cb hB HB; replace HV := HV.go hB; replace HV2 := HV2.go hB
    rw [← HY.out]
    clear hB
    try go_simp
    refine hK.out _ _ ⟨HA.out.2.1, HA2.out.2.1⟩ (fun hHeld => ?_)
    clear hK K; apply tk 6; apply tk 7
    refine wpAnyH_done (by kernel_rfl) ?_ _
    clear hHeld
    go_wp2
    go_ret
    exact BoolIs.mk HC.out.symm HB.out
 ·have HC := Lib.hid (iq_kind (t := plA d) (t2 := plA d) (i := i) (k := k) hcl)
  obtain ⟨k1, hk1⟩ : ∃ k1, V.cls = k1 := ⟨_, rfl⟩
  obtain ⟨k2, hk2⟩ : ∃ k2, V2.cls = k2 := ⟨_, rfl⟩
  have HC1 := Lib.hid hk1; have HC2 := Lib.hid hk2
  have hne : (k1 != k2) = true := by rw [hk1, hk2] at hcl; simpa using hcl
  clear hcl hk1 hk2
  obtain ⟨W11, hWD⟩ : ∃ X, W1.drew = X := ⟨_, rfl⟩
  have hB : Below W1.heap.size W1 W11 := by rw [← hWD]; exact Below.drewN' (Below.refl _ _) 1
  replace HA := HA.go hB; replace HA2 := HA2.go hB; replace HB := cb hB HB; replace HV := HV.go hB; replace HV2 := HV2.go hB; clear hB
  refine rgn (S := fun w' => w'.cell? ⟨w.heap.size, 0, none⟩ = some (u) ∧ w'.cell? ⟨w.heap.size + 1, 0, none⟩ = some (u2)) hWD ⟨HA.out.2.1, HA2.out.2.1⟩ (fun hHeld => ?_)
  clear hWD; apply tk 0; apply tk 1
  apply rdy 2; intro K hK; clear hHeld; go_simp
  refine (vhas_yes _ _ _ _ HV.out HKK.out.1).mono ?_
  rintro e W12 ⟨rfl, hB⟩
  replace HA := HA.go hB; replace HA2 := HA2.go hB; replace HB := cb hB HB; replace HV := HV.go hB; replace HV2 := HV2.go hB; clear hB
  try go_simp
  refine hK.out _ _ ⟨HA.out.2.1, HA2.out.2.1⟩ (fun hHeld => ?_)
  clear hK K; apply tk 3; apply tk 4; apply tk 5; apply tk 6
  apply rdy 7; intro K hK; clear hHeld; go_simp
  refine (vhas_yes _ _ _ _ HV2.out HKK.out.2).mono ?_
  rintro e W13 ⟨rfl, hB⟩
  replace HA := HA.go hB; replace HA2 := HA2.go hB; replace HB := cb hB HB; replace HV := HV.go hB; replace HV2 := HV2.go hB; clear hB
  try go_simp
  refine hK.out _ _ ⟨HA.out.2.1, HA2.out.2.1⟩ (fun hHeld => ?_)
  clear hK K; apply tk 8; apply tk 9; apply tk 10; apply tk 11; apply tk 13
  apply rdy 12; intro K hK; clear hHeld; go_simp
  refine (class_calls _ _ _ HV.out).mono ?_
  rintro e W14 ⟨rfl, hB⟩
  replace HA := HA.go hB; replace HA2 := HA2.go hB; replace HB := cb hB HB; replace HV := HV.go hB; replace HV2 := HV2.go hB
  try rw [HC1.out]
  clear hB
  try go_simp
  refine hK.out _ _ ⟨HA.out.2.1, HA2.out.2.1⟩ (fun hHeld => ?_)
  clear hK K
  apply rdy 14; intro K hK; clear hHeld; go_simp
  refine (class_calls _ _ _ HV2.out).mono ?_
  rintro e W15 ⟨rfl, hB⟩
  replace HA := HA.go hB; replace HA2 := HA2.go hB; replace HB := cb hB HB; replace HV := HV.go hB; replace HV2 := HV2.go hB
  try rw [HC2.out]
  clear hB
  try go_simp
  refine hK.out _ _ ⟨HA.out.2.1, HA2.out.2.1⟩ (fun hHeld => ?_)
  clear hK K; apply tk 15; apply tk 16
  refine wpAnyH_done (by kernel_rfl) ?_ _
  clear hHeld
  go_wp2
  go_ret
  exact BoolIs.mk HC.out.symm HB.out
end Go.Proofs.YtbdhibcbpgjbmaaGreatDoor

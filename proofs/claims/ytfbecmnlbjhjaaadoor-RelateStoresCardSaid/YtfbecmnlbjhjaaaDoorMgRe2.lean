/- Merged: ReQ, ReR. -/
import Derived.Test.YtfbecmnlbjhjaaaDoorMgRe1
import Derived.Test.YtfbecmnlbjhjaaaDoorMgSq1
/- Layer 11's law: RelateStores. -/
namespace Go.Proofs.YtfbecmnlbjhjaaaDoor
set_option maxRecDepth 100000
open Go.RowKit Fl
set_option linter.unusedVariables false

/-- A vector that holds these numbers. -/
def Holds (l : List Nat) (V : VV) : Prop := V.ok ∧ V.nm ∧ V.cls = 0 ∧ V.nums = l ∧ V.len = l.length
theorem holds_sq {l : List Nat} (hl : l.length ≤ 1048576) (hN : ∀ x ∈ l, Num x) : Holds l (VV.floats l).sq := by
  obtain ⟨_, s2, s3, s4, s5, s6⟩ := VV.sq_spec (V := VV.floats l) hl hN
  exact ⟨s4, s5, s3, s2, s6⟩
theorem holds_into {l : List Nat} {V : VV} {k : Int} (h : Holds l V) (hf : V.fit k = true) : Holds l (V.into k) := by
  obtain ⟨h1, h2, h3, h4, h5⟩ := h
  obtain ⟨_, s2, s3, s4, s5, s6⟩ := VV.into_spec h1 h2 hf
  exact ⟨s4, s5, s3.trans h3, s2.trans h4, s6.trans h5⟩
theorem holds_same {f : Int} {l m : List Nat} {A B C D : VV} (hA : Holds l A) (hB : Holds m B) (hC : Holds l C) (hD : Holds m D) : reE f C D = reE f A B ∧ reV f C D = reV f A B := by
  have e1 : reE f C D = reE f A B := by unfold reE; rw [hA.2.2.1, hB.2.2.1, hC.2.2.1, hD.2.2.1, hA.2.2.2.2, hB.2.2.2.2, hC.2.2.2.2, hD.2.2.2.2]
  refine ⟨e1, ?_⟩
  unfold reV
  rw [e1, ← relL_nums f _ hA.2.2.1 hB.2.2.1, ← relL_nums f _ hC.2.2.1 hD.2.2.1, hA.2.2.2.1, hB.2.2.2.1, hC.2.2.2.1, hD.2.2.2.1, hA.2.2.2.2, hB.2.2.2.2, hC.2.2.2.2, hD.2.2.2.2]
theorem reV_len {f : Int} {A B : VV} (hA : A.len ≤ 1048576) (hB : B.len ≤ 1048576) : (reV f A B).packed.length ≤ 1048576 := by
  unfold reV
  split
  · show (relL f A B _).length ≤ _
    rw [relL_len]; exact lenN_le hA hB
  · simp [VV.packed]
theorem not_fin {l : List Nat} (h : ¬ ∀ x ∈ l, Fnt x) : ∃ x ∈ l, ¬ Fnt x := Classical.byContradiction fun hc => h fun x hx => Classical.byContradiction fun hn => hc ⟨x, hx, hn⟩
set_option maxHeartbeats 16000000 in
theorem relateStores_walk (f : Int) (va vb : Value) (la lb : List Nat) (j k : Int) (w : World) (hva : Slc w (fun _ => True) va la.length (f64s la)) (hvb : Slc w (fun _ => True) vb lb.length (f64s lb)) (hla : la.length ≤ maxLen) (hlb : lb.length ≤ maxLen) (hwa : ∀ x ∈ la, x < 18446744073709551616) (hwb : ∀ x ∈ lb, x < 18446744073709551616) (hT : TabAt w) :
    Calls Tryd.prog 4 #[.int .i64 f, va, vb, .int .i64 j, .int .i64 k] w (Yes11 w) := by
  have HVA := Lib.hid hva
  have HVB := Lib.hid hvb
  have HT := Lib.hid hT
  have HWA := Lib.hid hwa
  have HWB := Lib.hid hwb
  have HB := Lib.hid (Below.refl w.heap.size w)
  obtain ⟨ao, cap, rfl, _⟩ := hva.opened
  obtain ⟨bo, cbp, rfl, _⟩ := hvb.opened
  clear hva hvb hT hwa hwb
  by_cases hl1 : 300 < la.length
  · clear hla hlb
    go_enter Tryd.func4, Tryd.ntmps4
    go_wp2_with fail
    refine (awake11_calls _ HT.out).mono ?_
    rintro e W11 ⟨rfl, hB⟩
    replace HB := Lib.hid (HB.out.trans (hB.mono HB.out.size))
    replace HT := Lib.hid (fun j hj => keep_below hB _ _ (HT.out j hj))
    replace HVA := Lib.hid (HVA.out.below hB)
    replace HVB := Lib.hid (HVB.out.below hB)
    clear hB
    go_wp2_with fail
    go_ret
    exact ⟨rfl, HB.out⟩
  by_cases hl2 : 300 < lb.length
  · clear hla hlb
    go_enter Tryd.func4, Tryd.ntmps4
    go_wp2_with fail
    refine (awake11_calls _ HT.out).mono ?_
    rintro e W11 ⟨rfl, hB⟩
    replace HB := Lib.hid (HB.out.trans (hB.mono HB.out.size))
    replace HT := Lib.hid (fun j hj => keep_below hB _ _ (HT.out j hj))
    replace HVA := Lib.hid (HVA.out.below hB)
    replace HVB := Lib.hid (HVB.out.below hB)
    clear hB
    go_wp2_with fail
    go_ret
    exact ⟨rfl, HB.out⟩
  have HL1 := Lib.hid (show la.length ≤ 1048576 by omega)
  have HL2 := Lib.hid (show lb.length ≤ 1048576 by omega)
  clear hla hlb
  by_cases hfa : ∀ x ∈ la, Fnt x
  rotate_left
  · have HFA := Lib.hid (not_fin hfa)
    clear hfa
    by_cases hfb : ∀ x ∈ lb, Fnt x
    · have HFB := Lib.hid hfb
      obtain ⟨B, hB⟩ : ∃ B, B = (VV.floats (lb.map ze)).sq := ⟨_, rfl⟩
      have HBE := Lib.hid hB
      clear hfb hB
      go_enter Tryd.func4, Tryd.ntmps4
      go_wp2_with fail
      refine (numbers_no _ la _ HVA.out HL1.out HWA.out HFA.out).mono ?_
      rintro e W11 ⟨rfl, hB⟩
      replace HB := Lib.hid (HB.out.trans (hB.mono HB.out.size))
      replace HT := Lib.hid (fun j hj => keep_below hB _ _ (HT.out j hj))
      replace HVA := Lib.hid (HVA.out.below hB)
      replace HVB := Lib.hid (HVB.out.below hB)
      obtain ⟨ua, hu⟩ : ∃ u, Value.nilIface = u := ⟨_, rfl⟩
      rw [hu]
      have hsua : ∀ (w : World) (a : Addr) (m : Mode), (store a ua m).run Tryd.prog w = stored Tryd.prog w a ua m := by subst hu; exact fun w a m => run_store Tryd.prog w a _ m rfl
      clear hu
      clear hB
      obtain ⟨W12, hWn⟩ : ∃ xw9, W11.alloc (.cells #[ua] 34) = xw9 := ⟨_, rfl⟩
      have hB : Below W11.heap.size W11 W12 := by rw [← hWn]; exact below_new _ _
      have hNB : At1 W12 W11.heap.size (ua) := by rw [← hWn]; exact At1.new _ _ _
      replace HB := Lib.hid (HB.out.trans (hB.mono HB.out.size))
      replace HT := Lib.hid (fun j hj => keep_below hB _ _ (HT.out j hj))
      replace HVA := Lib.hid (HVA.out.below hB)
      replace HVB := Lib.hid (HVB.out.below hB)
      have HA := Lib.hid hNB
      clear hNB hB
      have cHA0 := HA.out.2.1
      go_wp2_with fail
      clear hWn
      refine (numbers_yes _ lb _ HVB.out HL2.out HFB.out HT.out).mono ?_
      rintro e W13 ⟨ub, rfl, hu, hB⟩
      clear cHA0
      replace HB := Lib.hid (HB.out.trans (hB.mono HB.out.size))
      replace HT := Lib.hid (fun j hj => keep_below hB _ _ (HT.out j hj))
      replace HVA := Lib.hid (HVA.out.below hB)
      replace HVB := Lib.hid (HVB.out.below hB)
      replace HA := Lib.hid (HA.out.below hB)
      rw [← HBE.out] at hu
      have HU2 := Lib.hid (IsV.any hu)
      have hsub := hu.store
      clear hu
      clear hB
      obtain ⟨W14, hWn⟩ : ∃ xw9, W13.alloc (.cells #[ub] 34) = xw9 := ⟨_, rfl⟩
      have hB : Below W13.heap.size W13 W14 := by rw [← hWn]; exact below_new _ _
      have hNB : At1 W14 W13.heap.size (ub) := by rw [← hWn]; exact At1.new _ _ _
      replace HB := Lib.hid (HB.out.trans (hB.mono HB.out.size))
      replace HT := Lib.hid (fun j hj => keep_below hB _ _ (HT.out j hj))
      replace HVA := Lib.hid (HVA.out.below hB)
      replace HVB := Lib.hid (HVB.out.below hB)
      replace HA := Lib.hid (HA.out.below hB)
      replace HU2 := Lib.hid (HU2.out.grow hB)
      have HA2 := Lib.hid hNB
      clear hNB hB
      have cHA0 := HA.out.2.1
      have cHA20 := HA2.out.2.1
      go_wp2_with fail
      clear hWn
      refine (awake11_calls _ HT.out).mono ?_
      rintro e W15 ⟨rfl, hB⟩
      clear cHA0 cHA20
      replace HB := Lib.hid (HB.out.trans (hB.mono HB.out.size))
      replace HT := Lib.hid (fun j hj => keep_below hB _ _ (HT.out j hj))
      replace HVA := Lib.hid (HVA.out.below hB)
      replace HVB := Lib.hid (HVB.out.below hB)
      replace HA := Lib.hid (HA.out.below hB)
      replace HU2 := Lib.hid (HU2.out.grow hB)
      replace HA2 := Lib.hid (HA2.out.below hB)
      clear hB
      have cHA0 := HA.out.2.1
      have cHA20 := HA2.out.2.1
      go_wp2_with fail
      go_ret
      exact ⟨rfl, HB.out⟩
    · have HFB := Lib.hid (not_fin hfb)
      clear hfb
      go_enter Tryd.func4, Tryd.ntmps4
      go_wp2_with fail
      refine (numbers_no _ la _ HVA.out HL1.out HWA.out HFA.out).mono ?_
      rintro e W11 ⟨rfl, hB⟩
      replace HB := Lib.hid (HB.out.trans (hB.mono HB.out.size))
      replace HT := Lib.hid (fun j hj => keep_below hB _ _ (HT.out j hj))
      replace HVA := Lib.hid (HVA.out.below hB)
      replace HVB := Lib.hid (HVB.out.below hB)
      obtain ⟨ua, hu⟩ : ∃ u, Value.nilIface = u := ⟨_, rfl⟩
      rw [hu]
      have hsua : ∀ (w : World) (a : Addr) (m : Mode), (store a ua m).run Tryd.prog w = stored Tryd.prog w a ua m := by subst hu; exact fun w a m => run_store Tryd.prog w a _ m rfl
      clear hu
      clear hB
      obtain ⟨W12, hWn⟩ : ∃ xw9, W11.alloc (.cells #[ua] 34) = xw9 := ⟨_, rfl⟩
      have hB : Below W11.heap.size W11 W12 := by rw [← hWn]; exact below_new _ _
      have hNB : At1 W12 W11.heap.size (ua) := by rw [← hWn]; exact At1.new _ _ _
      replace HB := Lib.hid (HB.out.trans (hB.mono HB.out.size))
      replace HT := Lib.hid (fun j hj => keep_below hB _ _ (HT.out j hj))
      replace HVA := Lib.hid (HVA.out.below hB)
      replace HVB := Lib.hid (HVB.out.below hB)
      have HA := Lib.hid hNB
      clear hNB hB
      have cHA0 := HA.out.2.1
      go_wp2_with fail
      clear hWn
      refine (numbers_no _ lb _ HVB.out HL2.out HWB.out HFB.out).mono ?_
      rintro e W13 ⟨rfl, hB⟩
      clear cHA0
      replace HB := Lib.hid (HB.out.trans (hB.mono HB.out.size))
      replace HT := Lib.hid (fun j hj => keep_below hB _ _ (HT.out j hj))
      replace HVA := Lib.hid (HVA.out.below hB)
      replace HVB := Lib.hid (HVB.out.below hB)
      replace HA := Lib.hid (HA.out.below hB)
      obtain ⟨ub, hu⟩ : ∃ u, Value.nilIface = u := ⟨_, rfl⟩
      rw [hu]
      have hsub : ∀ (w : World) (a : Addr) (m : Mode), (store a ub m).run Tryd.prog w = stored Tryd.prog w a ub m := by subst hu; exact fun w a m => run_store Tryd.prog w a _ m rfl
      clear hu
      clear hB
      obtain ⟨W14, hWn⟩ : ∃ xw9, W13.alloc (.cells #[ub] 34) = xw9 := ⟨_, rfl⟩
      have hB : Below W13.heap.size W13 W14 := by rw [← hWn]; exact below_new _ _
      have hNB : At1 W14 W13.heap.size (ub) := by rw [← hWn]; exact At1.new _ _ _
      replace HB := Lib.hid (HB.out.trans (hB.mono HB.out.size))
      replace HT := Lib.hid (fun j hj => keep_below hB _ _ (HT.out j hj))
      replace HVA := Lib.hid (HVA.out.below hB)
      replace HVB := Lib.hid (HVB.out.below hB)
      replace HA := Lib.hid (HA.out.below hB)
      have HA2 := Lib.hid hNB
      clear hNB hB
      have cHA0 := HA.out.2.1
      have cHA20 := HA2.out.2.1
      go_wp2_with fail
      clear hWn
      refine (awake11_calls _ HT.out).mono ?_
      rintro e W15 ⟨rfl, hB⟩
      clear cHA0 cHA20
      replace HB := Lib.hid (HB.out.trans (hB.mono HB.out.size))
      replace HT := Lib.hid (fun j hj => keep_below hB _ _ (HT.out j hj))
      replace HVA := Lib.hid (HVA.out.below hB)
      replace HVB := Lib.hid (HVB.out.below hB)
      replace HA := Lib.hid (HA.out.below hB)
      replace HA2 := Lib.hid (HA2.out.below hB)
      clear hB
      have cHA0 := HA.out.2.1
      have cHA20 := HA2.out.2.1
      go_wp2_with fail
      go_ret
      exact ⟨rfl, HB.out⟩
  have HFA := Lib.hid hfa
  obtain ⟨A, hA⟩ : ∃ A, A = (VV.floats (la.map ze)).sq := ⟨_, rfl⟩
  have HAE := Lib.hid hA
  by_cases hfb : ∀ x ∈ lb, Fnt x
  rotate_left
  · have HFB := Lib.hid (not_fin hfb)
    clear hfa hfb hA
    go_enter Tryd.func4, Tryd.ntmps4
    go_wp2_with fail
    refine (numbers_yes _ la _ HVA.out HL1.out HFA.out HT.out).mono ?_
    rintro e W11 ⟨ua, rfl, hu, hB⟩
    replace HB := Lib.hid (HB.out.trans (hB.mono HB.out.size))
    replace HT := Lib.hid (fun j hj => keep_below hB _ _ (HT.out j hj))
    replace HVA := Lib.hid (HVA.out.below hB)
    replace HVB := Lib.hid (HVB.out.below hB)
    rw [← HAE.out] at hu
    have HU := Lib.hid (IsV.any hu)
    have hsua := hu.store
    clear hu
    clear hB
    obtain ⟨W12, hWn⟩ : ∃ xw9, W11.alloc (.cells #[ua] 34) = xw9 := ⟨_, rfl⟩
    have hB : Below W11.heap.size W11 W12 := by rw [← hWn]; exact below_new _ _
    have hNB : At1 W12 W11.heap.size (ua) := by rw [← hWn]; exact At1.new _ _ _
    replace HB := Lib.hid (HB.out.trans (hB.mono HB.out.size))
    replace HT := Lib.hid (fun j hj => keep_below hB _ _ (HT.out j hj))
    replace HVA := Lib.hid (HVA.out.below hB)
    replace HVB := Lib.hid (HVB.out.below hB)
    replace HU := Lib.hid (HU.out.grow hB)
    have HA := Lib.hid hNB
    clear hNB hB
    have cHA0 := HA.out.2.1
    go_wp2_with fail
    clear hWn
    refine (numbers_no _ lb _ HVB.out HL2.out HWB.out HFB.out).mono ?_
    rintro e W13 ⟨rfl, hB⟩
    clear cHA0
    replace HB := Lib.hid (HB.out.trans (hB.mono HB.out.size))
    replace HT := Lib.hid (fun j hj => keep_below hB _ _ (HT.out j hj))
    replace HVA := Lib.hid (HVA.out.below hB)
    replace HVB := Lib.hid (HVB.out.below hB)
    replace HU := Lib.hid (HU.out.grow hB)
    replace HA := Lib.hid (HA.out.below hB)
    obtain ⟨ub, hu⟩ : ∃ u, Value.nilIface = u := ⟨_, rfl⟩
    rw [hu]
    have hsub : ∀ (w : World) (a : Addr) (m : Mode), (store a ub m).run Tryd.prog w = stored Tryd.prog w a ub m := by subst hu; exact fun w a m => run_store Tryd.prog w a _ m rfl
    clear hu
    clear hB
    obtain ⟨W14, hWn⟩ : ∃ xw9, W13.alloc (.cells #[ub] 34) = xw9 := ⟨_, rfl⟩
    have hB : Below W13.heap.size W13 W14 := by rw [← hWn]; exact below_new _ _
    have hNB : At1 W14 W13.heap.size (ub) := by rw [← hWn]; exact At1.new _ _ _
    replace HB := Lib.hid (HB.out.trans (hB.mono HB.out.size))
    replace HT := Lib.hid (fun j hj => keep_below hB _ _ (HT.out j hj))
    replace HVA := Lib.hid (HVA.out.below hB)
    replace HVB := Lib.hid (HVB.out.below hB)
    replace HU := Lib.hid (HU.out.grow hB)
    replace HA := Lib.hid (HA.out.below hB)
    have HA2 := Lib.hid hNB
    clear hNB hB
    have cHA0 := HA.out.2.1
    have cHA20 := HA2.out.2.1
    go_wp2_with fail
    clear hWn
    refine (awake11_calls _ HT.out).mono ?_
    rintro e W15 ⟨rfl, hB⟩
    clear cHA0 cHA20
    replace HB := Lib.hid (HB.out.trans (hB.mono HB.out.size))
    replace HT := Lib.hid (fun j hj => keep_below hB _ _ (HT.out j hj))
    replace HVA := Lib.hid (HVA.out.below hB)
    replace HVB := Lib.hid (HVB.out.below hB)
    replace HU := Lib.hid (HU.out.grow hB)
    replace HA := Lib.hid (HA.out.below hB)
    replace HA2 := Lib.hid (HA2.out.below hB)
    clear hB
    have cHA0 := HA.out.2.1
    have cHA20 := HA2.out.2.1
    go_wp2_with fail
    go_ret
    exact ⟨rfl, HB.out⟩
  have HFB := Lib.hid hfb
  obtain ⟨B, hB⟩ : ∃ B, B = (VV.floats (lb.map ze)).sq := ⟨_, rfl⟩
  have HBE := Lib.hid hB
  have HHA := Lib.hid (show Holds (la.map ze) A by rw [hA]; exact holds_sq (by rw [List.length_map]; exact HL1.out) (fun x hx => by obtain ⟨y, hy, rfl⟩ := List.mem_map.1 hx; exact ze_num (hfa y hy)))
  have HHB := Lib.hid (show Holds (lb.map ze) B by rw [hB]; exact holds_sq (by rw [List.length_map]; exact HL2.out) (fun x hx => by obtain ⟨y, hy, rfl⟩ := List.mem_map.1 hx; exact ze_num (hfb y hy)))
  clear hfa hfb hA hB
  go_enter Tryd.func4, Tryd.ntmps4
  go_wp2_with fail
  refine (numbers_yes _ la _ HVA.out HL1.out HFA.out HT.out).mono ?_
  rintro e W11 ⟨ua, rfl, hu, hB⟩
  replace HB := Lib.hid (HB.out.trans (hB.mono HB.out.size))
  replace HT := Lib.hid (fun j hj => keep_below hB _ _ (HT.out j hj))
  replace HVA := Lib.hid (HVA.out.below hB)
  replace HVB := Lib.hid (HVB.out.below hB)
  rw [← HAE.out] at hu
  have HU := Lib.hid (IsV.any hu)
  have hsua := hu.store
  clear hu
  clear hB
  obtain ⟨W12, hWn⟩ : ∃ xw9, W11.alloc (.cells #[ua] 34) = xw9 := ⟨_, rfl⟩
  have hB : Below W11.heap.size W11 W12 := by rw [← hWn]; exact below_new _ _
  have hNB : At1 W12 W11.heap.size (ua) := by rw [← hWn]; exact At1.new _ _ _
  replace HB := Lib.hid (HB.out.trans (hB.mono HB.out.size))
  replace HT := Lib.hid (fun j hj => keep_below hB _ _ (HT.out j hj))
  replace HVA := Lib.hid (HVA.out.below hB)
  replace HVB := Lib.hid (HVB.out.below hB)
  replace HU := Lib.hid (HU.out.grow hB)
  have HA := Lib.hid hNB
  clear hNB hB
  have cHA0 := HA.out.2.1
  go_wp2_with fail
  clear hWn
  refine (numbers_yes _ lb _ HVB.out HL2.out HFB.out HT.out).mono ?_
  rintro e W13 ⟨ub, rfl, hu, hB⟩
  clear cHA0
  replace HB := Lib.hid (HB.out.trans (hB.mono HB.out.size))
  replace HT := Lib.hid (fun j hj => keep_below hB _ _ (HT.out j hj))
  replace HVA := Lib.hid (HVA.out.below hB)
  replace HVB := Lib.hid (HVB.out.below hB)
  replace HU := Lib.hid (HU.out.grow hB)
  replace HA := Lib.hid (HA.out.below hB)
  rw [← HBE.out] at hu
  have HU2 := Lib.hid (IsV.any hu)
  have hsub := hu.store
  clear hu
  clear hB
  obtain ⟨W14, hWn⟩ : ∃ xw9, W13.alloc (.cells #[ub] 34) = xw9 := ⟨_, rfl⟩
  have hB : Below W13.heap.size W13 W14 := by rw [← hWn]; exact below_new _ _
  have hNB : At1 W14 W13.heap.size (ub) := by rw [← hWn]; exact At1.new _ _ _
  replace HB := Lib.hid (HB.out.trans (hB.mono HB.out.size))
  replace HT := Lib.hid (fun j hj => keep_below hB _ _ (HT.out j hj))
  replace HVA := Lib.hid (HVA.out.below hB)
  replace HVB := Lib.hid (HVB.out.below hB)
  replace HU := Lib.hid (HU.out.grow hB)
  replace HA := Lib.hid (HA.out.below hB)
  replace HU2 := Lib.hid (HU2.out.grow hB)
  have HA2 := Lib.hid hNB
  clear hNB hB
  have cHA0 := HA.out.2.1
  have cHA20 := HA2.out.2.1
  go_wp2_with fail
  clear hWn
  clear HVA HVB
  clear cHA0 cHA20
  obtain ⟨w0, hw0⟩ : ∃ w0, w0 = W14 := ⟨_, rfl⟩
  obtain ⟨xa, hxa⟩ : ∃ xa, xa = W11.heap.size := ⟨_, rfl⟩
  obtain ⟨xb, hxb⟩ : ∃ xb, xb = W13.heap.size := ⟨_, rfl⟩
  rw [← hw0, ← hxa, ← hxb]
  rw [← hw0] at HB HT HU HA HU2 HA2
  rw [← hxa] at HA
  rw [← hxb] at HA2
  clear hw0 hxa hxb
  have HLT := Lib.hid (And.intro HA.out.1 HA2.out.1)
  have HWB0 := Lib.hid HB.out.size
  refine wp_mid (fun a a' w' => ∃ vb wb : Nat, a' = ((((a.put (some 55) (.agg #[ua])).put (some 56) (.agg #[ub])).put (some 15) (.pointer (some ⟨vb, 0, none⟩))).put (some 16) (.pointer (some ⟨wb, 0, none⟩))) ∧ At1 w' vb ua ∧ At1 w' wb ub ∧ vb ≠ wb ∧ w0.heap.size ≤ vb ∧ w0.heap.size ≤ wb ∧ Below w0.heap.size w0 w') ?_ ?_
  · have HW0 := Lib.hid (Below.refl w0.heap.size w0)
    obtain ⟨W15, hWD⟩ : ∃ xw9, w0.drew = xw9 := ⟨_, rfl⟩
    have hB : Below w0.heap.size w0 W15 := by rw [← hWD]; exact Below.drewN' (Below.refl _ _) 1
    replace HW0 := Lib.hid (HW0.out.trans (hB.mono HW0.out.size))
    clear hB
    refine wp_region_held_drew (S := fun w' => w'.cell? ⟨xa, 0, none⟩ = some ua ∧ w'.cell? ⟨xb, 0, none⟩ = some ub) (by kernel_rfl) (by rw [hWD]; exact ⟨(HA.out.below HW0.out).2.1, (HA2.out.below HW0.out).2.1⟩) (fun hHeld => ?_)
    rw [hWD] at hHeld ⊢
    clear hWD
    refine wpAnyH_take (i := 0) (v := ?_) rfl (by kernel_rfl) (by kernel_rfl) (by kernel_rfl) (fun _ _ _ h => absurd h.1 (by simp)) (Or.inl ⟨by rfl, ?_⟩) (by assumption) ?_
    rotate_left
    · (intro w hSw; (try dsimp only at hSw); go_simp; try with_reducible rfl)
    simp only [Act.put, List.getElem_toArray, List.getElem_cons_zero, List.setIfInBounds_toArray, List.set_cons_zero, List.set_cons_succ]
    refine wpAnyH_take (i := 1) (v := ?_) rfl (by kernel_rfl) (by kernel_rfl) (by kernel_rfl) (fun _ _ _ h => absurd h.1 (by simp)) (Or.inl ⟨by rfl, ?_⟩) (by assumption) ?_
    rotate_left
    · (intro w hSw; (try dsimp only at hSw); go_simp; try with_reducible rfl)
    simp only [Act.put, List.getElem_toArray, List.getElem_cons_succ, List.getElem_cons_zero, List.setIfInBounds_toArray, List.set_cons_zero, List.set_cons_succ]
    refine wpAnyH_ready (rs := [2, 3]) (by kernel_rfl) (by simp) ?_
    refine AllReadyH.cons (o := _) rfl (fun K hK => ?_) ?_
    · clear hHeld
      go_simp
      obtain ⟨W16, hWn⟩ : ∃ xw9, W15.alloc (.cells #[.nilIface] 34) = xw9 := ⟨_, rfl⟩
      have hB : Below W15.heap.size W15 W16 := by rw [← hWn]; exact below_new _ _
      have hNB : At1 W16 W15.heap.size .nilIface := by rw [← hWn]; exact At1.new _ _ _
      have hge : w0.heap.size ≤ W15.heap.size := HW0.out.size
      rw [hWn]
      clear hWn
      obtain ⟨vb, hnm⟩ : ∃ x, W15.heap.size = x := ⟨_, rfl⟩
      rw [hnm] at hNB hge ⊢
      replace HW0 := Lib.hid (HW0.out.trans (hB.mono HW0.out.size))
      have HV := Lib.hid hNB
      have HVG := Lib.hid hge
      clear hNB hB hnm hge
      refine hK.out _ _ ?_ (fun hHeld => ?_)
      · exact ⟨(HA.out.below HW0.out).2.1, (HA2.out.below HW0.out).2.1⟩
      clear hK K
      refine wpAnyH_ready (rs := [3]) (by kernel_rfl) (by simp) ?_
      refine AllReadyH.cons (o := _) rfl (fun K hK => ?_) ?_
      · clear hHeld
        go_simp
        obtain ⟨W17, hWn⟩ : ∃ xw9, W16.alloc (.cells #[.nilIface] 34) = xw9 := ⟨_, rfl⟩
        have hB : Below W16.heap.size W16 W17 := by rw [← hWn]; exact below_new _ _
        have hNB : At1 W17 W16.heap.size .nilIface := by rw [← hWn]; exact At1.new _ _ _
        have hge : w0.heap.size ≤ W16.heap.size := HW0.out.size
        rw [hWn]
        clear hWn
        obtain ⟨wb, hnm⟩ : ∃ x, W16.heap.size = x := ⟨_, rfl⟩
        rw [hnm] at hNB hge ⊢
        have HNE := Lib.hid (show vb ≠ wb by rw [← hnm]; exact Nat.ne_of_lt HV.out.1)
        replace HW0 := Lib.hid (HW0.out.trans (hB.mono HW0.out.size))
        replace HV := Lib.hid (HV.out.below hB)
        have HW := Lib.hid hNB
        have HWG := Lib.hid hge
        clear hNB hB hnm hge
        refine hK.out _ _ ?_ (fun hHeld => ?_)
        · exact ⟨(HA.out.below HW0.out).2.1, (HA2.out.below HW0.out).2.1⟩
        clear hK K
        refine wpAnyH_ready (rs := [4]) (by kernel_rfl) (by simp) ?_
        refine AllReadyH.cons (o := _) rfl (fun K hK => ?_) ?_
        · clear hHeld
          have s0 := HV.out.2.1
          have t0 := HV.out.2.2 0
          go_simp
          clear s0 t0
          obtain ⟨W18, hWn⟩ : ∃ xw9, W17.setCell ⟨vb, 0, none⟩ ua = xw9 := ⟨_, rfl⟩
          rw [hWn]
          replace HV := Lib.hid (show At1 W18 vb ua by rw [← hWn]; exact HV.out.set _)
          replace HW := Lib.hid (show At1 W18 wb _ by rw [← hWn]; exact HW.out.grown (grown_setCell _ ⟨vb, 0, none⟩ _) (by simpa using (Ne.symm HNE.out)))
          replace HW0 := Lib.hid (show Below w0.heap.size w0 W18 by rw [← hWn]; exact HW0.out.setCell HVG.out _)
          clear hWn
          refine hK.out _ _ ?_ (fun hHeld => ?_)
          · exact ⟨(HA.out.below HW0.out).2.1, (HA2.out.below HW0.out).2.1⟩
          clear hK K
          refine wpAnyH_ready (rs := [5]) (by kernel_rfl) (by simp) ?_
          refine AllReadyH.cons (o := _) rfl (fun K hK => ?_) ?_
          · clear hHeld
            have s0 := HW.out.2.1
            have t0 := HW.out.2.2 0
            go_simp
            clear s0 t0
            obtain ⟨W19, hWn⟩ : ∃ xw9, W18.setCell ⟨wb, 0, none⟩ ub = xw9 := ⟨_, rfl⟩
            rw [hWn]
            replace HW := Lib.hid (show At1 W19 wb ub by rw [← hWn]; exact HW.out.set _)
            replace HV := Lib.hid (show At1 W19 vb _ by rw [← hWn]; exact HV.out.grown (grown_setCell _ ⟨wb, 0, none⟩ _) (by simpa using HNE.out))
            replace HW0 := Lib.hid (show Below w0.heap.size w0 W19 by rw [← hWn]; exact HW0.out.setCell HWG.out _)
            clear hWn
            refine hK.out _ _ ?_ (fun hHeld => ?_)
            · exact ⟨(HA.out.below HW0.out).2.1, (HA2.out.below HW0.out).2.1⟩
            clear hK K
            refine wpAnyH_done (by kernel_rfl) ?_ _
            clear hHeld
            exact ⟨rfl, vb, wb, rfl, HV.out, HW.out, HNE.out, HVG.out, HWG.out, HW0.out⟩
          exact AllReadyH.nil
        exact AllReadyH.nil
      exact AllReadyH.nil
    refine AllReadyH.cons (o := _) rfl (fun K hK => ?_) ?_
    · clear hHeld
      go_simp
      obtain ⟨W16, hWn⟩ : ∃ xw9, W15.alloc (.cells #[.nilIface] 34) = xw9 := ⟨_, rfl⟩
      have hB : Below W15.heap.size W15 W16 := by rw [← hWn]; exact below_new _ _
      have hNB : At1 W16 W15.heap.size .nilIface := by rw [← hWn]; exact At1.new _ _ _
      have hge : w0.heap.size ≤ W15.heap.size := HW0.out.size
      rw [hWn]
      clear hWn
      obtain ⟨wb, hnm⟩ : ∃ x, W15.heap.size = x := ⟨_, rfl⟩
      rw [hnm] at hNB hge ⊢
      replace HW0 := Lib.hid (HW0.out.trans (hB.mono HW0.out.size))
      have HW := Lib.hid hNB
      have HWG := Lib.hid hge
      clear hNB hB hnm hge
      refine hK.out _ _ ?_ (fun hHeld => ?_)
      · exact ⟨(HA.out.below HW0.out).2.1, (HA2.out.below HW0.out).2.1⟩
      clear hK K
      refine wpAnyH_ready (rs := [2]) (by kernel_rfl) (by simp) ?_
      refine AllReadyH.cons (o := _) rfl (fun K hK => ?_) ?_
      · clear hHeld
        go_simp
        obtain ⟨W17, hWn⟩ : ∃ xw9, W16.alloc (.cells #[.nilIface] 34) = xw9 := ⟨_, rfl⟩
        have hB : Below W16.heap.size W16 W17 := by rw [← hWn]; exact below_new _ _
        have hNB : At1 W17 W16.heap.size .nilIface := by rw [← hWn]; exact At1.new _ _ _
        have hge : w0.heap.size ≤ W16.heap.size := HW0.out.size
        rw [hWn]
        clear hWn
        obtain ⟨vb, hnm⟩ : ∃ x, W16.heap.size = x := ⟨_, rfl⟩
        rw [hnm] at hNB hge ⊢
        have HNE := Lib.hid (show wb ≠ vb by rw [← hnm]; exact Nat.ne_of_lt HW.out.1)
        replace HW0 := Lib.hid (HW0.out.trans (hB.mono HW0.out.size))
        replace HW := Lib.hid (HW.out.below hB)
        have HV := Lib.hid hNB
        have HVG := Lib.hid hge
        clear hNB hB hnm hge
        refine hK.out _ _ ?_ (fun hHeld => ?_)
        · exact ⟨(HA.out.below HW0.out).2.1, (HA2.out.below HW0.out).2.1⟩
        clear hK K
        refine wpAnyH_ready (rs := [4]) (by kernel_rfl) (by simp) ?_
        refine AllReadyH.cons (o := _) rfl (fun K hK => ?_) ?_
        · clear hHeld
          have s0 := HV.out.2.1
          have t0 := HV.out.2.2 0
          go_simp
          clear s0 t0
          obtain ⟨W18, hWn⟩ : ∃ xw9, W17.setCell ⟨vb, 0, none⟩ ua = xw9 := ⟨_, rfl⟩
          rw [hWn]
          replace HV := Lib.hid (show At1 W18 vb ua by rw [← hWn]; exact HV.out.set _)
          replace HW := Lib.hid (show At1 W18 wb _ by rw [← hWn]; exact HW.out.grown (grown_setCell _ ⟨vb, 0, none⟩ _) (by simpa using HNE.out))
          replace HW0 := Lib.hid (show Below w0.heap.size w0 W18 by rw [← hWn]; exact HW0.out.setCell HVG.out _)
          clear hWn
          refine hK.out _ _ ?_ (fun hHeld => ?_)
          · exact ⟨(HA.out.below HW0.out).2.1, (HA2.out.below HW0.out).2.1⟩
          clear hK K
          refine wpAnyH_ready (rs := [5]) (by kernel_rfl) (by simp) ?_
          refine AllReadyH.cons (o := _) rfl (fun K hK => ?_) ?_
          · clear hHeld
            have s0 := HW.out.2.1
            have t0 := HW.out.2.2 0
            go_simp
            clear s0 t0
            obtain ⟨W19, hWn⟩ : ∃ xw9, W18.setCell ⟨wb, 0, none⟩ ub = xw9 := ⟨_, rfl⟩
            rw [hWn]
            replace HW := Lib.hid (show At1 W19 wb ub by rw [← hWn]; exact HW.out.set _)
            replace HV := Lib.hid (show At1 W19 vb _ by rw [← hWn]; exact HV.out.grown (grown_setCell _ ⟨wb, 0, none⟩ _) (by simpa using (Ne.symm HNE.out)))
            replace HW0 := Lib.hid (show Below w0.heap.size w0 W19 by rw [← hWn]; exact HW0.out.setCell HWG.out _)
            clear hWn
            refine hK.out _ _ ?_ (fun hHeld => ?_)
            · exact ⟨(HA.out.below HW0.out).2.1, (HA2.out.below HW0.out).2.1⟩
            clear hK K
            refine wpAnyH_done (by kernel_rfl) ?_ _
            clear hHeld
            exact ⟨rfl, vb, wb, rfl, HV.out, HW.out, (Ne.symm HNE.out), HVG.out, HWG.out, HW0.out⟩
          exact AllReadyH.nil
        exact AllReadyH.nil
      exact AllReadyH.nil
    exact AllReadyH.nil
  rintro _ w1 ⟨vb, wb, rfl, hV, hW, hne, hvg, hwg, hB⟩
  have HZ0 := Lib.hid (show w0.heap.size ≤ vb ∧ w0.heap.size ≤ wb ∧ vb ≠ wb from ⟨hvg, hwg, hne⟩)
  replace HU := Lib.hid (show IsV w0 (fun b => b ≠ vb ∧ b ≠ wb) ua A from HU.out.lt.wide (fun b _ h => by have := h.2; have := HZ0.out; omega))
  replace HU2 := Lib.hid (show IsV w0 (fun b => b ≠ vb ∧ b ≠ wb) ub B from HU2.out.lt.wide (fun b _ h => by have := h.2; have := HZ0.out; omega))
  have HV := Lib.hid hV
  have HW := Lib.hid hW
  clear hV hW hne hvg hwg
  replace HB := Lib.hid (HB.out.trans (hB.mono HB.out.size))
  replace HT := Lib.hid (fun j hj => keep_below hB _ _ (HT.out j hj))
  replace HU := Lib.hid (HU.out.grow hB)
  replace HA := Lib.hid (HA.out.below hB)
  replace HU2 := Lib.hid (HU2.out.grow hB)
  replace HA2 := Lib.hid (HA2.out.below hB)
  clear hB
  simp only [Act.put, List.setIfInBounds_toArray, List.set_cons_zero, List.set_cons_succ]
  have cHA0 := HA.out.2.1
  have cHA20 := HA2.out.2.1
  have cHV0 := HV.out.2.1
  have cHW0 := HW.out.2.1
  go_wp2_with fail
  have hv1 := HV.out.1
  have hw1 := HW.out.1
  refine (sinto_calls _ A j _ HU.out HHA.out.1 HHA.out.2.1 HT.out).mono ?_
  rintro e W15 ⟨uzv, rfl, hz, hB⟩
  clear cHA0 cHA20 cHV0 cHW0
  replace HB := Lib.hid (HB.out.trans (hB.mono HB.out.size))
  replace HT := Lib.hid (fun j hj => keep_below hB _ _ (HT.out j hj))
  replace HU := Lib.hid (HU.out.grow hB)
  replace HA := Lib.hid (HA.out.below hB)
  replace HU2 := Lib.hid (HU2.out.grow hB)
  replace HA2 := Lib.hid (HA2.out.below hB)
  replace HV := Lib.hid (HV.out.below hB)
  replace HW := Lib.hid (HW.out.below hB)
  have HZv := Lib.hid (show IsV W15 (fun b => b ≠ vb ∧ b ≠ wb) uzv (A.into j) from hz.wide (fun b _ h => by
    rcases h with h | h
    · exact h
    · have h : w1.heap.size ≤ b := h
      omega))
  have hsuzv := hz.store
  clear hz hv1 hw1
  clear hB
  have hzl := HV.out.1
  have hzm := HW.out.1
  obtain ⟨W16, hWn⟩ : ∃ xw9, W15.alloc (.cells #[uzv] 34) = xw9 := ⟨_, rfl⟩
  have hB : Below W15.heap.size W15 W16 := by rw [← hWn]; exact below_new _ _
  have hNB : At1 W16 W15.heap.size (uzv) := by rw [← hWn]; exact At1.new _ _ _
  replace HB := Lib.hid (HB.out.trans (hB.mono HB.out.size))
  replace HT := Lib.hid (fun j hj => keep_below hB _ _ (HT.out j hj))
  replace HU := Lib.hid (HU.out.grow hB)
  replace HA := Lib.hid (HA.out.below hB)
  replace HU2 := Lib.hid (HU2.out.grow hB)
  replace HA2 := Lib.hid (HA2.out.below hB)
  replace HV := Lib.hid (HV.out.below hB)
  replace HW := Lib.hid (HW.out.below hB)
  replace HZv := Lib.hid (HZv.out.grow hB)
  have HAuzv := Lib.hid hNB
  clear hNB hB
  have HZLv := Lib.hid (show vb < W15.heap.size ∧ wb < W15.heap.size from ⟨hzl, hzm⟩)
  clear hzl hzm
  by_cases hft : A.fit j = true
  · have HFTv := Lib.hid hft
    rw [hft]
    clear hft
    have cHA0 := HA.out.2.1
    have cHA20 := HA2.out.2.1
    have cHV0 := HV.out.2.1
    have zHV0 := HV.out.2.2 0
    have cHW0 := HW.out.2.1
    have cHAuzv0 := HAuzv.out.2.1
    obtain ⟨W17, hWs⟩ : ∃ xw9, W16.setCell ⟨vb, 0, none⟩ uzv = xw9 := ⟨_, rfl⟩
    have HSH := Lib.hid HU.out.shape
    replace HB := Lib.hid (show Below w.heap.size w W17 by rw [← hWs]; exact HB.out.setCell (by show w.heap.size ≤ vb; have := HZ0.out; have := HWB0.out; omega) _)
    replace HT := Lib.hid (show TabAt W17 by rw [← hWs]; exact TabAt.setc HT.out HV.out.2.1 HSH.out _)
    replace HU := Lib.hid (show IsV W17 _ _ _ by rw [← hWs]; exact HU.out.setb (p := ⟨vb, 0, none⟩) (fun h => by have := h.1; have := h.2; simp at *) _)
    replace HA := Lib.hid (show At1 W17 (xa) _ by rw [← hWs]; exact HA.out.grown (grown_setCell _ ⟨vb, 0, none⟩ _) (by have hq : xa ≠ vb := (by have := HLT.out; have := HZ0.out; omega); simpa using hq))
    replace HU2 := Lib.hid (show IsV W17 _ _ _ by rw [← hWs]; exact HU2.out.setb (p := ⟨vb, 0, none⟩) (fun h => by have := h.1; have := h.2; simp at *) _)
    replace HA2 := Lib.hid (show At1 W17 (xb) _ by rw [← hWs]; exact HA2.out.grown (grown_setCell _ ⟨vb, 0, none⟩ _) (by have hq : xb ≠ vb := (by have := HLT.out; have := HZ0.out; omega); simpa using hq))
    replace HW := Lib.hid (show At1 W17 (wb) _ by rw [← hWs]; exact HW.out.grown (grown_setCell _ ⟨vb, 0, none⟩ _) (by have hq : wb ≠ vb := (by have := HZ0.out; omega); simpa using hq))
    replace HZv := Lib.hid (show IsV W17 _ _ _ by rw [← hWs]; exact HZv.out.setb (p := ⟨vb, 0, none⟩) (fun h => by have := h.1; have := h.2; simp at *) _)
    replace HAuzv := Lib.hid (show At1 W17 (W15.heap.size) _ by rw [← hWs]; exact HAuzv.out.grown (grown_setCell _ ⟨vb, 0, none⟩ _) (by have hq : W15.heap.size ≠ vb := (by have := HZLv.out; omega); simpa using hq))
    replace HV := Lib.hid (show At1 W17 vb uzv by rw [← hWs]; exact HV.out.set _)
    have cHA0 := HA.out.2.1
    have cHA20 := HA2.out.2.1
    have cHV0 := HV.out.2.1
    have cHW0 := HW.out.2.1
    have cHAuzv0 := HAuzv.out.2.1
    go_wp2_with fail
    clear hWs hWn cHA0 cHA20 cHV0 zHV0 cHW0 cHAuzv0
    have HKv := Lib.hid (holds_into HHA.out HFTv.out)
    have hv1 := HV.out.1
    have hw1 := HW.out.1
    refine (sinto_calls _ B k _ HU2.out HHB.out.1 HHB.out.2.1 HT.out).mono ?_
    rintro e W18 ⟨uzw, rfl, hz, hB⟩
    clear cHA0 cHA20 cHV0 cHW0 cHAuzv0
    replace HB := Lib.hid (HB.out.trans (hB.mono HB.out.size))
    replace HT := Lib.hid (fun j hj => keep_below hB _ _ (HT.out j hj))
    replace HU := Lib.hid (HU.out.grow hB)
    replace HA := Lib.hid (HA.out.below hB)
    replace HU2 := Lib.hid (HU2.out.grow hB)
    replace HA2 := Lib.hid (HA2.out.below hB)
    replace HV := Lib.hid (HV.out.below hB)
    replace HW := Lib.hid (HW.out.below hB)
    replace HZv := Lib.hid (HZv.out.grow hB)
    replace HAuzv := Lib.hid (HAuzv.out.below hB)
    have HZw := Lib.hid (show IsV W18 (fun b => b ≠ vb ∧ b ≠ wb) uzw (B.into k) from hz.wide (fun b _ h => by
      rcases h with h | h
      · exact h
      · have h : W17.heap.size ≤ b := h
        omega))
    have hsuzw := hz.store
    clear hz hv1 hw1
    clear hB
    have hzl := HV.out.1
    have hzm := HW.out.1
    obtain ⟨W19, hWn⟩ : ∃ xw9, W18.alloc (.cells #[uzw] 34) = xw9 := ⟨_, rfl⟩
    have hB : Below W18.heap.size W18 W19 := by rw [← hWn]; exact below_new _ _
    have hNB : At1 W19 W18.heap.size (uzw) := by rw [← hWn]; exact At1.new _ _ _
    replace HB := Lib.hid (HB.out.trans (hB.mono HB.out.size))
    replace HT := Lib.hid (fun j hj => keep_below hB _ _ (HT.out j hj))
    replace HU := Lib.hid (HU.out.grow hB)
    replace HA := Lib.hid (HA.out.below hB)
    replace HU2 := Lib.hid (HU2.out.grow hB)
    replace HA2 := Lib.hid (HA2.out.below hB)
    replace HV := Lib.hid (HV.out.below hB)
    replace HW := Lib.hid (HW.out.below hB)
    replace HZv := Lib.hid (HZv.out.grow hB)
    replace HAuzv := Lib.hid (HAuzv.out.below hB)
    replace HZw := Lib.hid (HZw.out.grow hB)
    have HAuzw := Lib.hid hNB
    clear hNB hB
    have HZLw := Lib.hid (show vb < W18.heap.size ∧ wb < W18.heap.size from ⟨hzl, hzm⟩)
    clear hzl hzm
    by_cases hft : B.fit k = true
    · have HFTw := Lib.hid hft
      rw [hft]
      clear hft
      have cHA0 := HA.out.2.1
      have cHA20 := HA2.out.2.1
      have cHV0 := HV.out.2.1
      have cHW0 := HW.out.2.1
      have zHW0 := HW.out.2.2 0
      have cHAuzv0 := HAuzv.out.2.1
      have cHAuzw0 := HAuzw.out.2.1
      obtain ⟨W20, hWs⟩ : ∃ xw9, W19.setCell ⟨wb, 0, none⟩ uzw = xw9 := ⟨_, rfl⟩
      have HSH := Lib.hid HU2.out.shape
      replace HB := Lib.hid (show Below w.heap.size w W20 by rw [← hWs]; exact HB.out.setCell (by show w.heap.size ≤ wb; have := HZ0.out; have := HWB0.out; omega) _)
      replace HT := Lib.hid (show TabAt W20 by rw [← hWs]; exact TabAt.setc HT.out HW.out.2.1 HSH.out _)
      replace HU := Lib.hid (show IsV W20 _ _ _ by rw [← hWs]; exact HU.out.setb (p := ⟨wb, 0, none⟩) (fun h => by have := h.1; have := h.2; simp at *) _)
      replace HA := Lib.hid (show At1 W20 (xa) _ by rw [← hWs]; exact HA.out.grown (grown_setCell _ ⟨wb, 0, none⟩ _) (by have hq : xa ≠ wb := (by have := HLT.out; have := HZ0.out; omega); simpa using hq))
      replace HU2 := Lib.hid (show IsV W20 _ _ _ by rw [← hWs]; exact HU2.out.setb (p := ⟨wb, 0, none⟩) (fun h => by have := h.1; have := h.2; simp at *) _)
      replace HA2 := Lib.hid (show At1 W20 (xb) _ by rw [← hWs]; exact HA2.out.grown (grown_setCell _ ⟨wb, 0, none⟩ _) (by have hq : xb ≠ wb := (by have := HLT.out; have := HZ0.out; omega); simpa using hq))
      replace HV := Lib.hid (show At1 W20 (vb) _ by rw [← hWs]; exact HV.out.grown (grown_setCell _ ⟨wb, 0, none⟩ _) (by have hq : vb ≠ wb := (by have := HZ0.out; omega); simpa using hq))
      replace HZv := Lib.hid (show IsV W20 _ _ _ by rw [← hWs]; exact HZv.out.setb (p := ⟨wb, 0, none⟩) (fun h => by have := h.1; have := h.2; simp at *) _)
      replace HAuzv := Lib.hid (show At1 W20 (W15.heap.size) _ by rw [← hWs]; exact HAuzv.out.grown (grown_setCell _ ⟨wb, 0, none⟩ _) (by have hq : W15.heap.size ≠ wb := (by have := HZLv.out; omega); simpa using hq))
      replace HZw := Lib.hid (show IsV W20 _ _ _ by rw [← hWs]; exact HZw.out.setb (p := ⟨wb, 0, none⟩) (fun h => by have := h.1; have := h.2; simp at *) _)
      replace HAuzw := Lib.hid (show At1 W20 (W18.heap.size) _ by rw [← hWs]; exact HAuzw.out.grown (grown_setCell _ ⟨wb, 0, none⟩ _) (by have hq : W18.heap.size ≠ wb := (by have := HZLw.out; omega); simpa using hq))
      replace HW := Lib.hid (show At1 W20 wb uzw by rw [← hWs]; exact HW.out.set _)
      have cHA0 := HA.out.2.1
      have cHA20 := HA2.out.2.1
      have cHV0 := HV.out.2.1
      have cHW0 := HW.out.2.1
      have cHAuzv0 := HAuzv.out.2.1
      have cHAuzw0 := HAuzw.out.2.1
      go_wp2_with fail
      clear hWs hWn cHA0 cHA20 cHV0 cHW0 zHW0 cHAuzv0 cHAuzw0
      have HKw := Lib.hid (holds_into HHB.out HFTw.out)
      have HPL := Lib.hid (reV_len (f := f) (VV.ok_len HHA.out.1) (VV.ok_len HHB.out.1))
      obtain ⟨E, hE⟩ : ∃ E, reE f A B = E := ⟨_, rfl⟩
      obtain ⟨RV, hRV⟩ : ∃ RV, reV f A B = RV := ⟨_, rfl⟩
      have HE := Lib.hid hE
      have HRV := Lib.hid hRV
      have HS := Lib.hid (show reE f (A.into j) (B.into k) = E ∧ reV f (A.into j) (B.into k) = RV by rw [← hE, ← hRV]; exact holds_same HHA.out HHB.out HKv.out HKw.out)
      rw [hRV] at HPL
      have hee : (E == E) = true := by simp
      obtain ⟨Lp, hLp⟩ : ∃ Lp, RV.packed = Lp := ⟨_, rfl⟩
      have HLp := Lib.hid hLp
      rw [hLp] at HPL
      clear hE hRV hLp
      refine (reapply_calls f _ _ A B _ HU.out HU2.out HHA.out.1 HHB.out.1 HHA.out.2.1 HHB.out.2.1 HT.out).mono ?_
      rintro e W21 ⟨up, rfl, hup, hB⟩
      clear cHA0 cHA20 cHV0 cHW0 cHAuzv0 cHAuzw0
      replace HB := Lib.hid (HB.out.trans (hB.mono HB.out.size))
      replace HT := Lib.hid (fun j hj => keep_below hB _ _ (HT.out j hj))
      replace HU := Lib.hid (HU.out.grow hB)
      replace HA := Lib.hid (HA.out.below hB)
      replace HU2 := Lib.hid (HU2.out.grow hB)
      replace HA2 := Lib.hid (HA2.out.below hB)
      replace HV := Lib.hid (HV.out.below hB)
      replace HW := Lib.hid (HW.out.below hB)
      replace HZv := Lib.hid (HZv.out.grow hB)
      replace HAuzv := Lib.hid (HAuzv.out.below hB)
      replace HZw := Lib.hid (HZw.out.grow hB)
      replace HAuzw := Lib.hid (HAuzw.out.below hB)
      rw [HE.out]
      rw [HRV.out] at hup
      have HUP := Lib.hid (IsV.any hup)
      have hsup := hup.store
      clear hup
      clear hB
      obtain ⟨W22, hWn⟩ : ∃ xw9, W21.alloc (.cells #[up] 34) = xw9 := ⟨_, rfl⟩
      have hB : Below W21.heap.size W21 W22 := by rw [← hWn]; exact below_new _ _
      have hNB : At1 W22 W21.heap.size (up) := by rw [← hWn]; exact At1.new _ _ _
      replace HB := Lib.hid (HB.out.trans (hB.mono HB.out.size))
      replace HT := Lib.hid (fun j hj => keep_below hB _ _ (HT.out j hj))
      replace HU := Lib.hid (HU.out.grow hB)
      replace HA := Lib.hid (HA.out.below hB)
      replace HU2 := Lib.hid (HU2.out.grow hB)
      replace HA2 := Lib.hid (HA2.out.below hB)
      replace HV := Lib.hid (HV.out.below hB)
      replace HW := Lib.hid (HW.out.below hB)
      replace HZv := Lib.hid (HZv.out.grow hB)
      replace HAuzv := Lib.hid (HAuzv.out.below hB)
      replace HZw := Lib.hid (HZw.out.grow hB)
      replace HAuzw := Lib.hid (HAuzw.out.below hB)
      replace HUP := Lib.hid (HUP.out.grow hB)
      have HPA := Lib.hid hNB
      clear hNB hB
      have cHA0 := HA.out.2.1
      have cHA20 := HA2.out.2.1
      have cHV0 := HV.out.2.1
      have cHW0 := HW.out.2.1
      have cHAuzv0 := HAuzv.out.2.1
      have cHAuzw0 := HAuzw.out.2.1
      have cHPA0 := HPA.out.2.1
      go_wp2_with fail
      clear hWn
      refine (reapply_calls f _ _ (A.into j) (B.into k) _ HZv.out HZw.out HKv.out.1 HKw.out.1 HKv.out.2.1 HKw.out.2.1 HT.out).mono ?_
      rintro e W23 ⟨uq, rfl, huq, hB⟩
      clear cHA0 cHA20 cHV0 cHW0 cHAuzv0 cHAuzw0 cHPA0
      replace HB := Lib.hid (HB.out.trans (hB.mono HB.out.size))
      replace HT := Lib.hid (fun j hj => keep_below hB _ _ (HT.out j hj))
      replace HU := Lib.hid (HU.out.grow hB)
      replace HA := Lib.hid (HA.out.below hB)
      replace HU2 := Lib.hid (HU2.out.grow hB)
      replace HA2 := Lib.hid (HA2.out.below hB)
      replace HV := Lib.hid (HV.out.below hB)
      replace HW := Lib.hid (HW.out.below hB)
      replace HZv := Lib.hid (HZv.out.grow hB)
      replace HAuzv := Lib.hid (HAuzv.out.below hB)
      replace HZw := Lib.hid (HZw.out.grow hB)
      replace HAuzw := Lib.hid (HAuzw.out.below hB)
      replace HUP := Lib.hid (HUP.out.grow hB)
      replace HPA := Lib.hid (HPA.out.below hB)
      rw [HS.out.1]
      rw [HS.out.2] at huq
      have HUQ := Lib.hid (IsV.any huq)
      have hsuq := huq.store
      clear huq
      clear hB
      obtain ⟨W24, hWn⟩ : ∃ xw9, W23.alloc (.cells #[uq] 34) = xw9 := ⟨_, rfl⟩
      have hB : Below W23.heap.size W23 W24 := by rw [← hWn]; exact below_new _ _
      have hNB : At1 W24 W23.heap.size (uq) := by rw [← hWn]; exact At1.new _ _ _
      replace HB := Lib.hid (HB.out.trans (hB.mono HB.out.size))
      replace HT := Lib.hid (fun j hj => keep_below hB _ _ (HT.out j hj))
      replace HU := Lib.hid (HU.out.grow hB)
      replace HA := Lib.hid (HA.out.below hB)
      replace HU2 := Lib.hid (HU2.out.grow hB)
      replace HA2 := Lib.hid (HA2.out.below hB)
      replace HV := Lib.hid (HV.out.below hB)
      replace HW := Lib.hid (HW.out.below hB)
      replace HZv := Lib.hid (HZv.out.grow hB)
      replace HAuzv := Lib.hid (HAuzv.out.below hB)
      replace HZw := Lib.hid (HZw.out.grow hB)
      replace HAuzw := Lib.hid (HAuzw.out.below hB)
      replace HUP := Lib.hid (HUP.out.grow hB)
      replace HPA := Lib.hid (HPA.out.below hB)
      replace HUQ := Lib.hid (HUQ.out.grow hB)
      have HQA := Lib.hid hNB
      clear hNB hB
      have cHA0 := HA.out.2.1
      have cHA20 := HA2.out.2.1
      have cHV0 := HV.out.2.1
      have cHW0 := HW.out.2.1
      have cHAuzv0 := HAuzv.out.2.1
      have cHAuzw0 := HAuzw.out.2.1
      have cHPA0 := HPA.out.2.1
      have cHQA0 := HQA.out.2.1
      go_wp2_with fail
      clear hWn
      refine (vpacked_calls _ RV _ HUP.out).mono ?_
      rintro e W25 ⟨vp, rfl, hvp, hB⟩
      clear cHA0 cHA20 cHV0 cHW0 cHAuzv0 cHAuzw0 cHPA0 cHQA0
      replace HB := Lib.hid (HB.out.trans (hB.mono HB.out.size))
      replace HT := Lib.hid (fun j hj => keep_below hB _ _ (HT.out j hj))
      replace HU := Lib.hid (HU.out.grow hB)
      replace HA := Lib.hid (HA.out.below hB)
      replace HU2 := Lib.hid (HU2.out.grow hB)
      replace HA2 := Lib.hid (HA2.out.below hB)
      replace HV := Lib.hid (HV.out.below hB)
      replace HW := Lib.hid (HW.out.below hB)
      replace HZv := Lib.hid (HZv.out.grow hB)
      replace HAuzv := Lib.hid (HAuzv.out.below hB)
      replace HZw := Lib.hid (HZw.out.grow hB)
      replace HAuzw := Lib.hid (HAuzw.out.below hB)
      replace HUP := Lib.hid (HUP.out.grow hB)
      replace HPA := Lib.hid (HPA.out.below hB)
      replace HUQ := Lib.hid (HUQ.out.grow hB)
      replace HQA := Lib.hid (HQA.out.below hB)
      rw [HLp.out] at hvp
      have Hvp := Lib.hid hvp
      obtain ⟨ap, cp, rfl, hcp⟩ := hvp.opened
      clear hvp hcp
      clear hB
      obtain ⟨W26, hWn⟩ : ∃ xw9, W25.alloc (.cells #[.int .i64 Lp.length, .slice ap ((Lp.length + 63) / 64) cp] 42) = xw9 := ⟨_, rfl⟩
      have hB : Below W25.heap.size W25 W26 := by rw [← hWn]; exact below_new _ _
      have hNB : At2 W26 W25.heap.size (.int .i64 Lp.length) (.slice ap ((Lp.length + 63) / 64) cp) := by rw [← hWn]; exact At2.new _ _ _ _
      replace HB := Lib.hid (HB.out.trans (hB.mono HB.out.size))
      replace HT := Lib.hid (fun j hj => keep_below hB _ _ (HT.out j hj))
      replace HU := Lib.hid (HU.out.grow hB)
      replace HA := Lib.hid (HA.out.below hB)
      replace HU2 := Lib.hid (HU2.out.grow hB)
      replace HA2 := Lib.hid (HA2.out.below hB)
      replace HV := Lib.hid (HV.out.below hB)
      replace HW := Lib.hid (HW.out.below hB)
      replace HZv := Lib.hid (HZv.out.grow hB)
      replace HAuzv := Lib.hid (HAuzv.out.below hB)
      replace HZw := Lib.hid (HZw.out.grow hB)
      replace HAuzw := Lib.hid (HAuzw.out.below hB)
      replace HUP := Lib.hid (HUP.out.grow hB)
      replace HPA := Lib.hid (HPA.out.below hB)
      replace HUQ := Lib.hid (HUQ.out.grow hB)
      replace HQA := Lib.hid (HQA.out.below hB)
      replace Hvp := Lib.hid (Hvp.out.keep (keep_below hB))
      have Hp := Lib.hid hNB
      clear hNB hB
      have cHA0 := HA.out.2.1
      have cHA20 := HA2.out.2.1
      have cHV0 := HV.out.2.1
      have cHW0 := HW.out.2.1
      have cHAuzv0 := HAuzv.out.2.1
      have cHAuzw0 := HAuzw.out.2.1
      have cHPA0 := HPA.out.2.1
      have cHQA0 := HQA.out.2.1
      have cHp0 := Hp.out.2.1
      have cHp1 := Hp.out.2.2.1
      go_wp2_with fail
      clear hWn
      refine (vpacked_calls _ RV _ HUQ.out).mono ?_
      rintro e W27 ⟨vq, rfl, hvq, hB⟩
      clear cHA0 cHA20 cHV0 cHW0 cHAuzv0 cHAuzw0 cHPA0 cHQA0 cHp0 cHp1
      replace HB := Lib.hid (HB.out.trans (hB.mono HB.out.size))
      replace HT := Lib.hid (fun j hj => keep_below hB _ _ (HT.out j hj))
      replace HU := Lib.hid (HU.out.grow hB)
      replace HA := Lib.hid (HA.out.below hB)
      replace HU2 := Lib.hid (HU2.out.grow hB)
      replace HA2 := Lib.hid (HA2.out.below hB)
      replace HV := Lib.hid (HV.out.below hB)
      replace HW := Lib.hid (HW.out.below hB)
      replace HZv := Lib.hid (HZv.out.grow hB)
      replace HAuzv := Lib.hid (HAuzv.out.below hB)
      replace HZw := Lib.hid (HZw.out.grow hB)
      replace HAuzw := Lib.hid (HAuzw.out.below hB)
      replace HUP := Lib.hid (HUP.out.grow hB)
      replace HPA := Lib.hid (HPA.out.below hB)
      replace HUQ := Lib.hid (HUQ.out.grow hB)
      replace HQA := Lib.hid (HQA.out.below hB)
      replace Hvp := Lib.hid (Hvp.out.keep (keep_below hB))
      replace Hp := Lib.hid (Hp.out.below hB)
      rw [HLp.out] at hvq
      have Hvq := Lib.hid hvq
      obtain ⟨aq, cq, rfl, hcq⟩ := hvq.opened
      clear hvq hcq
      clear hB
      obtain ⟨W28, hWn⟩ : ∃ xw9, W27.alloc (.cells #[.int .i64 Lp.length, .slice aq ((Lp.length + 63) / 64) cq] 42) = xw9 := ⟨_, rfl⟩
      have hB : Below W27.heap.size W27 W28 := by rw [← hWn]; exact below_new _ _
      have hNB : At2 W28 W27.heap.size (.int .i64 Lp.length) (.slice aq ((Lp.length + 63) / 64) cq) := by rw [← hWn]; exact At2.new _ _ _ _
      replace HB := Lib.hid (HB.out.trans (hB.mono HB.out.size))
      replace HT := Lib.hid (fun j hj => keep_below hB _ _ (HT.out j hj))
      replace HU := Lib.hid (HU.out.grow hB)
      replace HA := Lib.hid (HA.out.below hB)
      replace HU2 := Lib.hid (HU2.out.grow hB)
      replace HA2 := Lib.hid (HA2.out.below hB)
      replace HV := Lib.hid (HV.out.below hB)
      replace HW := Lib.hid (HW.out.below hB)
      replace HZv := Lib.hid (HZv.out.grow hB)
      replace HAuzv := Lib.hid (HAuzv.out.below hB)
      replace HZw := Lib.hid (HZw.out.grow hB)
      replace HAuzw := Lib.hid (HAuzw.out.below hB)
      replace HUP := Lib.hid (HUP.out.grow hB)
      replace HPA := Lib.hid (HPA.out.below hB)
      replace HUQ := Lib.hid (HUQ.out.grow hB)
      replace HQA := Lib.hid (HQA.out.below hB)
      replace Hvp := Lib.hid (Hvp.out.keep (keep_below hB))
      replace Hp := Lib.hid (Hp.out.below hB)
      replace Hvq := Lib.hid (Hvq.out.keep (keep_below hB))
      have Hq := Lib.hid hNB
      clear hNB hB
      have cHA0 := HA.out.2.1
      have cHA20 := HA2.out.2.1
      have cHV0 := HV.out.2.1
      have cHW0 := HW.out.2.1
      have cHAuzv0 := HAuzv.out.2.1
      have cHAuzw0 := HAuzw.out.2.1
      have cHPA0 := HPA.out.2.1
      have cHQA0 := HQA.out.2.1
      have cHp0 := Hp.out.2.1
      have cHp1 := Hp.out.2.2.1
      have cHq0 := Hq.out.2.1
      have cHq1 := Hq.out.2.2.1
      go_wp2_with fail
      clear hWn
      clear cHA0 cHA20 cHV0 cHW0 cHAuzv0 cHAuzw0 cHPA0 cHQA0 cHp0 cHp1 cHq0 cHq1
      obtain ⟨W29, hWD⟩ : ∃ xw9, W28.drew = xw9 := ⟨_, rfl⟩
      have hB : Below W28.heap.size W28 W29 := by rw [← hWD]; exact Below.drewN' (Below.refl _ _) 1
      replace HB := Lib.hid (HB.out.trans (hB.mono HB.out.size))
      replace HT := Lib.hid (fun j hj => keep_below hB _ _ (HT.out j hj))
      replace HU := Lib.hid (HU.out.grow hB)
      replace HA := Lib.hid (HA.out.below hB)
      replace HU2 := Lib.hid (HU2.out.grow hB)
      replace HA2 := Lib.hid (HA2.out.below hB)
      replace HV := Lib.hid (HV.out.below hB)
      replace HW := Lib.hid (HW.out.below hB)
      replace HZv := Lib.hid (HZv.out.grow hB)
      replace HAuzv := Lib.hid (HAuzv.out.below hB)
      replace HZw := Lib.hid (HZw.out.grow hB)
      replace HAuzw := Lib.hid (HAuzw.out.below hB)
      replace HUP := Lib.hid (HUP.out.grow hB)
      replace HPA := Lib.hid (HPA.out.below hB)
      replace HUQ := Lib.hid (HUQ.out.grow hB)
      replace HQA := Lib.hid (HQA.out.below hB)
      replace Hvp := Lib.hid (Hvp.out.keep (keep_below hB))
      replace Hp := Lib.hid (Hp.out.below hB)
      replace Hvq := Lib.hid (Hvq.out.keep (keep_below hB))
      replace Hq := Lib.hid (Hq.out.below hB)
      clear hB
      refine wp_region_held_drew (S := fun w' => w'.cell? ⟨W25.heap.size, 0, none⟩ = some (.int .i64 Lp.length) ∧ w'.cell? ⟨W25.heap.size, 1, none⟩ = some (.slice ap ((Lp.length + 63) / 64) cp) ∧ w'.cell? ⟨W27.heap.size, 0, none⟩ = some (.int .i64 Lp.length) ∧ w'.cell? ⟨W27.heap.size, 1, none⟩ = some (.slice aq ((Lp.length + 63) / 64) cq)) (by kernel_rfl) (by rw [hWD]; exact ⟨Hp.out.2.1, Hp.out.2.2.1, Hq.out.2.1, Hq.out.2.2.1⟩) (fun hHeld => ?_)
      rw [hWD] at hHeld ⊢
      clear hWD
      refine wpAnyH_take (i := 0) (v := ?_) rfl (by kernel_rfl) (by kernel_rfl) (by kernel_rfl) (fun _ _ _ h => h) (Or.inl ⟨by rfl, ?_⟩) (by assumption) ?_
      rotate_left
      · (intro w hSw; (try dsimp only at hSw); go_simp; try with_reducible rfl)
      simp only [Act.put, List.getElem_toArray, List.getElem_cons_zero, List.setIfInBounds_toArray, List.set_cons_zero, List.set_cons_succ]
      refine wpAnyH_take (i := 1) (v := ?_) rfl (by kernel_rfl) (by kernel_rfl) (by kernel_rfl) (fun _ _ _ h => h) (Or.inl ⟨by rfl, ?_⟩) (by assumption) ?_
      rotate_left
      · (intro w hSw; (try dsimp only at hSw); go_simp; try with_reducible rfl)
      simp only [Act.put, List.getElem_toArray, List.getElem_cons_succ, List.getElem_cons_zero, List.setIfInBounds_toArray, List.set_cons_zero, List.set_cons_succ]
      refine wpAnyH_take (i := 2) (v := ?_) rfl (by kernel_rfl) (by kernel_rfl) (by kernel_rfl) (fun _ _ _ h => h) (Or.inl ⟨by rfl, ?_⟩) (by assumption) ?_
      rotate_left
      · (intro w hSw; (try dsimp only at hSw); go_simp; try with_reducible rfl)
      simp only [Act.put, List.getElem_toArray, List.getElem_cons_succ, List.getElem_cons_zero, List.setIfInBounds_toArray, List.set_cons_zero, List.set_cons_succ]
      refine wpAnyH_take (i := 3) (v := ?_) rfl (by kernel_rfl) (by kernel_rfl) (by kernel_rfl) (fun _ _ _ h => h) (Or.inl ⟨by rfl, ?_⟩) (by assumption) ?_
      rotate_left
      · (intro w hSw; (try dsimp only at hSw); go_simp; try with_reducible rfl)
      simp only [Act.put, List.getElem_toArray, List.getElem_cons_succ, List.getElem_cons_zero, List.setIfInBounds_toArray, List.set_cons_zero, List.set_cons_succ]
      refine wpAnyH_take (i := 4) (v := ?_) rfl (by kernel_rfl) (by kernel_rfl) (by kernel_rfl) (fun _ _ _ h => h) (Or.inl ⟨by rfl, ?_⟩) (by assumption) ?_
      rotate_left
      · (intro w hSw; (try dsimp only at hSw); go_simp; try with_reducible rfl)
      simp only [Act.put, List.getElem_toArray, List.getElem_cons_succ, List.getElem_cons_zero, List.setIfInBounds_toArray, List.set_cons_zero, List.set_cons_succ]
      refine wpAnyH_take (i := 6) (v := ?_) rfl (by kernel_rfl) (by kernel_rfl) (by kernel_rfl) (fun _ _ _ h => h) (Or.inl ⟨by rfl, ?_⟩) (by assumption) ?_
      rotate_left
      · (intro w hSw; (try dsimp only at hSw); go_simp; try with_reducible rfl)
      simp only [Act.put, List.getElem_toArray, List.getElem_cons_succ, List.getElem_cons_zero, List.setIfInBounds_toArray, List.set_cons_zero, List.set_cons_succ]
      refine wpAnyH_ready (rs := [5]) (by kernel_rfl) (by simp) ?_
      refine AllReadyH.cons (o := _) rfl (fun K hK => ?_) ?_
      · clear hHeld
        go_simp
        refine (unpack_slc _ Lp _ Hvp.out HPL.out).mono ?_
        rintro e W30 ⟨vn1, rfl, hvn, hB⟩
        replace HB := Lib.hid (HB.out.trans (hB.mono HB.out.size))
        replace HT := Lib.hid (fun j hj => keep_below hB _ _ (HT.out j hj))
        replace HU := Lib.hid (HU.out.grow hB)
        replace HA := Lib.hid (HA.out.below hB)
        replace HU2 := Lib.hid (HU2.out.grow hB)
        replace HA2 := Lib.hid (HA2.out.below hB)
        replace HV := Lib.hid (HV.out.below hB)
        replace HW := Lib.hid (HW.out.below hB)
        replace HZv := Lib.hid (HZv.out.grow hB)
        replace HAuzv := Lib.hid (HAuzv.out.below hB)
        replace HZw := Lib.hid (HZw.out.grow hB)
        replace HAuzw := Lib.hid (HAuzw.out.below hB)
        replace HUP := Lib.hid (HUP.out.grow hB)
        replace HPA := Lib.hid (HPA.out.below hB)
        replace HUQ := Lib.hid (HUQ.out.grow hB)
        replace HQA := Lib.hid (HQA.out.below hB)
        replace Hvp := Lib.hid (Hvp.out.keep (keep_below hB))
        replace Hp := Lib.hid (Hp.out.below hB)
        replace Hvq := Lib.hid (Hvq.out.keep (keep_below hB))
        replace Hq := Lib.hid (Hq.out.below hB)
        have HVN1 := Lib.hid hvn.any
        clear hvn
        clear hB
        refine hK.out _ _ ?_ (fun hHeld => ?_)
        · exact ⟨Hp.out.2.1, Hp.out.2.2.1, Hq.out.2.1, Hq.out.2.2.1⟩
        clear hK K
        refine wpAnyH_ready (rs := [7]) (by kernel_rfl) (by simp) ?_
        refine AllReadyH.cons (o := _) rfl (fun K hK => ?_) ?_
        · clear hHeld
          go_simp
          refine (unpack_slc _ Lp _ Hvq.out HPL.out).mono ?_
          rintro e W31 ⟨vn2, rfl, hvn, hB⟩
          replace HB := Lib.hid (HB.out.trans (hB.mono HB.out.size))
          replace HT := Lib.hid (fun j hj => keep_below hB _ _ (HT.out j hj))
          replace HU := Lib.hid (HU.out.grow hB)
          replace HA := Lib.hid (HA.out.below hB)
          replace HU2 := Lib.hid (HU2.out.grow hB)
          replace HA2 := Lib.hid (HA2.out.below hB)
          replace HV := Lib.hid (HV.out.below hB)
          replace HW := Lib.hid (HW.out.below hB)
          replace HZv := Lib.hid (HZv.out.grow hB)
          replace HAuzv := Lib.hid (HAuzv.out.below hB)
          replace HZw := Lib.hid (HZw.out.grow hB)
          replace HAuzw := Lib.hid (HAuzw.out.below hB)
          replace HUP := Lib.hid (HUP.out.grow hB)
          replace HPA := Lib.hid (HPA.out.below hB)
          replace HUQ := Lib.hid (HUQ.out.grow hB)
          replace HQA := Lib.hid (HQA.out.below hB)
          replace Hvp := Lib.hid (Hvp.out.keep (keep_below hB))
          replace Hp := Lib.hid (Hp.out.below hB)
          replace Hvq := Lib.hid (Hvq.out.keep (keep_below hB))
          replace Hq := Lib.hid (Hq.out.below hB)
          replace HVN1 := Lib.hid (HVN1.out.below hB)
          have HVN2 := Lib.hid hvn.any
          clear hvn
          clear hB
          refine hK.out _ _ ?_ (fun hHeld => ?_)
          · exact ⟨Hp.out.2.1, Hp.out.2.2.1, Hq.out.2.1, Hq.out.2.2.1⟩
          clear hK K
          refine wpAnyH_ready (rs := [8]) (by kernel_rfl) (by simp) ?_
          refine AllReadyH.cons (o := _) rfl (fun K hK => ?_) ?_
          · clear hHeld
            go_simp
            refine (bools_calls _ _ Lp Lp _ HVN1.out.1.sl HVN2.out.1.sl (by have := HPL.out; unfold maxLen; omega)).mono ?_
            rintro e W32 ⟨rfl, hB⟩
            replace HB := Lib.hid (HB.out.trans (hB.mono HB.out.size))
            replace HT := Lib.hid (fun j hj => keep_below hB _ _ (HT.out j hj))
            replace HU := Lib.hid (HU.out.grow hB)
            replace HA := Lib.hid (HA.out.below hB)
            replace HU2 := Lib.hid (HU2.out.grow hB)
            replace HA2 := Lib.hid (HA2.out.below hB)
            replace HV := Lib.hid (HV.out.below hB)
            replace HW := Lib.hid (HW.out.below hB)
            replace HZv := Lib.hid (HZv.out.grow hB)
            replace HAuzv := Lib.hid (HAuzv.out.below hB)
            replace HZw := Lib.hid (HZw.out.grow hB)
            replace HAuzw := Lib.hid (HAuzw.out.below hB)
            replace HUP := Lib.hid (HUP.out.grow hB)
            replace HPA := Lib.hid (HPA.out.below hB)
            replace HUQ := Lib.hid (HUQ.out.grow hB)
            replace HQA := Lib.hid (HQA.out.below hB)
            replace Hvp := Lib.hid (Hvp.out.keep (keep_below hB))
            replace Hp := Lib.hid (Hp.out.below hB)
            replace Hvq := Lib.hid (Hvq.out.keep (keep_below hB))
            replace Hq := Lib.hid (Hq.out.below hB)
            replace HVN1 := Lib.hid (HVN1.out.below hB)
            replace HVN2 := Lib.hid (HVN2.out.below hB)
            rw [beq_self_eq_true]
            clear hB
            refine hK.out _ _ ?_ (fun hHeld => ?_)
            · exact ⟨Hp.out.2.1, Hp.out.2.2.1, Hq.out.2.1, Hq.out.2.2.1⟩
            clear hK K
            refine wpAnyH_take (i := 9) (v := ?_) rfl (by kernel_rfl) (by kernel_rfl) (by kernel_rfl) (fun _ _ _ h => h) (Or.inl ⟨by rfl, ?_⟩) (by assumption) ?_
            rotate_left
            · (intro w hSw; (try dsimp only at hSw); go_simp; try with_reducible rfl)
            simp only [Act.put, List.getElem_toArray, List.getElem_cons_succ, List.getElem_cons_zero, List.setIfInBounds_toArray, List.set_cons_zero, List.set_cons_succ]
            refine wpAnyH_take (i := 10) (v := ?_) rfl (by kernel_rfl) (by kernel_rfl) (by kernel_rfl) (fun _ _ _ h => h) (Or.inl ⟨by rfl, ?_⟩) (by assumption) ?_
            rotate_left
            · (intro w hSw; (try dsimp only at hSw); go_simp; try with_reducible rfl)
            simp only [Act.put, List.getElem_toArray, List.getElem_cons_succ, List.getElem_cons_zero, List.setIfInBounds_toArray, List.set_cons_zero, List.set_cons_succ]
            refine wpAnyH_ready (rs := [11]) (by kernel_rfl) (by simp) ?_
            refine AllReadyH.cons (o := _) rfl (fun K hK => ?_) ?_
            · clear hHeld
              go_simp
              refine (awake11_calls _ HT.out).mono ?_
              rintro e W33 ⟨rfl, hB⟩
              replace HB := Lib.hid (HB.out.trans (hB.mono HB.out.size))
              replace HT := Lib.hid (fun j hj => keep_below hB _ _ (HT.out j hj))
              replace HU := Lib.hid (HU.out.grow hB)
              replace HA := Lib.hid (HA.out.below hB)
              replace HU2 := Lib.hid (HU2.out.grow hB)
              replace HA2 := Lib.hid (HA2.out.below hB)
              replace HV := Lib.hid (HV.out.below hB)
              replace HW := Lib.hid (HW.out.below hB)
              replace HZv := Lib.hid (HZv.out.grow hB)
              replace HAuzv := Lib.hid (HAuzv.out.below hB)
              replace HZw := Lib.hid (HZw.out.grow hB)
              replace HAuzw := Lib.hid (HAuzw.out.below hB)
              replace HUP := Lib.hid (HUP.out.grow hB)
              replace HPA := Lib.hid (HPA.out.below hB)
              replace HUQ := Lib.hid (HUQ.out.grow hB)
              replace HQA := Lib.hid (HQA.out.below hB)
              replace Hvp := Lib.hid (Hvp.out.keep (keep_below hB))
              replace Hp := Lib.hid (Hp.out.below hB)
              replace Hvq := Lib.hid (Hvq.out.keep (keep_below hB))
              replace Hq := Lib.hid (Hq.out.below hB)
              replace HVN1 := Lib.hid (HVN1.out.below hB)
              replace HVN2 := Lib.hid (HVN2.out.below hB)
              clear hB
              refine hK.out _ _ ?_ (fun hHeld => ?_)
              · exact ⟨Hp.out.2.1, Hp.out.2.2.1, Hq.out.2.1, Hq.out.2.2.1⟩
              clear hK K
              refine wpAnyH_take (i := 12) (v := ?_) rfl (by kernel_rfl) (by kernel_rfl) (by kernel_rfl) (fun _ _ _ h => h) (Or.inl ⟨by rfl, ?_⟩) (by assumption) ?_
              rotate_left
              · (intro w hSw; (try dsimp only at hSw); go_simp; try with_reducible rfl)
              simp only [Act.put, List.getElem_toArray, List.getElem_cons_succ, List.getElem_cons_zero, List.setIfInBounds_toArray, List.set_cons_zero, List.set_cons_succ]
              refine wpAnyH_take (i := 13) (v := ?_) rfl (by kernel_rfl) (by kernel_rfl) (by kernel_rfl) (fun _ _ _ h => h) (Or.inl ⟨by rfl, ?_⟩) (by assumption) ?_
              rotate_left
              · (intro w hSw; (try dsimp only at hSw); go_simp; try with_reducible rfl)
              simp only [Act.put, List.getElem_toArray, List.getElem_cons_succ, List.getElem_cons_zero, List.setIfInBounds_toArray, List.set_cons_zero, List.set_cons_succ]
              refine wpAnyH_done (by kernel_rfl) ?_ _
              clear hHeld
              go_wp2
              go_ret
              exact ⟨rfl, HB.out⟩
            exact AllReadyH.nil
          exact AllReadyH.nil
        exact AllReadyH.nil
      exact AllReadyH.nil
    · have hft2 : B.fit k = false := by simpa using hft
      rw [hft2]
      clear hft hft2
      have cHA0 := HA.out.2.1
      have cHA20 := HA2.out.2.1
      have cHV0 := HV.out.2.1
      have cHW0 := HW.out.2.1
      have cHAuzv0 := HAuzv.out.2.1
      have cHAuzw0 := HAuzw.out.2.1
      go_wp2_with fail
      clear hWn
      have HKw := Lib.hid HHB.out
      have HPL := Lib.hid (reV_len (f := f) (VV.ok_len HHA.out.1) (VV.ok_len HHB.out.1))
      obtain ⟨E, hE⟩ : ∃ E, reE f A B = E := ⟨_, rfl⟩
      obtain ⟨RV, hRV⟩ : ∃ RV, reV f A B = RV := ⟨_, rfl⟩
      have HE := Lib.hid hE
      have HRV := Lib.hid hRV
      have HS := Lib.hid (show reE f (A.into j) B = E ∧ reV f (A.into j) B = RV by rw [← hE, ← hRV]; exact holds_same HHA.out HHB.out HKv.out HKw.out)
      rw [hRV] at HPL
      have hee : (E == E) = true := by simp
      obtain ⟨Lp, hLp⟩ : ∃ Lp, RV.packed = Lp := ⟨_, rfl⟩
      have HLp := Lib.hid hLp
      rw [hLp] at HPL
      clear hE hRV hLp
      refine (reapply_calls f _ _ A B _ HU.out HU2.out HHA.out.1 HHB.out.1 HHA.out.2.1 HHB.out.2.1 HT.out).mono ?_
      rintro e W20 ⟨up, rfl, hup, hB⟩
      clear cHA0 cHA20 cHV0 cHW0 cHAuzv0 cHAuzw0
      replace HB := Lib.hid (HB.out.trans (hB.mono HB.out.size))
      replace HT := Lib.hid (fun j hj => keep_below hB _ _ (HT.out j hj))
      replace HU := Lib.hid (HU.out.grow hB)
      replace HA := Lib.hid (HA.out.below hB)
      replace HU2 := Lib.hid (HU2.out.grow hB)
      replace HA2 := Lib.hid (HA2.out.below hB)
      replace HV := Lib.hid (HV.out.below hB)
      replace HW := Lib.hid (HW.out.below hB)
      replace HZv := Lib.hid (HZv.out.grow hB)
      replace HAuzv := Lib.hid (HAuzv.out.below hB)
      replace HZw := Lib.hid (HZw.out.grow hB)
      replace HAuzw := Lib.hid (HAuzw.out.below hB)
      rw [HE.out]
      rw [HRV.out] at hup
      have HUP := Lib.hid (IsV.any hup)
      have hsup := hup.store
      clear hup
      clear hB
      obtain ⟨W21, hWn⟩ : ∃ xw9, W20.alloc (.cells #[up] 34) = xw9 := ⟨_, rfl⟩
      have hB : Below W20.heap.size W20 W21 := by rw [← hWn]; exact below_new _ _
      have hNB : At1 W21 W20.heap.size (up) := by rw [← hWn]; exact At1.new _ _ _
      replace HB := Lib.hid (HB.out.trans (hB.mono HB.out.size))
      replace HT := Lib.hid (fun j hj => keep_below hB _ _ (HT.out j hj))
      replace HU := Lib.hid (HU.out.grow hB)
      replace HA := Lib.hid (HA.out.below hB)
      replace HU2 := Lib.hid (HU2.out.grow hB)
      replace HA2 := Lib.hid (HA2.out.below hB)
      replace HV := Lib.hid (HV.out.below hB)
      replace HW := Lib.hid (HW.out.below hB)
      replace HZv := Lib.hid (HZv.out.grow hB)
      replace HAuzv := Lib.hid (HAuzv.out.below hB)
      replace HZw := Lib.hid (HZw.out.grow hB)
      replace HAuzw := Lib.hid (HAuzw.out.below hB)
      replace HUP := Lib.hid (HUP.out.grow hB)
      have HPA := Lib.hid hNB
      clear hNB hB
      have cHA0 := HA.out.2.1
      have cHA20 := HA2.out.2.1
      have cHV0 := HV.out.2.1
      have cHW0 := HW.out.2.1
      have cHAuzv0 := HAuzv.out.2.1
      have cHAuzw0 := HAuzw.out.2.1
      have cHPA0 := HPA.out.2.1
      go_wp2_with fail
      clear hWn
      refine (reapply_calls f _ _ (A.into j) B _ HZv.out HU2.out HKv.out.1 HKw.out.1 HKv.out.2.1 HKw.out.2.1 HT.out).mono ?_
      rintro e W22 ⟨uq, rfl, huq, hB⟩
      clear cHA0 cHA20 cHV0 cHW0 cHAuzv0 cHAuzw0 cHPA0
      replace HB := Lib.hid (HB.out.trans (hB.mono HB.out.size))
      replace HT := Lib.hid (fun j hj => keep_below hB _ _ (HT.out j hj))
      replace HU := Lib.hid (HU.out.grow hB)
      replace HA := Lib.hid (HA.out.below hB)
      replace HU2 := Lib.hid (HU2.out.grow hB)
      replace HA2 := Lib.hid (HA2.out.below hB)
      replace HV := Lib.hid (HV.out.below hB)
      replace HW := Lib.hid (HW.out.below hB)
      replace HZv := Lib.hid (HZv.out.grow hB)
      replace HAuzv := Lib.hid (HAuzv.out.below hB)
      replace HZw := Lib.hid (HZw.out.grow hB)
      replace HAuzw := Lib.hid (HAuzw.out.below hB)
      replace HUP := Lib.hid (HUP.out.grow hB)
      replace HPA := Lib.hid (HPA.out.below hB)
      rw [HS.out.1]
      rw [HS.out.2] at huq
      have HUQ := Lib.hid (IsV.any huq)
      have hsuq := huq.store
      clear huq
      clear hB
      obtain ⟨W23, hWn⟩ : ∃ xw9, W22.alloc (.cells #[uq] 34) = xw9 := ⟨_, rfl⟩
      have hB : Below W22.heap.size W22 W23 := by rw [← hWn]; exact below_new _ _
      have hNB : At1 W23 W22.heap.size (uq) := by rw [← hWn]; exact At1.new _ _ _
      replace HB := Lib.hid (HB.out.trans (hB.mono HB.out.size))
      replace HT := Lib.hid (fun j hj => keep_below hB _ _ (HT.out j hj))
      replace HU := Lib.hid (HU.out.grow hB)
      replace HA := Lib.hid (HA.out.below hB)
      replace HU2 := Lib.hid (HU2.out.grow hB)
      replace HA2 := Lib.hid (HA2.out.below hB)
      replace HV := Lib.hid (HV.out.below hB)
      replace HW := Lib.hid (HW.out.below hB)
      replace HZv := Lib.hid (HZv.out.grow hB)
      replace HAuzv := Lib.hid (HAuzv.out.below hB)
      replace HZw := Lib.hid (HZw.out.grow hB)
      replace HAuzw := Lib.hid (HAuzw.out.below hB)
      replace HUP := Lib.hid (HUP.out.grow hB)
      replace HPA := Lib.hid (HPA.out.below hB)
      replace HUQ := Lib.hid (HUQ.out.grow hB)
      have HQA := Lib.hid hNB
      clear hNB hB
      have cHA0 := HA.out.2.1
      have cHA20 := HA2.out.2.1
      have cHV0 := HV.out.2.1
      have cHW0 := HW.out.2.1
      have cHAuzv0 := HAuzv.out.2.1
      have cHAuzw0 := HAuzw.out.2.1
      have cHPA0 := HPA.out.2.1
      have cHQA0 := HQA.out.2.1
      go_wp2_with fail
      clear hWn
      refine (vpacked_calls _ RV _ HUP.out).mono ?_
      rintro e W24 ⟨vp, rfl, hvp, hB⟩
      clear cHA0 cHA20 cHV0 cHW0 cHAuzv0 cHAuzw0 cHPA0 cHQA0
      replace HB := Lib.hid (HB.out.trans (hB.mono HB.out.size))
      replace HT := Lib.hid (fun j hj => keep_below hB _ _ (HT.out j hj))
      replace HU := Lib.hid (HU.out.grow hB)
      replace HA := Lib.hid (HA.out.below hB)
      replace HU2 := Lib.hid (HU2.out.grow hB)
      replace HA2 := Lib.hid (HA2.out.below hB)
      replace HV := Lib.hid (HV.out.below hB)
      replace HW := Lib.hid (HW.out.below hB)
      replace HZv := Lib.hid (HZv.out.grow hB)
      replace HAuzv := Lib.hid (HAuzv.out.below hB)
      replace HZw := Lib.hid (HZw.out.grow hB)
      replace HAuzw := Lib.hid (HAuzw.out.below hB)
      replace HUP := Lib.hid (HUP.out.grow hB)
      replace HPA := Lib.hid (HPA.out.below hB)
      replace HUQ := Lib.hid (HUQ.out.grow hB)
      replace HQA := Lib.hid (HQA.out.below hB)
      rw [HLp.out] at hvp
      have Hvp := Lib.hid hvp
      obtain ⟨ap, cp, rfl, hcp⟩ := hvp.opened
      clear hvp hcp
      clear hB
      obtain ⟨W25, hWn⟩ : ∃ xw9, W24.alloc (.cells #[.int .i64 Lp.length, .slice ap ((Lp.length + 63) / 64) cp] 42) = xw9 := ⟨_, rfl⟩
      have hB : Below W24.heap.size W24 W25 := by rw [← hWn]; exact below_new _ _
      have hNB : At2 W25 W24.heap.size (.int .i64 Lp.length) (.slice ap ((Lp.length + 63) / 64) cp) := by rw [← hWn]; exact At2.new _ _ _ _
      replace HB := Lib.hid (HB.out.trans (hB.mono HB.out.size))
      replace HT := Lib.hid (fun j hj => keep_below hB _ _ (HT.out j hj))
      replace HU := Lib.hid (HU.out.grow hB)
      replace HA := Lib.hid (HA.out.below hB)
      replace HU2 := Lib.hid (HU2.out.grow hB)
      replace HA2 := Lib.hid (HA2.out.below hB)
      replace HV := Lib.hid (HV.out.below hB)
      replace HW := Lib.hid (HW.out.below hB)
      replace HZv := Lib.hid (HZv.out.grow hB)
      replace HAuzv := Lib.hid (HAuzv.out.below hB)
      replace HZw := Lib.hid (HZw.out.grow hB)
      replace HAuzw := Lib.hid (HAuzw.out.below hB)
      replace HUP := Lib.hid (HUP.out.grow hB)
      replace HPA := Lib.hid (HPA.out.below hB)
      replace HUQ := Lib.hid (HUQ.out.grow hB)
      replace HQA := Lib.hid (HQA.out.below hB)
      replace Hvp := Lib.hid (Hvp.out.keep (keep_below hB))
      have Hp := Lib.hid hNB
      clear hNB hB
      have cHA0 := HA.out.2.1
      have cHA20 := HA2.out.2.1
      have cHV0 := HV.out.2.1
      have cHW0 := HW.out.2.1
      have cHAuzv0 := HAuzv.out.2.1
      have cHAuzw0 := HAuzw.out.2.1
      have cHPA0 := HPA.out.2.1
      have cHQA0 := HQA.out.2.1
      have cHp0 := Hp.out.2.1
      have cHp1 := Hp.out.2.2.1
      go_wp2_with fail
      clear hWn
      refine (vpacked_calls _ RV _ HUQ.out).mono ?_
      rintro e W26 ⟨vq, rfl, hvq, hB⟩
      clear cHA0 cHA20 cHV0 cHW0 cHAuzv0 cHAuzw0 cHPA0 cHQA0 cHp0 cHp1
      replace HB := Lib.hid (HB.out.trans (hB.mono HB.out.size))
      replace HT := Lib.hid (fun j hj => keep_below hB _ _ (HT.out j hj))
      replace HU := Lib.hid (HU.out.grow hB)
      replace HA := Lib.hid (HA.out.below hB)
      replace HU2 := Lib.hid (HU2.out.grow hB)
      replace HA2 := Lib.hid (HA2.out.below hB)
      replace HV := Lib.hid (HV.out.below hB)
      replace HW := Lib.hid (HW.out.below hB)
      replace HZv := Lib.hid (HZv.out.grow hB)
      replace HAuzv := Lib.hid (HAuzv.out.below hB)
      replace HZw := Lib.hid (HZw.out.grow hB)
      replace HAuzw := Lib.hid (HAuzw.out.below hB)
      replace HUP := Lib.hid (HUP.out.grow hB)
      replace HPA := Lib.hid (HPA.out.below hB)
      replace HUQ := Lib.hid (HUQ.out.grow hB)
      replace HQA := Lib.hid (HQA.out.below hB)
      replace Hvp := Lib.hid (Hvp.out.keep (keep_below hB))
      replace Hp := Lib.hid (Hp.out.below hB)
      rw [HLp.out] at hvq
      have Hvq := Lib.hid hvq
      obtain ⟨aq, cq, rfl, hcq⟩ := hvq.opened
      clear hvq hcq
      clear hB
      obtain ⟨W27, hWn⟩ : ∃ xw9, W26.alloc (.cells #[.int .i64 Lp.length, .slice aq ((Lp.length + 63) / 64) cq] 42) = xw9 := ⟨_, rfl⟩
      have hB : Below W26.heap.size W26 W27 := by rw [← hWn]; exact below_new _ _
      have hNB : At2 W27 W26.heap.size (.int .i64 Lp.length) (.slice aq ((Lp.length + 63) / 64) cq) := by rw [← hWn]; exact At2.new _ _ _ _
      replace HB := Lib.hid (HB.out.trans (hB.mono HB.out.size))
      replace HT := Lib.hid (fun j hj => keep_below hB _ _ (HT.out j hj))
      replace HU := Lib.hid (HU.out.grow hB)
      replace HA := Lib.hid (HA.out.below hB)
      replace HU2 := Lib.hid (HU2.out.grow hB)
      replace HA2 := Lib.hid (HA2.out.below hB)
      replace HV := Lib.hid (HV.out.below hB)
      replace HW := Lib.hid (HW.out.below hB)
      replace HZv := Lib.hid (HZv.out.grow hB)
      replace HAuzv := Lib.hid (HAuzv.out.below hB)
      replace HZw := Lib.hid (HZw.out.grow hB)
      replace HAuzw := Lib.hid (HAuzw.out.below hB)
      replace HUP := Lib.hid (HUP.out.grow hB)
      replace HPA := Lib.hid (HPA.out.below hB)
      replace HUQ := Lib.hid (HUQ.out.grow hB)
      replace HQA := Lib.hid (HQA.out.below hB)
      replace Hvp := Lib.hid (Hvp.out.keep (keep_below hB))
      replace Hp := Lib.hid (Hp.out.below hB)
      replace Hvq := Lib.hid (Hvq.out.keep (keep_below hB))
      have Hq := Lib.hid hNB
      clear hNB hB
      have cHA0 := HA.out.2.1
      have cHA20 := HA2.out.2.1
      have cHV0 := HV.out.2.1
      have cHW0 := HW.out.2.1
      have cHAuzv0 := HAuzv.out.2.1
      have cHAuzw0 := HAuzw.out.2.1
      have cHPA0 := HPA.out.2.1
      have cHQA0 := HQA.out.2.1
      have cHp0 := Hp.out.2.1
      have cHp1 := Hp.out.2.2.1
      have cHq0 := Hq.out.2.1
      have cHq1 := Hq.out.2.2.1
      go_wp2_with fail
      clear hWn
      clear cHA0 cHA20 cHV0 cHW0 cHAuzv0 cHAuzw0 cHPA0 cHQA0 cHp0 cHp1 cHq0 cHq1
      obtain ⟨W28, hWD⟩ : ∃ xw9, W27.drew = xw9 := ⟨_, rfl⟩
      have hB : Below W27.heap.size W27 W28 := by rw [← hWD]; exact Below.drewN' (Below.refl _ _) 1
      replace HB := Lib.hid (HB.out.trans (hB.mono HB.out.size))
      replace HT := Lib.hid (fun j hj => keep_below hB _ _ (HT.out j hj))
      replace HU := Lib.hid (HU.out.grow hB)
      replace HA := Lib.hid (HA.out.below hB)
      replace HU2 := Lib.hid (HU2.out.grow hB)
      replace HA2 := Lib.hid (HA2.out.below hB)
      replace HV := Lib.hid (HV.out.below hB)
      replace HW := Lib.hid (HW.out.below hB)
      replace HZv := Lib.hid (HZv.out.grow hB)
      replace HAuzv := Lib.hid (HAuzv.out.below hB)
      replace HZw := Lib.hid (HZw.out.grow hB)
      replace HAuzw := Lib.hid (HAuzw.out.below hB)
      replace HUP := Lib.hid (HUP.out.grow hB)
      replace HPA := Lib.hid (HPA.out.below hB)
      replace HUQ := Lib.hid (HUQ.out.grow hB)
      replace HQA := Lib.hid (HQA.out.below hB)
      replace Hvp := Lib.hid (Hvp.out.keep (keep_below hB))
      replace Hp := Lib.hid (Hp.out.below hB)
      replace Hvq := Lib.hid (Hvq.out.keep (keep_below hB))
      replace Hq := Lib.hid (Hq.out.below hB)
      clear hB
      refine wp_region_held_drew (S := fun w' => w'.cell? ⟨W24.heap.size, 0, none⟩ = some (.int .i64 Lp.length) ∧ w'.cell? ⟨W24.heap.size, 1, none⟩ = some (.slice ap ((Lp.length + 63) / 64) cp) ∧ w'.cell? ⟨W26.heap.size, 0, none⟩ = some (.int .i64 Lp.length) ∧ w'.cell? ⟨W26.heap.size, 1, none⟩ = some (.slice aq ((Lp.length + 63) / 64) cq)) (by kernel_rfl) (by rw [hWD]; exact ⟨Hp.out.2.1, Hp.out.2.2.1, Hq.out.2.1, Hq.out.2.2.1⟩) (fun hHeld => ?_)
      rw [hWD] at hHeld ⊢
      clear hWD
      refine wpAnyH_take (i := 0) (v := ?_) rfl (by kernel_rfl) (by kernel_rfl) (by kernel_rfl) (fun _ _ _ h => h) (Or.inl ⟨by rfl, ?_⟩) (by assumption) ?_
      rotate_left
      · (intro w hSw; (try dsimp only at hSw); go_simp; try with_reducible rfl)
      simp only [Act.put, List.getElem_toArray, List.getElem_cons_zero, List.setIfInBounds_toArray, List.set_cons_zero, List.set_cons_succ]
      refine wpAnyH_take (i := 1) (v := ?_) rfl (by kernel_rfl) (by kernel_rfl) (by kernel_rfl) (fun _ _ _ h => h) (Or.inl ⟨by rfl, ?_⟩) (by assumption) ?_
      rotate_left
      · (intro w hSw; (try dsimp only at hSw); go_simp; try with_reducible rfl)
      simp only [Act.put, List.getElem_toArray, List.getElem_cons_succ, List.getElem_cons_zero, List.setIfInBounds_toArray, List.set_cons_zero, List.set_cons_succ]
      refine wpAnyH_take (i := 2) (v := ?_) rfl (by kernel_rfl) (by kernel_rfl) (by kernel_rfl) (fun _ _ _ h => h) (Or.inl ⟨by rfl, ?_⟩) (by assumption) ?_
      rotate_left
      · (intro w hSw; (try dsimp only at hSw); go_simp; try with_reducible rfl)
      simp only [Act.put, List.getElem_toArray, List.getElem_cons_succ, List.getElem_cons_zero, List.setIfInBounds_toArray, List.set_cons_zero, List.set_cons_succ]
      refine wpAnyH_take (i := 3) (v := ?_) rfl (by kernel_rfl) (by kernel_rfl) (by kernel_rfl) (fun _ _ _ h => h) (Or.inl ⟨by rfl, ?_⟩) (by assumption) ?_
      rotate_left
      · (intro w hSw; (try dsimp only at hSw); go_simp; try with_reducible rfl)
      simp only [Act.put, List.getElem_toArray, List.getElem_cons_succ, List.getElem_cons_zero, List.setIfInBounds_toArray, List.set_cons_zero, List.set_cons_succ]
      refine wpAnyH_take (i := 4) (v := ?_) rfl (by kernel_rfl) (by kernel_rfl) (by kernel_rfl) (fun _ _ _ h => h) (Or.inl ⟨by rfl, ?_⟩) (by assumption) ?_
      rotate_left
      · (intro w hSw; (try dsimp only at hSw); go_simp; try with_reducible rfl)
      simp only [Act.put, List.getElem_toArray, List.getElem_cons_succ, List.getElem_cons_zero, List.setIfInBounds_toArray, List.set_cons_zero, List.set_cons_succ]
      refine wpAnyH_take (i := 6) (v := ?_) rfl (by kernel_rfl) (by kernel_rfl) (by kernel_rfl) (fun _ _ _ h => h) (Or.inl ⟨by rfl, ?_⟩) (by assumption) ?_
      rotate_left
      · (intro w hSw; (try dsimp only at hSw); go_simp; try with_reducible rfl)
      simp only [Act.put, List.getElem_toArray, List.getElem_cons_succ, List.getElem_cons_zero, List.setIfInBounds_toArray, List.set_cons_zero, List.set_cons_succ]
      refine wpAnyH_ready (rs := [5]) (by kernel_rfl) (by simp) ?_
      refine AllReadyH.cons (o := _) rfl (fun K hK => ?_) ?_
      · clear hHeld
        go_simp
        refine (unpack_slc _ Lp _ Hvp.out HPL.out).mono ?_
        rintro e W29 ⟨vn1, rfl, hvn, hB⟩
        replace HB := Lib.hid (HB.out.trans (hB.mono HB.out.size))
        replace HT := Lib.hid (fun j hj => keep_below hB _ _ (HT.out j hj))
        replace HU := Lib.hid (HU.out.grow hB)
        replace HA := Lib.hid (HA.out.below hB)
        replace HU2 := Lib.hid (HU2.out.grow hB)
        replace HA2 := Lib.hid (HA2.out.below hB)
        replace HV := Lib.hid (HV.out.below hB)
        replace HW := Lib.hid (HW.out.below hB)
        replace HZv := Lib.hid (HZv.out.grow hB)
        replace HAuzv := Lib.hid (HAuzv.out.below hB)
        replace HZw := Lib.hid (HZw.out.grow hB)
        replace HAuzw := Lib.hid (HAuzw.out.below hB)
        replace HUP := Lib.hid (HUP.out.grow hB)
        replace HPA := Lib.hid (HPA.out.below hB)
        replace HUQ := Lib.hid (HUQ.out.grow hB)
        replace HQA := Lib.hid (HQA.out.below hB)
        replace Hvp := Lib.hid (Hvp.out.keep (keep_below hB))
        replace Hp := Lib.hid (Hp.out.below hB)
        replace Hvq := Lib.hid (Hvq.out.keep (keep_below hB))
        replace Hq := Lib.hid (Hq.out.below hB)
        have HVN1 := Lib.hid hvn.any
        clear hvn
        clear hB
        refine hK.out _ _ ?_ (fun hHeld => ?_)
        · exact ⟨Hp.out.2.1, Hp.out.2.2.1, Hq.out.2.1, Hq.out.2.2.1⟩
        clear hK K
        refine wpAnyH_ready (rs := [7]) (by kernel_rfl) (by simp) ?_
        refine AllReadyH.cons (o := _) rfl (fun K hK => ?_) ?_
        · clear hHeld
          go_simp
          refine (unpack_slc _ Lp _ Hvq.out HPL.out).mono ?_
          rintro e W30 ⟨vn2, rfl, hvn, hB⟩
          replace HB := Lib.hid (HB.out.trans (hB.mono HB.out.size))
          replace HT := Lib.hid (fun j hj => keep_below hB _ _ (HT.out j hj))
          replace HU := Lib.hid (HU.out.grow hB)
          replace HA := Lib.hid (HA.out.below hB)
          replace HU2 := Lib.hid (HU2.out.grow hB)
          replace HA2 := Lib.hid (HA2.out.below hB)
          replace HV := Lib.hid (HV.out.below hB)
          replace HW := Lib.hid (HW.out.below hB)
          replace HZv := Lib.hid (HZv.out.grow hB)
          replace HAuzv := Lib.hid (HAuzv.out.below hB)
          replace HZw := Lib.hid (HZw.out.grow hB)
          replace HAuzw := Lib.hid (HAuzw.out.below hB)
          replace HUP := Lib.hid (HUP.out.grow hB)
          replace HPA := Lib.hid (HPA.out.below hB)
          replace HUQ := Lib.hid (HUQ.out.grow hB)
          replace HQA := Lib.hid (HQA.out.below hB)
          replace Hvp := Lib.hid (Hvp.out.keep (keep_below hB))
          replace Hp := Lib.hid (Hp.out.below hB)
          replace Hvq := Lib.hid (Hvq.out.keep (keep_below hB))
          replace Hq := Lib.hid (Hq.out.below hB)
          replace HVN1 := Lib.hid (HVN1.out.below hB)
          have HVN2 := Lib.hid hvn.any
          clear hvn
          clear hB
          refine hK.out _ _ ?_ (fun hHeld => ?_)
          · exact ⟨Hp.out.2.1, Hp.out.2.2.1, Hq.out.2.1, Hq.out.2.2.1⟩
          clear hK K
          refine wpAnyH_ready (rs := [8]) (by kernel_rfl) (by simp) ?_
          refine AllReadyH.cons (o := _) rfl (fun K hK => ?_) ?_
          · clear hHeld
            go_simp
            refine (bools_calls _ _ Lp Lp _ HVN1.out.1.sl HVN2.out.1.sl (by have := HPL.out; unfold maxLen; omega)).mono ?_
            rintro e W31 ⟨rfl, hB⟩
            replace HB := Lib.hid (HB.out.trans (hB.mono HB.out.size))
            replace HT := Lib.hid (fun j hj => keep_below hB _ _ (HT.out j hj))
            replace HU := Lib.hid (HU.out.grow hB)
            replace HA := Lib.hid (HA.out.below hB)
            replace HU2 := Lib.hid (HU2.out.grow hB)
            replace HA2 := Lib.hid (HA2.out.below hB)
            replace HV := Lib.hid (HV.out.below hB)
            replace HW := Lib.hid (HW.out.below hB)
            replace HZv := Lib.hid (HZv.out.grow hB)
            replace HAuzv := Lib.hid (HAuzv.out.below hB)
            replace HZw := Lib.hid (HZw.out.grow hB)
            replace HAuzw := Lib.hid (HAuzw.out.below hB)
            replace HUP := Lib.hid (HUP.out.grow hB)
            replace HPA := Lib.hid (HPA.out.below hB)
            replace HUQ := Lib.hid (HUQ.out.grow hB)
            replace HQA := Lib.hid (HQA.out.below hB)
            replace Hvp := Lib.hid (Hvp.out.keep (keep_below hB))
            replace Hp := Lib.hid (Hp.out.below hB)
            replace Hvq := Lib.hid (Hvq.out.keep (keep_below hB))
            replace Hq := Lib.hid (Hq.out.below hB)
            replace HVN1 := Lib.hid (HVN1.out.below hB)
            replace HVN2 := Lib.hid (HVN2.out.below hB)
            rw [beq_self_eq_true]
            clear hB
            refine hK.out _ _ ?_ (fun hHeld => ?_)
            · exact ⟨Hp.out.2.1, Hp.out.2.2.1, Hq.out.2.1, Hq.out.2.2.1⟩
            clear hK K
            refine wpAnyH_take (i := 9) (v := ?_) rfl (by kernel_rfl) (by kernel_rfl) (by kernel_rfl) (fun _ _ _ h => h) (Or.inl ⟨by rfl, ?_⟩) (by assumption) ?_
            rotate_left
            · (intro w hSw; (try dsimp only at hSw); go_simp; try with_reducible rfl)
            simp only [Act.put, List.getElem_toArray, List.getElem_cons_succ, List.getElem_cons_zero, List.setIfInBounds_toArray, List.set_cons_zero, List.set_cons_succ]
            refine wpAnyH_take (i := 10) (v := ?_) rfl (by kernel_rfl) (by kernel_rfl) (by kernel_rfl) (fun _ _ _ h => h) (Or.inl ⟨by rfl, ?_⟩) (by assumption) ?_
            rotate_left
            · (intro w hSw; (try dsimp only at hSw); go_simp; try with_reducible rfl)
            simp only [Act.put, List.getElem_toArray, List.getElem_cons_succ, List.getElem_cons_zero, List.setIfInBounds_toArray, List.set_cons_zero, List.set_cons_succ]
            refine wpAnyH_ready (rs := [11]) (by kernel_rfl) (by simp) ?_
            refine AllReadyH.cons (o := _) rfl (fun K hK => ?_) ?_
            · clear hHeld
              go_simp
              refine (awake11_calls _ HT.out).mono ?_
              rintro e W32 ⟨rfl, hB⟩
              replace HB := Lib.hid (HB.out.trans (hB.mono HB.out.size))
              replace HT := Lib.hid (fun j hj => keep_below hB _ _ (HT.out j hj))
              replace HU := Lib.hid (HU.out.grow hB)
              replace HA := Lib.hid (HA.out.below hB)
              replace HU2 := Lib.hid (HU2.out.grow hB)
              replace HA2 := Lib.hid (HA2.out.below hB)
              replace HV := Lib.hid (HV.out.below hB)
              replace HW := Lib.hid (HW.out.below hB)
              replace HZv := Lib.hid (HZv.out.grow hB)
              replace HAuzv := Lib.hid (HAuzv.out.below hB)
              replace HZw := Lib.hid (HZw.out.grow hB)
              replace HAuzw := Lib.hid (HAuzw.out.below hB)
              replace HUP := Lib.hid (HUP.out.grow hB)
              replace HPA := Lib.hid (HPA.out.below hB)
              replace HUQ := Lib.hid (HUQ.out.grow hB)
              replace HQA := Lib.hid (HQA.out.below hB)
              replace Hvp := Lib.hid (Hvp.out.keep (keep_below hB))
              replace Hp := Lib.hid (Hp.out.below hB)
              replace Hvq := Lib.hid (Hvq.out.keep (keep_below hB))
              replace Hq := Lib.hid (Hq.out.below hB)
              replace HVN1 := Lib.hid (HVN1.out.below hB)
              replace HVN2 := Lib.hid (HVN2.out.below hB)
              clear hB
              refine hK.out _ _ ?_ (fun hHeld => ?_)
              · exact ⟨Hp.out.2.1, Hp.out.2.2.1, Hq.out.2.1, Hq.out.2.2.1⟩
              clear hK K
              refine wpAnyH_take (i := 12) (v := ?_) rfl (by kernel_rfl) (by kernel_rfl) (by kernel_rfl) (fun _ _ _ h => h) (Or.inl ⟨by rfl, ?_⟩) (by assumption) ?_
              rotate_left
              · (intro w hSw; (try dsimp only at hSw); go_simp; try with_reducible rfl)
              simp only [Act.put, List.getElem_toArray, List.getElem_cons_succ, List.getElem_cons_zero, List.setIfInBounds_toArray, List.set_cons_zero, List.set_cons_succ]
              refine wpAnyH_take (i := 13) (v := ?_) rfl (by kernel_rfl) (by kernel_rfl) (by kernel_rfl) (fun _ _ _ h => h) (Or.inl ⟨by rfl, ?_⟩) (by assumption) ?_
              rotate_left
              · (intro w hSw; (try dsimp only at hSw); go_simp; try with_reducible rfl)
              simp only [Act.put, List.getElem_toArray, List.getElem_cons_succ, List.getElem_cons_zero, List.setIfInBounds_toArray, List.set_cons_zero, List.set_cons_succ]
              refine wpAnyH_done (by kernel_rfl) ?_ _
              clear hHeld
              go_wp2
              go_ret
              exact ⟨rfl, HB.out⟩
            exact AllReadyH.nil
          exact AllReadyH.nil
        exact AllReadyH.nil
      exact AllReadyH.nil
  · have hft2 : A.fit j = false := by simpa using hft
    rw [hft2]
    clear hft hft2
    have cHA0 := HA.out.2.1
    have cHA20 := HA2.out.2.1
    have cHV0 := HV.out.2.1
    have cHW0 := HW.out.2.1
    have cHAuzv0 := HAuzv.out.2.1
    go_wp2_with fail
    clear hWn
    have HKv := Lib.hid HHA.out
    have hv1 := HV.out.1
    have hw1 := HW.out.1
    refine (sinto_calls _ B k _ HU2.out HHB.out.1 HHB.out.2.1 HT.out).mono ?_
    rintro e W17 ⟨uzw, rfl, hz, hB⟩
    clear cHA0 cHA20 cHV0 cHW0 cHAuzv0
    replace HB := Lib.hid (HB.out.trans (hB.mono HB.out.size))
    replace HT := Lib.hid (fun j hj => keep_below hB _ _ (HT.out j hj))
    replace HU := Lib.hid (HU.out.grow hB)
    replace HA := Lib.hid (HA.out.below hB)
    replace HU2 := Lib.hid (HU2.out.grow hB)
    replace HA2 := Lib.hid (HA2.out.below hB)
    replace HV := Lib.hid (HV.out.below hB)
    replace HW := Lib.hid (HW.out.below hB)
    replace HZv := Lib.hid (HZv.out.grow hB)
    replace HAuzv := Lib.hid (HAuzv.out.below hB)
    have HZw := Lib.hid (show IsV W17 (fun b => b ≠ vb ∧ b ≠ wb) uzw (B.into k) from hz.wide (fun b _ h => by
      rcases h with h | h
      · exact h
      · have h : W16.heap.size ≤ b := h
        omega))
    have hsuzw := hz.store
    clear hz hv1 hw1
    clear hB
    have hzl := HV.out.1
    have hzm := HW.out.1
    obtain ⟨W18, hWn⟩ : ∃ xw9, W17.alloc (.cells #[uzw] 34) = xw9 := ⟨_, rfl⟩
    have hB : Below W17.heap.size W17 W18 := by rw [← hWn]; exact below_new _ _
    have hNB : At1 W18 W17.heap.size (uzw) := by rw [← hWn]; exact At1.new _ _ _
    replace HB := Lib.hid (HB.out.trans (hB.mono HB.out.size))
    replace HT := Lib.hid (fun j hj => keep_below hB _ _ (HT.out j hj))
    replace HU := Lib.hid (HU.out.grow hB)
    replace HA := Lib.hid (HA.out.below hB)
    replace HU2 := Lib.hid (HU2.out.grow hB)
    replace HA2 := Lib.hid (HA2.out.below hB)
    replace HV := Lib.hid (HV.out.below hB)
    replace HW := Lib.hid (HW.out.below hB)
    replace HZv := Lib.hid (HZv.out.grow hB)
    replace HAuzv := Lib.hid (HAuzv.out.below hB)
    replace HZw := Lib.hid (HZw.out.grow hB)
    have HAuzw := Lib.hid hNB
    clear hNB hB
    have HZLw := Lib.hid (show vb < W17.heap.size ∧ wb < W17.heap.size from ⟨hzl, hzm⟩)
    clear hzl hzm
    by_cases hft : B.fit k = true
    · have HFTw := Lib.hid hft
      rw [hft]
      clear hft
      have cHA0 := HA.out.2.1
      have cHA20 := HA2.out.2.1
      have cHV0 := HV.out.2.1
      have cHW0 := HW.out.2.1
      have zHW0 := HW.out.2.2 0
      have cHAuzv0 := HAuzv.out.2.1
      have cHAuzw0 := HAuzw.out.2.1
      obtain ⟨W19, hWs⟩ : ∃ xw9, W18.setCell ⟨wb, 0, none⟩ uzw = xw9 := ⟨_, rfl⟩
      have HSH := Lib.hid HU2.out.shape
      replace HB := Lib.hid (show Below w.heap.size w W19 by rw [← hWs]; exact HB.out.setCell (by show w.heap.size ≤ wb; have := HZ0.out; have := HWB0.out; omega) _)
      replace HT := Lib.hid (show TabAt W19 by rw [← hWs]; exact TabAt.setc HT.out HW.out.2.1 HSH.out _)
      replace HU := Lib.hid (show IsV W19 _ _ _ by rw [← hWs]; exact HU.out.setb (p := ⟨wb, 0, none⟩) (fun h => by have := h.1; have := h.2; simp at *) _)
      replace HA := Lib.hid (show At1 W19 (xa) _ by rw [← hWs]; exact HA.out.grown (grown_setCell _ ⟨wb, 0, none⟩ _) (by have hq : xa ≠ wb := (by have := HLT.out; have := HZ0.out; omega); simpa using hq))
      replace HU2 := Lib.hid (show IsV W19 _ _ _ by rw [← hWs]; exact HU2.out.setb (p := ⟨wb, 0, none⟩) (fun h => by have := h.1; have := h.2; simp at *) _)
      replace HA2 := Lib.hid (show At1 W19 (xb) _ by rw [← hWs]; exact HA2.out.grown (grown_setCell _ ⟨wb, 0, none⟩ _) (by have hq : xb ≠ wb := (by have := HLT.out; have := HZ0.out; omega); simpa using hq))
      replace HV := Lib.hid (show At1 W19 (vb) _ by rw [← hWs]; exact HV.out.grown (grown_setCell _ ⟨wb, 0, none⟩ _) (by have hq : vb ≠ wb := (by have := HZ0.out; omega); simpa using hq))
      replace HZv := Lib.hid (show IsV W19 _ _ _ by rw [← hWs]; exact HZv.out.setb (p := ⟨wb, 0, none⟩) (fun h => by have := h.1; have := h.2; simp at *) _)
      replace HAuzv := Lib.hid (show At1 W19 (W15.heap.size) _ by rw [← hWs]; exact HAuzv.out.grown (grown_setCell _ ⟨wb, 0, none⟩ _) (by have hq : W15.heap.size ≠ wb := (by have := HZLv.out; omega); simpa using hq))
      replace HZw := Lib.hid (show IsV W19 _ _ _ by rw [← hWs]; exact HZw.out.setb (p := ⟨wb, 0, none⟩) (fun h => by have := h.1; have := h.2; simp at *) _)
      replace HAuzw := Lib.hid (show At1 W19 (W17.heap.size) _ by rw [← hWs]; exact HAuzw.out.grown (grown_setCell _ ⟨wb, 0, none⟩ _) (by have hq : W17.heap.size ≠ wb := (by have := HZLw.out; omega); simpa using hq))
      replace HW := Lib.hid (show At1 W19 wb uzw by rw [← hWs]; exact HW.out.set _)
      have cHA0 := HA.out.2.1
      have cHA20 := HA2.out.2.1
      have cHV0 := HV.out.2.1
      have cHW0 := HW.out.2.1
      have cHAuzv0 := HAuzv.out.2.1
      have cHAuzw0 := HAuzw.out.2.1
      go_wp2_with fail
      clear hWs hWn cHA0 cHA20 cHV0 cHW0 zHW0 cHAuzv0 cHAuzw0
      have HKw := Lib.hid (holds_into HHB.out HFTw.out)
      have HPL := Lib.hid (reV_len (f := f) (VV.ok_len HHA.out.1) (VV.ok_len HHB.out.1))
      obtain ⟨E, hE⟩ : ∃ E, reE f A B = E := ⟨_, rfl⟩
      obtain ⟨RV, hRV⟩ : ∃ RV, reV f A B = RV := ⟨_, rfl⟩
      have HE := Lib.hid hE
      have HRV := Lib.hid hRV
      have HS := Lib.hid (show reE f A (B.into k) = E ∧ reV f A (B.into k) = RV by rw [← hE, ← hRV]; exact holds_same HHA.out HHB.out HKv.out HKw.out)
      rw [hRV] at HPL
      have hee : (E == E) = true := by simp
      obtain ⟨Lp, hLp⟩ : ∃ Lp, RV.packed = Lp := ⟨_, rfl⟩
      have HLp := Lib.hid hLp
      rw [hLp] at HPL
      clear hE hRV hLp
      refine (reapply_calls f _ _ A B _ HU.out HU2.out HHA.out.1 HHB.out.1 HHA.out.2.1 HHB.out.2.1 HT.out).mono ?_
      rintro e W20 ⟨up, rfl, hup, hB⟩
      clear cHA0 cHA20 cHV0 cHW0 cHAuzv0 cHAuzw0
      replace HB := Lib.hid (HB.out.trans (hB.mono HB.out.size))
      replace HT := Lib.hid (fun j hj => keep_below hB _ _ (HT.out j hj))
      replace HU := Lib.hid (HU.out.grow hB)
      replace HA := Lib.hid (HA.out.below hB)
      replace HU2 := Lib.hid (HU2.out.grow hB)
      replace HA2 := Lib.hid (HA2.out.below hB)
      replace HV := Lib.hid (HV.out.below hB)
      replace HW := Lib.hid (HW.out.below hB)
      replace HZv := Lib.hid (HZv.out.grow hB)
      replace HAuzv := Lib.hid (HAuzv.out.below hB)
      replace HZw := Lib.hid (HZw.out.grow hB)
      replace HAuzw := Lib.hid (HAuzw.out.below hB)
      rw [HE.out]
      rw [HRV.out] at hup
      have HUP := Lib.hid (IsV.any hup)
      have hsup := hup.store
      clear hup
      clear hB
      obtain ⟨W21, hWn⟩ : ∃ xw9, W20.alloc (.cells #[up] 34) = xw9 := ⟨_, rfl⟩
      have hB : Below W20.heap.size W20 W21 := by rw [← hWn]; exact below_new _ _
      have hNB : At1 W21 W20.heap.size (up) := by rw [← hWn]; exact At1.new _ _ _
      replace HB := Lib.hid (HB.out.trans (hB.mono HB.out.size))
      replace HT := Lib.hid (fun j hj => keep_below hB _ _ (HT.out j hj))
      replace HU := Lib.hid (HU.out.grow hB)
      replace HA := Lib.hid (HA.out.below hB)
      replace HU2 := Lib.hid (HU2.out.grow hB)
      replace HA2 := Lib.hid (HA2.out.below hB)
      replace HV := Lib.hid (HV.out.below hB)
      replace HW := Lib.hid (HW.out.below hB)
      replace HZv := Lib.hid (HZv.out.grow hB)
      replace HAuzv := Lib.hid (HAuzv.out.below hB)
      replace HZw := Lib.hid (HZw.out.grow hB)
      replace HAuzw := Lib.hid (HAuzw.out.below hB)
      replace HUP := Lib.hid (HUP.out.grow hB)
      have HPA := Lib.hid hNB
      clear hNB hB
      have cHA0 := HA.out.2.1
      have cHA20 := HA2.out.2.1
      have cHV0 := HV.out.2.1
      have cHW0 := HW.out.2.1
      have cHAuzv0 := HAuzv.out.2.1
      have cHAuzw0 := HAuzw.out.2.1
      have cHPA0 := HPA.out.2.1
      go_wp2_with fail
      clear hWn
      refine (reapply_calls f _ _ A (B.into k) _ HU.out HZw.out HKv.out.1 HKw.out.1 HKv.out.2.1 HKw.out.2.1 HT.out).mono ?_
      rintro e W22 ⟨uq, rfl, huq, hB⟩
      clear cHA0 cHA20 cHV0 cHW0 cHAuzv0 cHAuzw0 cHPA0
      replace HB := Lib.hid (HB.out.trans (hB.mono HB.out.size))
      replace HT := Lib.hid (fun j hj => keep_below hB _ _ (HT.out j hj))
      replace HU := Lib.hid (HU.out.grow hB)
      replace HA := Lib.hid (HA.out.below hB)
      replace HU2 := Lib.hid (HU2.out.grow hB)
      replace HA2 := Lib.hid (HA2.out.below hB)
      replace HV := Lib.hid (HV.out.below hB)
      replace HW := Lib.hid (HW.out.below hB)
      replace HZv := Lib.hid (HZv.out.grow hB)
      replace HAuzv := Lib.hid (HAuzv.out.below hB)
      replace HZw := Lib.hid (HZw.out.grow hB)
      replace HAuzw := Lib.hid (HAuzw.out.below hB)
      replace HUP := Lib.hid (HUP.out.grow hB)
      replace HPA := Lib.hid (HPA.out.below hB)
      rw [HS.out.1]
      rw [HS.out.2] at huq
      have HUQ := Lib.hid (IsV.any huq)
      have hsuq := huq.store
      clear huq
      clear hB
      obtain ⟨W23, hWn⟩ : ∃ xw9, W22.alloc (.cells #[uq] 34) = xw9 := ⟨_, rfl⟩
      have hB : Below W22.heap.size W22 W23 := by rw [← hWn]; exact below_new _ _
      have hNB : At1 W23 W22.heap.size (uq) := by rw [← hWn]; exact At1.new _ _ _
      replace HB := Lib.hid (HB.out.trans (hB.mono HB.out.size))
      replace HT := Lib.hid (fun j hj => keep_below hB _ _ (HT.out j hj))
      replace HU := Lib.hid (HU.out.grow hB)
      replace HA := Lib.hid (HA.out.below hB)
      replace HU2 := Lib.hid (HU2.out.grow hB)
      replace HA2 := Lib.hid (HA2.out.below hB)
      replace HV := Lib.hid (HV.out.below hB)
      replace HW := Lib.hid (HW.out.below hB)
      replace HZv := Lib.hid (HZv.out.grow hB)
      replace HAuzv := Lib.hid (HAuzv.out.below hB)
      replace HZw := Lib.hid (HZw.out.grow hB)
      replace HAuzw := Lib.hid (HAuzw.out.below hB)
      replace HUP := Lib.hid (HUP.out.grow hB)
      replace HPA := Lib.hid (HPA.out.below hB)
      replace HUQ := Lib.hid (HUQ.out.grow hB)
      have HQA := Lib.hid hNB
      clear hNB hB
      have cHA0 := HA.out.2.1
      have cHA20 := HA2.out.2.1
      have cHV0 := HV.out.2.1
      have cHW0 := HW.out.2.1
      have cHAuzv0 := HAuzv.out.2.1
      have cHAuzw0 := HAuzw.out.2.1
      have cHPA0 := HPA.out.2.1
      have cHQA0 := HQA.out.2.1
      go_wp2_with fail
      clear hWn
      refine (vpacked_calls _ RV _ HUP.out).mono ?_
      rintro e W24 ⟨vp, rfl, hvp, hB⟩
      clear cHA0 cHA20 cHV0 cHW0 cHAuzv0 cHAuzw0 cHPA0 cHQA0
      replace HB := Lib.hid (HB.out.trans (hB.mono HB.out.size))
      replace HT := Lib.hid (fun j hj => keep_below hB _ _ (HT.out j hj))
      replace HU := Lib.hid (HU.out.grow hB)
      replace HA := Lib.hid (HA.out.below hB)
      replace HU2 := Lib.hid (HU2.out.grow hB)
      replace HA2 := Lib.hid (HA2.out.below hB)
      replace HV := Lib.hid (HV.out.below hB)
      replace HW := Lib.hid (HW.out.below hB)
      replace HZv := Lib.hid (HZv.out.grow hB)
      replace HAuzv := Lib.hid (HAuzv.out.below hB)
      replace HZw := Lib.hid (HZw.out.grow hB)
      replace HAuzw := Lib.hid (HAuzw.out.below hB)
      replace HUP := Lib.hid (HUP.out.grow hB)
      replace HPA := Lib.hid (HPA.out.below hB)
      replace HUQ := Lib.hid (HUQ.out.grow hB)
      replace HQA := Lib.hid (HQA.out.below hB)
      rw [HLp.out] at hvp
      have Hvp := Lib.hid hvp
      obtain ⟨ap, cp, rfl, hcp⟩ := hvp.opened
      clear hvp hcp
      clear hB
      obtain ⟨W25, hWn⟩ : ∃ xw9, W24.alloc (.cells #[.int .i64 Lp.length, .slice ap ((Lp.length + 63) / 64) cp] 42) = xw9 := ⟨_, rfl⟩
      have hB : Below W24.heap.size W24 W25 := by rw [← hWn]; exact below_new _ _
      have hNB : At2 W25 W24.heap.size (.int .i64 Lp.length) (.slice ap ((Lp.length + 63) / 64) cp) := by rw [← hWn]; exact At2.new _ _ _ _
      replace HB := Lib.hid (HB.out.trans (hB.mono HB.out.size))
      replace HT := Lib.hid (fun j hj => keep_below hB _ _ (HT.out j hj))
      replace HU := Lib.hid (HU.out.grow hB)
      replace HA := Lib.hid (HA.out.below hB)
      replace HU2 := Lib.hid (HU2.out.grow hB)
      replace HA2 := Lib.hid (HA2.out.below hB)
      replace HV := Lib.hid (HV.out.below hB)
      replace HW := Lib.hid (HW.out.below hB)
      replace HZv := Lib.hid (HZv.out.grow hB)
      replace HAuzv := Lib.hid (HAuzv.out.below hB)
      replace HZw := Lib.hid (HZw.out.grow hB)
      replace HAuzw := Lib.hid (HAuzw.out.below hB)
      replace HUP := Lib.hid (HUP.out.grow hB)
      replace HPA := Lib.hid (HPA.out.below hB)
      replace HUQ := Lib.hid (HUQ.out.grow hB)
      replace HQA := Lib.hid (HQA.out.below hB)
      replace Hvp := Lib.hid (Hvp.out.keep (keep_below hB))
      have Hp := Lib.hid hNB
      clear hNB hB
      have cHA0 := HA.out.2.1
      have cHA20 := HA2.out.2.1
      have cHV0 := HV.out.2.1
      have cHW0 := HW.out.2.1
      have cHAuzv0 := HAuzv.out.2.1
      have cHAuzw0 := HAuzw.out.2.1
      have cHPA0 := HPA.out.2.1
      have cHQA0 := HQA.out.2.1
      have cHp0 := Hp.out.2.1
      have cHp1 := Hp.out.2.2.1
      go_wp2_with fail
      clear hWn
      refine (vpacked_calls _ RV _ HUQ.out).mono ?_
      rintro e W26 ⟨vq, rfl, hvq, hB⟩
      clear cHA0 cHA20 cHV0 cHW0 cHAuzv0 cHAuzw0 cHPA0 cHQA0 cHp0 cHp1
      replace HB := Lib.hid (HB.out.trans (hB.mono HB.out.size))
      replace HT := Lib.hid (fun j hj => keep_below hB _ _ (HT.out j hj))
      replace HU := Lib.hid (HU.out.grow hB)
      replace HA := Lib.hid (HA.out.below hB)
      replace HU2 := Lib.hid (HU2.out.grow hB)
      replace HA2 := Lib.hid (HA2.out.below hB)
      replace HV := Lib.hid (HV.out.below hB)
      replace HW := Lib.hid (HW.out.below hB)
      replace HZv := Lib.hid (HZv.out.grow hB)
      replace HAuzv := Lib.hid (HAuzv.out.below hB)
      replace HZw := Lib.hid (HZw.out.grow hB)
      replace HAuzw := Lib.hid (HAuzw.out.below hB)
      replace HUP := Lib.hid (HUP.out.grow hB)
      replace HPA := Lib.hid (HPA.out.below hB)
      replace HUQ := Lib.hid (HUQ.out.grow hB)
      replace HQA := Lib.hid (HQA.out.below hB)
      replace Hvp := Lib.hid (Hvp.out.keep (keep_below hB))
      replace Hp := Lib.hid (Hp.out.below hB)
      rw [HLp.out] at hvq
      have Hvq := Lib.hid hvq
      obtain ⟨aq, cq, rfl, hcq⟩ := hvq.opened
      clear hvq hcq
      clear hB
      obtain ⟨W27, hWn⟩ : ∃ xw9, W26.alloc (.cells #[.int .i64 Lp.length, .slice aq ((Lp.length + 63) / 64) cq] 42) = xw9 := ⟨_, rfl⟩
      have hB : Below W26.heap.size W26 W27 := by rw [← hWn]; exact below_new _ _
      have hNB : At2 W27 W26.heap.size (.int .i64 Lp.length) (.slice aq ((Lp.length + 63) / 64) cq) := by rw [← hWn]; exact At2.new _ _ _ _
      replace HB := Lib.hid (HB.out.trans (hB.mono HB.out.size))
      replace HT := Lib.hid (fun j hj => keep_below hB _ _ (HT.out j hj))
      replace HU := Lib.hid (HU.out.grow hB)
      replace HA := Lib.hid (HA.out.below hB)
      replace HU2 := Lib.hid (HU2.out.grow hB)
      replace HA2 := Lib.hid (HA2.out.below hB)
      replace HV := Lib.hid (HV.out.below hB)
      replace HW := Lib.hid (HW.out.below hB)
      replace HZv := Lib.hid (HZv.out.grow hB)
      replace HAuzv := Lib.hid (HAuzv.out.below hB)
      replace HZw := Lib.hid (HZw.out.grow hB)
      replace HAuzw := Lib.hid (HAuzw.out.below hB)
      replace HUP := Lib.hid (HUP.out.grow hB)
      replace HPA := Lib.hid (HPA.out.below hB)
      replace HUQ := Lib.hid (HUQ.out.grow hB)
      replace HQA := Lib.hid (HQA.out.below hB)
      replace Hvp := Lib.hid (Hvp.out.keep (keep_below hB))
      replace Hp := Lib.hid (Hp.out.below hB)
      replace Hvq := Lib.hid (Hvq.out.keep (keep_below hB))
      have Hq := Lib.hid hNB
      clear hNB hB
      have cHA0 := HA.out.2.1
      have cHA20 := HA2.out.2.1
      have cHV0 := HV.out.2.1
      have cHW0 := HW.out.2.1
      have cHAuzv0 := HAuzv.out.2.1
      have cHAuzw0 := HAuzw.out.2.1
      have cHPA0 := HPA.out.2.1
      have cHQA0 := HQA.out.2.1
      have cHp0 := Hp.out.2.1
      have cHp1 := Hp.out.2.2.1
      have cHq0 := Hq.out.2.1
      have cHq1 := Hq.out.2.2.1
      go_wp2_with fail
      clear hWn
      clear cHA0 cHA20 cHV0 cHW0 cHAuzv0 cHAuzw0 cHPA0 cHQA0 cHp0 cHp1 cHq0 cHq1
      obtain ⟨W28, hWD⟩ : ∃ xw9, W27.drew = xw9 := ⟨_, rfl⟩
      have hB : Below W27.heap.size W27 W28 := by rw [← hWD]; exact Below.drewN' (Below.refl _ _) 1
      replace HB := Lib.hid (HB.out.trans (hB.mono HB.out.size))
      replace HT := Lib.hid (fun j hj => keep_below hB _ _ (HT.out j hj))
      replace HU := Lib.hid (HU.out.grow hB)
      replace HA := Lib.hid (HA.out.below hB)
      replace HU2 := Lib.hid (HU2.out.grow hB)
      replace HA2 := Lib.hid (HA2.out.below hB)
      replace HV := Lib.hid (HV.out.below hB)
      replace HW := Lib.hid (HW.out.below hB)
      replace HZv := Lib.hid (HZv.out.grow hB)
      replace HAuzv := Lib.hid (HAuzv.out.below hB)
      replace HZw := Lib.hid (HZw.out.grow hB)
      replace HAuzw := Lib.hid (HAuzw.out.below hB)
      replace HUP := Lib.hid (HUP.out.grow hB)
      replace HPA := Lib.hid (HPA.out.below hB)
      replace HUQ := Lib.hid (HUQ.out.grow hB)
      replace HQA := Lib.hid (HQA.out.below hB)
      replace Hvp := Lib.hid (Hvp.out.keep (keep_below hB))
      replace Hp := Lib.hid (Hp.out.below hB)
      replace Hvq := Lib.hid (Hvq.out.keep (keep_below hB))
      replace Hq := Lib.hid (Hq.out.below hB)
      clear hB
      refine wp_region_held_drew (S := fun w' => w'.cell? ⟨W24.heap.size, 0, none⟩ = some (.int .i64 Lp.length) ∧ w'.cell? ⟨W24.heap.size, 1, none⟩ = some (.slice ap ((Lp.length + 63) / 64) cp) ∧ w'.cell? ⟨W26.heap.size, 0, none⟩ = some (.int .i64 Lp.length) ∧ w'.cell? ⟨W26.heap.size, 1, none⟩ = some (.slice aq ((Lp.length + 63) / 64) cq)) (by kernel_rfl) (by rw [hWD]; exact ⟨Hp.out.2.1, Hp.out.2.2.1, Hq.out.2.1, Hq.out.2.2.1⟩) (fun hHeld => ?_)
      rw [hWD] at hHeld ⊢
      clear hWD
      refine wpAnyH_take (i := 0) (v := ?_) rfl (by kernel_rfl) (by kernel_rfl) (by kernel_rfl) (fun _ _ _ h => h) (Or.inl ⟨by rfl, ?_⟩) (by assumption) ?_
      rotate_left
      · (intro w hSw; (try dsimp only at hSw); go_simp; try with_reducible rfl)
      simp only [Act.put, List.getElem_toArray, List.getElem_cons_zero, List.setIfInBounds_toArray, List.set_cons_zero, List.set_cons_succ]
      refine wpAnyH_take (i := 1) (v := ?_) rfl (by kernel_rfl) (by kernel_rfl) (by kernel_rfl) (fun _ _ _ h => h) (Or.inl ⟨by rfl, ?_⟩) (by assumption) ?_
      rotate_left
      · (intro w hSw; (try dsimp only at hSw); go_simp; try with_reducible rfl)
      simp only [Act.put, List.getElem_toArray, List.getElem_cons_succ, List.getElem_cons_zero, List.setIfInBounds_toArray, List.set_cons_zero, List.set_cons_succ]
      refine wpAnyH_take (i := 2) (v := ?_) rfl (by kernel_rfl) (by kernel_rfl) (by kernel_rfl) (fun _ _ _ h => h) (Or.inl ⟨by rfl, ?_⟩) (by assumption) ?_
      rotate_left
      · (intro w hSw; (try dsimp only at hSw); go_simp; try with_reducible rfl)
      simp only [Act.put, List.getElem_toArray, List.getElem_cons_succ, List.getElem_cons_zero, List.setIfInBounds_toArray, List.set_cons_zero, List.set_cons_succ]
      refine wpAnyH_take (i := 3) (v := ?_) rfl (by kernel_rfl) (by kernel_rfl) (by kernel_rfl) (fun _ _ _ h => h) (Or.inl ⟨by rfl, ?_⟩) (by assumption) ?_
      rotate_left
      · (intro w hSw; (try dsimp only at hSw); go_simp; try with_reducible rfl)
      simp only [Act.put, List.getElem_toArray, List.getElem_cons_succ, List.getElem_cons_zero, List.setIfInBounds_toArray, List.set_cons_zero, List.set_cons_succ]
      refine wpAnyH_take (i := 4) (v := ?_) rfl (by kernel_rfl) (by kernel_rfl) (by kernel_rfl) (fun _ _ _ h => h) (Or.inl ⟨by rfl, ?_⟩) (by assumption) ?_
      rotate_left
      · (intro w hSw; (try dsimp only at hSw); go_simp; try with_reducible rfl)
      simp only [Act.put, List.getElem_toArray, List.getElem_cons_succ, List.getElem_cons_zero, List.setIfInBounds_toArray, List.set_cons_zero, List.set_cons_succ]
      refine wpAnyH_take (i := 6) (v := ?_) rfl (by kernel_rfl) (by kernel_rfl) (by kernel_rfl) (fun _ _ _ h => h) (Or.inl ⟨by rfl, ?_⟩) (by assumption) ?_
      rotate_left
      · (intro w hSw; (try dsimp only at hSw); go_simp; try with_reducible rfl)
      simp only [Act.put, List.getElem_toArray, List.getElem_cons_succ, List.getElem_cons_zero, List.setIfInBounds_toArray, List.set_cons_zero, List.set_cons_succ]
      refine wpAnyH_ready (rs := [5]) (by kernel_rfl) (by simp) ?_
      refine AllReadyH.cons (o := _) rfl (fun K hK => ?_) ?_
      · clear hHeld
        go_simp
        refine (unpack_slc _ Lp _ Hvp.out HPL.out).mono ?_
        rintro e W29 ⟨vn1, rfl, hvn, hB⟩
        replace HB := Lib.hid (HB.out.trans (hB.mono HB.out.size))
        replace HT := Lib.hid (fun j hj => keep_below hB _ _ (HT.out j hj))
        replace HU := Lib.hid (HU.out.grow hB)
        replace HA := Lib.hid (HA.out.below hB)
        replace HU2 := Lib.hid (HU2.out.grow hB)
        replace HA2 := Lib.hid (HA2.out.below hB)
        replace HV := Lib.hid (HV.out.below hB)
        replace HW := Lib.hid (HW.out.below hB)
        replace HZv := Lib.hid (HZv.out.grow hB)
        replace HAuzv := Lib.hid (HAuzv.out.below hB)
        replace HZw := Lib.hid (HZw.out.grow hB)
        replace HAuzw := Lib.hid (HAuzw.out.below hB)
        replace HUP := Lib.hid (HUP.out.grow hB)
        replace HPA := Lib.hid (HPA.out.below hB)
        replace HUQ := Lib.hid (HUQ.out.grow hB)
        replace HQA := Lib.hid (HQA.out.below hB)
        replace Hvp := Lib.hid (Hvp.out.keep (keep_below hB))
        replace Hp := Lib.hid (Hp.out.below hB)
        replace Hvq := Lib.hid (Hvq.out.keep (keep_below hB))
        replace Hq := Lib.hid (Hq.out.below hB)
        have HVN1 := Lib.hid hvn.any
        clear hvn
        clear hB
        refine hK.out _ _ ?_ (fun hHeld => ?_)
        · exact ⟨Hp.out.2.1, Hp.out.2.2.1, Hq.out.2.1, Hq.out.2.2.1⟩
        clear hK K
        refine wpAnyH_ready (rs := [7]) (by kernel_rfl) (by simp) ?_
        refine AllReadyH.cons (o := _) rfl (fun K hK => ?_) ?_
        · clear hHeld
          go_simp
          refine (unpack_slc _ Lp _ Hvq.out HPL.out).mono ?_
          rintro e W30 ⟨vn2, rfl, hvn, hB⟩
          replace HB := Lib.hid (HB.out.trans (hB.mono HB.out.size))
          replace HT := Lib.hid (fun j hj => keep_below hB _ _ (HT.out j hj))
          replace HU := Lib.hid (HU.out.grow hB)
          replace HA := Lib.hid (HA.out.below hB)
          replace HU2 := Lib.hid (HU2.out.grow hB)
          replace HA2 := Lib.hid (HA2.out.below hB)
          replace HV := Lib.hid (HV.out.below hB)
          replace HW := Lib.hid (HW.out.below hB)
          replace HZv := Lib.hid (HZv.out.grow hB)
          replace HAuzv := Lib.hid (HAuzv.out.below hB)
          replace HZw := Lib.hid (HZw.out.grow hB)
          replace HAuzw := Lib.hid (HAuzw.out.below hB)
          replace HUP := Lib.hid (HUP.out.grow hB)
          replace HPA := Lib.hid (HPA.out.below hB)
          replace HUQ := Lib.hid (HUQ.out.grow hB)
          replace HQA := Lib.hid (HQA.out.below hB)
          replace Hvp := Lib.hid (Hvp.out.keep (keep_below hB))
          replace Hp := Lib.hid (Hp.out.below hB)
          replace Hvq := Lib.hid (Hvq.out.keep (keep_below hB))
          replace Hq := Lib.hid (Hq.out.below hB)
          replace HVN1 := Lib.hid (HVN1.out.below hB)
          have HVN2 := Lib.hid hvn.any
          clear hvn
          clear hB
          refine hK.out _ _ ?_ (fun hHeld => ?_)
          · exact ⟨Hp.out.2.1, Hp.out.2.2.1, Hq.out.2.1, Hq.out.2.2.1⟩
          clear hK K
          refine wpAnyH_ready (rs := [8]) (by kernel_rfl) (by simp) ?_
          refine AllReadyH.cons (o := _) rfl (fun K hK => ?_) ?_
          · clear hHeld
            go_simp
            refine (bools_calls _ _ Lp Lp _ HVN1.out.1.sl HVN2.out.1.sl (by have := HPL.out; unfold maxLen; omega)).mono ?_
            rintro e W31 ⟨rfl, hB⟩
            replace HB := Lib.hid (HB.out.trans (hB.mono HB.out.size))
            replace HT := Lib.hid (fun j hj => keep_below hB _ _ (HT.out j hj))
            replace HU := Lib.hid (HU.out.grow hB)
            replace HA := Lib.hid (HA.out.below hB)
            replace HU2 := Lib.hid (HU2.out.grow hB)
            replace HA2 := Lib.hid (HA2.out.below hB)
            replace HV := Lib.hid (HV.out.below hB)
            replace HW := Lib.hid (HW.out.below hB)
            replace HZv := Lib.hid (HZv.out.grow hB)
            replace HAuzv := Lib.hid (HAuzv.out.below hB)
            replace HZw := Lib.hid (HZw.out.grow hB)
            replace HAuzw := Lib.hid (HAuzw.out.below hB)
            replace HUP := Lib.hid (HUP.out.grow hB)
            replace HPA := Lib.hid (HPA.out.below hB)
            replace HUQ := Lib.hid (HUQ.out.grow hB)
            replace HQA := Lib.hid (HQA.out.below hB)
            replace Hvp := Lib.hid (Hvp.out.keep (keep_below hB))
            replace Hp := Lib.hid (Hp.out.below hB)
            replace Hvq := Lib.hid (Hvq.out.keep (keep_below hB))
            replace Hq := Lib.hid (Hq.out.below hB)
            replace HVN1 := Lib.hid (HVN1.out.below hB)
            replace HVN2 := Lib.hid (HVN2.out.below hB)
            rw [beq_self_eq_true]
            clear hB
            refine hK.out _ _ ?_ (fun hHeld => ?_)
            · exact ⟨Hp.out.2.1, Hp.out.2.2.1, Hq.out.2.1, Hq.out.2.2.1⟩
            clear hK K
            refine wpAnyH_take (i := 9) (v := ?_) rfl (by kernel_rfl) (by kernel_rfl) (by kernel_rfl) (fun _ _ _ h => h) (Or.inl ⟨by rfl, ?_⟩) (by assumption) ?_
            rotate_left
            · (intro w hSw; (try dsimp only at hSw); go_simp; try with_reducible rfl)
            simp only [Act.put, List.getElem_toArray, List.getElem_cons_succ, List.getElem_cons_zero, List.setIfInBounds_toArray, List.set_cons_zero, List.set_cons_succ]
            refine wpAnyH_take (i := 10) (v := ?_) rfl (by kernel_rfl) (by kernel_rfl) (by kernel_rfl) (fun _ _ _ h => h) (Or.inl ⟨by rfl, ?_⟩) (by assumption) ?_
            rotate_left
            · (intro w hSw; (try dsimp only at hSw); go_simp; try with_reducible rfl)
            simp only [Act.put, List.getElem_toArray, List.getElem_cons_succ, List.getElem_cons_zero, List.setIfInBounds_toArray, List.set_cons_zero, List.set_cons_succ]
            refine wpAnyH_ready (rs := [11]) (by kernel_rfl) (by simp) ?_
            refine AllReadyH.cons (o := _) rfl (fun K hK => ?_) ?_
            · clear hHeld
              go_simp
              refine (awake11_calls _ HT.out).mono ?_
              rintro e W32 ⟨rfl, hB⟩
              replace HB := Lib.hid (HB.out.trans (hB.mono HB.out.size))
              replace HT := Lib.hid (fun j hj => keep_below hB _ _ (HT.out j hj))
              replace HU := Lib.hid (HU.out.grow hB)
              replace HA := Lib.hid (HA.out.below hB)
              replace HU2 := Lib.hid (HU2.out.grow hB)
              replace HA2 := Lib.hid (HA2.out.below hB)
              replace HV := Lib.hid (HV.out.below hB)
              replace HW := Lib.hid (HW.out.below hB)
              replace HZv := Lib.hid (HZv.out.grow hB)
              replace HAuzv := Lib.hid (HAuzv.out.below hB)
              replace HZw := Lib.hid (HZw.out.grow hB)
              replace HAuzw := Lib.hid (HAuzw.out.below hB)
              replace HUP := Lib.hid (HUP.out.grow hB)
              replace HPA := Lib.hid (HPA.out.below hB)
              replace HUQ := Lib.hid (HUQ.out.grow hB)
              replace HQA := Lib.hid (HQA.out.below hB)
              replace Hvp := Lib.hid (Hvp.out.keep (keep_below hB))
              replace Hp := Lib.hid (Hp.out.below hB)
              replace Hvq := Lib.hid (Hvq.out.keep (keep_below hB))
              replace Hq := Lib.hid (Hq.out.below hB)
              replace HVN1 := Lib.hid (HVN1.out.below hB)
              replace HVN2 := Lib.hid (HVN2.out.below hB)
              clear hB
              refine hK.out _ _ ?_ (fun hHeld => ?_)
              · exact ⟨Hp.out.2.1, Hp.out.2.2.1, Hq.out.2.1, Hq.out.2.2.1⟩
              clear hK K
              refine wpAnyH_take (i := 12) (v := ?_) rfl (by kernel_rfl) (by kernel_rfl) (by kernel_rfl) (fun _ _ _ h => h) (Or.inl ⟨by rfl, ?_⟩) (by assumption) ?_
              rotate_left
              · (intro w hSw; (try dsimp only at hSw); go_simp; try with_reducible rfl)
              simp only [Act.put, List.getElem_toArray, List.getElem_cons_succ, List.getElem_cons_zero, List.setIfInBounds_toArray, List.set_cons_zero, List.set_cons_succ]
              refine wpAnyH_take (i := 13) (v := ?_) rfl (by kernel_rfl) (by kernel_rfl) (by kernel_rfl) (fun _ _ _ h => h) (Or.inl ⟨by rfl, ?_⟩) (by assumption) ?_
              rotate_left
              · (intro w hSw; (try dsimp only at hSw); go_simp; try with_reducible rfl)
              simp only [Act.put, List.getElem_toArray, List.getElem_cons_succ, List.getElem_cons_zero, List.setIfInBounds_toArray, List.set_cons_zero, List.set_cons_succ]
              refine wpAnyH_done (by kernel_rfl) ?_ _
              clear hHeld
              go_wp2
              go_ret
              exact ⟨rfl, HB.out⟩
            exact AllReadyH.nil
          exact AllReadyH.nil
        exact AllReadyH.nil
      exact AllReadyH.nil
    · have hft2 : B.fit k = false := by simpa using hft
      rw [hft2]
      clear hft hft2
      have cHA0 := HA.out.2.1
      have cHA20 := HA2.out.2.1
      have cHV0 := HV.out.2.1
      have cHW0 := HW.out.2.1
      have cHAuzv0 := HAuzv.out.2.1
      have cHAuzw0 := HAuzw.out.2.1
      go_wp2_with fail
      clear hWn
      have HKw := Lib.hid HHB.out
      have HPL := Lib.hid (reV_len (f := f) (VV.ok_len HHA.out.1) (VV.ok_len HHB.out.1))
      obtain ⟨E, hE⟩ : ∃ E, reE f A B = E := ⟨_, rfl⟩
      obtain ⟨RV, hRV⟩ : ∃ RV, reV f A B = RV := ⟨_, rfl⟩
      have HE := Lib.hid hE
      have HRV := Lib.hid hRV
      have HS := Lib.hid (show reE f A B = E ∧ reV f A B = RV by rw [← hE, ← hRV]; exact holds_same HHA.out HHB.out HKv.out HKw.out)
      rw [hRV] at HPL
      have hee : (E == E) = true := by simp
      obtain ⟨Lp, hLp⟩ : ∃ Lp, RV.packed = Lp := ⟨_, rfl⟩
      have HLp := Lib.hid hLp
      rw [hLp] at HPL
      clear hE hRV hLp
      refine (reapply_calls f _ _ A B _ HU.out HU2.out HHA.out.1 HHB.out.1 HHA.out.2.1 HHB.out.2.1 HT.out).mono ?_
      rintro e W19 ⟨up, rfl, hup, hB⟩
      clear cHA0 cHA20 cHV0 cHW0 cHAuzv0 cHAuzw0
      replace HB := Lib.hid (HB.out.trans (hB.mono HB.out.size))
      replace HT := Lib.hid (fun j hj => keep_below hB _ _ (HT.out j hj))
      replace HU := Lib.hid (HU.out.grow hB)
      replace HA := Lib.hid (HA.out.below hB)
      replace HU2 := Lib.hid (HU2.out.grow hB)
      replace HA2 := Lib.hid (HA2.out.below hB)
      replace HV := Lib.hid (HV.out.below hB)
      replace HW := Lib.hid (HW.out.below hB)
      replace HZv := Lib.hid (HZv.out.grow hB)
      replace HAuzv := Lib.hid (HAuzv.out.below hB)
      replace HZw := Lib.hid (HZw.out.grow hB)
      replace HAuzw := Lib.hid (HAuzw.out.below hB)
      rw [HE.out]
      rw [HRV.out] at hup
      have HUP := Lib.hid (IsV.any hup)
      have hsup := hup.store
      clear hup
      clear hB
      obtain ⟨W20, hWn⟩ : ∃ xw9, W19.alloc (.cells #[up] 34) = xw9 := ⟨_, rfl⟩
      have hB : Below W19.heap.size W19 W20 := by rw [← hWn]; exact below_new _ _
      have hNB : At1 W20 W19.heap.size (up) := by rw [← hWn]; exact At1.new _ _ _
      replace HB := Lib.hid (HB.out.trans (hB.mono HB.out.size))
      replace HT := Lib.hid (fun j hj => keep_below hB _ _ (HT.out j hj))
      replace HU := Lib.hid (HU.out.grow hB)
      replace HA := Lib.hid (HA.out.below hB)
      replace HU2 := Lib.hid (HU2.out.grow hB)
      replace HA2 := Lib.hid (HA2.out.below hB)
      replace HV := Lib.hid (HV.out.below hB)
      replace HW := Lib.hid (HW.out.below hB)
      replace HZv := Lib.hid (HZv.out.grow hB)
      replace HAuzv := Lib.hid (HAuzv.out.below hB)
      replace HZw := Lib.hid (HZw.out.grow hB)
      replace HAuzw := Lib.hid (HAuzw.out.below hB)
      replace HUP := Lib.hid (HUP.out.grow hB)
      have HPA := Lib.hid hNB
      clear hNB hB
      have cHA0 := HA.out.2.1
      have cHA20 := HA2.out.2.1
      have cHV0 := HV.out.2.1
      have cHW0 := HW.out.2.1
      have cHAuzv0 := HAuzv.out.2.1
      have cHAuzw0 := HAuzw.out.2.1
      have cHPA0 := HPA.out.2.1
      go_wp2_with fail
      clear hWn
      refine (reapply_calls f _ _ A B _ HU.out HU2.out HKv.out.1 HKw.out.1 HKv.out.2.1 HKw.out.2.1 HT.out).mono ?_
      rintro e W21 ⟨uq, rfl, huq, hB⟩
      clear cHA0 cHA20 cHV0 cHW0 cHAuzv0 cHAuzw0 cHPA0
      replace HB := Lib.hid (HB.out.trans (hB.mono HB.out.size))
      replace HT := Lib.hid (fun j hj => keep_below hB _ _ (HT.out j hj))
      replace HU := Lib.hid (HU.out.grow hB)
      replace HA := Lib.hid (HA.out.below hB)
      replace HU2 := Lib.hid (HU2.out.grow hB)
      replace HA2 := Lib.hid (HA2.out.below hB)
      replace HV := Lib.hid (HV.out.below hB)
      replace HW := Lib.hid (HW.out.below hB)
      replace HZv := Lib.hid (HZv.out.grow hB)
      replace HAuzv := Lib.hid (HAuzv.out.below hB)
      replace HZw := Lib.hid (HZw.out.grow hB)
      replace HAuzw := Lib.hid (HAuzw.out.below hB)
      replace HUP := Lib.hid (HUP.out.grow hB)
      replace HPA := Lib.hid (HPA.out.below hB)
      rw [HS.out.1]
      rw [HS.out.2] at huq
      have HUQ := Lib.hid (IsV.any huq)
      have hsuq := huq.store
      clear huq
      clear hB
      obtain ⟨W22, hWn⟩ : ∃ xw9, W21.alloc (.cells #[uq] 34) = xw9 := ⟨_, rfl⟩
      have hB : Below W21.heap.size W21 W22 := by rw [← hWn]; exact below_new _ _
      have hNB : At1 W22 W21.heap.size (uq) := by rw [← hWn]; exact At1.new _ _ _
      replace HB := Lib.hid (HB.out.trans (hB.mono HB.out.size))
      replace HT := Lib.hid (fun j hj => keep_below hB _ _ (HT.out j hj))
      replace HU := Lib.hid (HU.out.grow hB)
      replace HA := Lib.hid (HA.out.below hB)
      replace HU2 := Lib.hid (HU2.out.grow hB)
      replace HA2 := Lib.hid (HA2.out.below hB)
      replace HV := Lib.hid (HV.out.below hB)
      replace HW := Lib.hid (HW.out.below hB)
      replace HZv := Lib.hid (HZv.out.grow hB)
      replace HAuzv := Lib.hid (HAuzv.out.below hB)
      replace HZw := Lib.hid (HZw.out.grow hB)
      replace HAuzw := Lib.hid (HAuzw.out.below hB)
      replace HUP := Lib.hid (HUP.out.grow hB)
      replace HPA := Lib.hid (HPA.out.below hB)
      replace HUQ := Lib.hid (HUQ.out.grow hB)
      have HQA := Lib.hid hNB
      clear hNB hB
      have cHA0 := HA.out.2.1
      have cHA20 := HA2.out.2.1
      have cHV0 := HV.out.2.1
      have cHW0 := HW.out.2.1
      have cHAuzv0 := HAuzv.out.2.1
      have cHAuzw0 := HAuzw.out.2.1
      have cHPA0 := HPA.out.2.1
      have cHQA0 := HQA.out.2.1
      go_wp2_with fail
      clear hWn
      refine (vpacked_calls _ RV _ HUP.out).mono ?_
      rintro e W23 ⟨vp, rfl, hvp, hB⟩
      clear cHA0 cHA20 cHV0 cHW0 cHAuzv0 cHAuzw0 cHPA0 cHQA0
      replace HB := Lib.hid (HB.out.trans (hB.mono HB.out.size))
      replace HT := Lib.hid (fun j hj => keep_below hB _ _ (HT.out j hj))
      replace HU := Lib.hid (HU.out.grow hB)
      replace HA := Lib.hid (HA.out.below hB)
      replace HU2 := Lib.hid (HU2.out.grow hB)
      replace HA2 := Lib.hid (HA2.out.below hB)
      replace HV := Lib.hid (HV.out.below hB)
      replace HW := Lib.hid (HW.out.below hB)
      replace HZv := Lib.hid (HZv.out.grow hB)
      replace HAuzv := Lib.hid (HAuzv.out.below hB)
      replace HZw := Lib.hid (HZw.out.grow hB)
      replace HAuzw := Lib.hid (HAuzw.out.below hB)
      replace HUP := Lib.hid (HUP.out.grow hB)
      replace HPA := Lib.hid (HPA.out.below hB)
      replace HUQ := Lib.hid (HUQ.out.grow hB)
      replace HQA := Lib.hid (HQA.out.below hB)
      rw [HLp.out] at hvp
      have Hvp := Lib.hid hvp
      obtain ⟨ap, cp, rfl, hcp⟩ := hvp.opened
      clear hvp hcp
      clear hB
      obtain ⟨W24, hWn⟩ : ∃ xw9, W23.alloc (.cells #[.int .i64 Lp.length, .slice ap ((Lp.length + 63) / 64) cp] 42) = xw9 := ⟨_, rfl⟩
      have hB : Below W23.heap.size W23 W24 := by rw [← hWn]; exact below_new _ _
      have hNB : At2 W24 W23.heap.size (.int .i64 Lp.length) (.slice ap ((Lp.length + 63) / 64) cp) := by rw [← hWn]; exact At2.new _ _ _ _
      replace HB := Lib.hid (HB.out.trans (hB.mono HB.out.size))
      replace HT := Lib.hid (fun j hj => keep_below hB _ _ (HT.out j hj))
      replace HU := Lib.hid (HU.out.grow hB)
      replace HA := Lib.hid (HA.out.below hB)
      replace HU2 := Lib.hid (HU2.out.grow hB)
      replace HA2 := Lib.hid (HA2.out.below hB)
      replace HV := Lib.hid (HV.out.below hB)
      replace HW := Lib.hid (HW.out.below hB)
      replace HZv := Lib.hid (HZv.out.grow hB)
      replace HAuzv := Lib.hid (HAuzv.out.below hB)
      replace HZw := Lib.hid (HZw.out.grow hB)
      replace HAuzw := Lib.hid (HAuzw.out.below hB)
      replace HUP := Lib.hid (HUP.out.grow hB)
      replace HPA := Lib.hid (HPA.out.below hB)
      replace HUQ := Lib.hid (HUQ.out.grow hB)
      replace HQA := Lib.hid (HQA.out.below hB)
      replace Hvp := Lib.hid (Hvp.out.keep (keep_below hB))
      have Hp := Lib.hid hNB
      clear hNB hB
      have cHA0 := HA.out.2.1
      have cHA20 := HA2.out.2.1
      have cHV0 := HV.out.2.1
      have cHW0 := HW.out.2.1
      have cHAuzv0 := HAuzv.out.2.1
      have cHAuzw0 := HAuzw.out.2.1
      have cHPA0 := HPA.out.2.1
      have cHQA0 := HQA.out.2.1
      have cHp0 := Hp.out.2.1
      have cHp1 := Hp.out.2.2.1
      go_wp2_with fail
      clear hWn
      refine (vpacked_calls _ RV _ HUQ.out).mono ?_
      rintro e W25 ⟨vq, rfl, hvq, hB⟩
      clear cHA0 cHA20 cHV0 cHW0 cHAuzv0 cHAuzw0 cHPA0 cHQA0 cHp0 cHp1
      replace HB := Lib.hid (HB.out.trans (hB.mono HB.out.size))
      replace HT := Lib.hid (fun j hj => keep_below hB _ _ (HT.out j hj))
      replace HU := Lib.hid (HU.out.grow hB)
      replace HA := Lib.hid (HA.out.below hB)
      replace HU2 := Lib.hid (HU2.out.grow hB)
      replace HA2 := Lib.hid (HA2.out.below hB)
      replace HV := Lib.hid (HV.out.below hB)
      replace HW := Lib.hid (HW.out.below hB)
      replace HZv := Lib.hid (HZv.out.grow hB)
      replace HAuzv := Lib.hid (HAuzv.out.below hB)
      replace HZw := Lib.hid (HZw.out.grow hB)
      replace HAuzw := Lib.hid (HAuzw.out.below hB)
      replace HUP := Lib.hid (HUP.out.grow hB)
      replace HPA := Lib.hid (HPA.out.below hB)
      replace HUQ := Lib.hid (HUQ.out.grow hB)
      replace HQA := Lib.hid (HQA.out.below hB)
      replace Hvp := Lib.hid (Hvp.out.keep (keep_below hB))
      replace Hp := Lib.hid (Hp.out.below hB)
      rw [HLp.out] at hvq
      have Hvq := Lib.hid hvq
      obtain ⟨aq, cq, rfl, hcq⟩ := hvq.opened
      clear hvq hcq
      clear hB
      obtain ⟨W26, hWn⟩ : ∃ xw9, W25.alloc (.cells #[.int .i64 Lp.length, .slice aq ((Lp.length + 63) / 64) cq] 42) = xw9 := ⟨_, rfl⟩
      have hB : Below W25.heap.size W25 W26 := by rw [← hWn]; exact below_new _ _
      have hNB : At2 W26 W25.heap.size (.int .i64 Lp.length) (.slice aq ((Lp.length + 63) / 64) cq) := by rw [← hWn]; exact At2.new _ _ _ _
      replace HB := Lib.hid (HB.out.trans (hB.mono HB.out.size))
      replace HT := Lib.hid (fun j hj => keep_below hB _ _ (HT.out j hj))
      replace HU := Lib.hid (HU.out.grow hB)
      replace HA := Lib.hid (HA.out.below hB)
      replace HU2 := Lib.hid (HU2.out.grow hB)
      replace HA2 := Lib.hid (HA2.out.below hB)
      replace HV := Lib.hid (HV.out.below hB)
      replace HW := Lib.hid (HW.out.below hB)
      replace HZv := Lib.hid (HZv.out.grow hB)
      replace HAuzv := Lib.hid (HAuzv.out.below hB)
      replace HZw := Lib.hid (HZw.out.grow hB)
      replace HAuzw := Lib.hid (HAuzw.out.below hB)
      replace HUP := Lib.hid (HUP.out.grow hB)
      replace HPA := Lib.hid (HPA.out.below hB)
      replace HUQ := Lib.hid (HUQ.out.grow hB)
      replace HQA := Lib.hid (HQA.out.below hB)
      replace Hvp := Lib.hid (Hvp.out.keep (keep_below hB))
      replace Hp := Lib.hid (Hp.out.below hB)
      replace Hvq := Lib.hid (Hvq.out.keep (keep_below hB))
      have Hq := Lib.hid hNB
      clear hNB hB
      have cHA0 := HA.out.2.1
      have cHA20 := HA2.out.2.1
      have cHV0 := HV.out.2.1
      have cHW0 := HW.out.2.1
      have cHAuzv0 := HAuzv.out.2.1
      have cHAuzw0 := HAuzw.out.2.1
      have cHPA0 := HPA.out.2.1
      have cHQA0 := HQA.out.2.1
      have cHp0 := Hp.out.2.1
      have cHp1 := Hp.out.2.2.1
      have cHq0 := Hq.out.2.1
      have cHq1 := Hq.out.2.2.1
      go_wp2_with fail
      clear hWn
      clear cHA0 cHA20 cHV0 cHW0 cHAuzv0 cHAuzw0 cHPA0 cHQA0 cHp0 cHp1 cHq0 cHq1
      obtain ⟨W27, hWD⟩ : ∃ xw9, W26.drew = xw9 := ⟨_, rfl⟩
      have hB : Below W26.heap.size W26 W27 := by rw [← hWD]; exact Below.drewN' (Below.refl _ _) 1
      replace HB := Lib.hid (HB.out.trans (hB.mono HB.out.size))
      replace HT := Lib.hid (fun j hj => keep_below hB _ _ (HT.out j hj))
      replace HU := Lib.hid (HU.out.grow hB)
      replace HA := Lib.hid (HA.out.below hB)
      replace HU2 := Lib.hid (HU2.out.grow hB)
      replace HA2 := Lib.hid (HA2.out.below hB)
      replace HV := Lib.hid (HV.out.below hB)
      replace HW := Lib.hid (HW.out.below hB)
      replace HZv := Lib.hid (HZv.out.grow hB)
      replace HAuzv := Lib.hid (HAuzv.out.below hB)
      replace HZw := Lib.hid (HZw.out.grow hB)
      replace HAuzw := Lib.hid (HAuzw.out.below hB)
      replace HUP := Lib.hid (HUP.out.grow hB)
      replace HPA := Lib.hid (HPA.out.below hB)
      replace HUQ := Lib.hid (HUQ.out.grow hB)
      replace HQA := Lib.hid (HQA.out.below hB)
      replace Hvp := Lib.hid (Hvp.out.keep (keep_below hB))
      replace Hp := Lib.hid (Hp.out.below hB)
      replace Hvq := Lib.hid (Hvq.out.keep (keep_below hB))
      replace Hq := Lib.hid (Hq.out.below hB)
      clear hB
      refine wp_region_held_drew (S := fun w' => w'.cell? ⟨W23.heap.size, 0, none⟩ = some (.int .i64 Lp.length) ∧ w'.cell? ⟨W23.heap.size, 1, none⟩ = some (.slice ap ((Lp.length + 63) / 64) cp) ∧ w'.cell? ⟨W25.heap.size, 0, none⟩ = some (.int .i64 Lp.length) ∧ w'.cell? ⟨W25.heap.size, 1, none⟩ = some (.slice aq ((Lp.length + 63) / 64) cq)) (by kernel_rfl) (by rw [hWD]; exact ⟨Hp.out.2.1, Hp.out.2.2.1, Hq.out.2.1, Hq.out.2.2.1⟩) (fun hHeld => ?_)
      rw [hWD] at hHeld ⊢
      clear hWD
      refine wpAnyH_take (i := 0) (v := ?_) rfl (by kernel_rfl) (by kernel_rfl) (by kernel_rfl) (fun _ _ _ h => h) (Or.inl ⟨by rfl, ?_⟩) (by assumption) ?_
      rotate_left
      · (intro w hSw; (try dsimp only at hSw); go_simp; try with_reducible rfl)
      simp only [Act.put, List.getElem_toArray, List.getElem_cons_zero, List.setIfInBounds_toArray, List.set_cons_zero, List.set_cons_succ]
      refine wpAnyH_take (i := 1) (v := ?_) rfl (by kernel_rfl) (by kernel_rfl) (by kernel_rfl) (fun _ _ _ h => h) (Or.inl ⟨by rfl, ?_⟩) (by assumption) ?_
      rotate_left
      · (intro w hSw; (try dsimp only at hSw); go_simp; try with_reducible rfl)
      simp only [Act.put, List.getElem_toArray, List.getElem_cons_succ, List.getElem_cons_zero, List.setIfInBounds_toArray, List.set_cons_zero, List.set_cons_succ]
      refine wpAnyH_take (i := 2) (v := ?_) rfl (by kernel_rfl) (by kernel_rfl) (by kernel_rfl) (fun _ _ _ h => h) (Or.inl ⟨by rfl, ?_⟩) (by assumption) ?_
      rotate_left
      · (intro w hSw; (try dsimp only at hSw); go_simp; try with_reducible rfl)
      simp only [Act.put, List.getElem_toArray, List.getElem_cons_succ, List.getElem_cons_zero, List.setIfInBounds_toArray, List.set_cons_zero, List.set_cons_succ]
      refine wpAnyH_take (i := 3) (v := ?_) rfl (by kernel_rfl) (by kernel_rfl) (by kernel_rfl) (fun _ _ _ h => h) (Or.inl ⟨by rfl, ?_⟩) (by assumption) ?_
      rotate_left
      · (intro w hSw; (try dsimp only at hSw); go_simp; try with_reducible rfl)
      simp only [Act.put, List.getElem_toArray, List.getElem_cons_succ, List.getElem_cons_zero, List.setIfInBounds_toArray, List.set_cons_zero, List.set_cons_succ]
      refine wpAnyH_take (i := 4) (v := ?_) rfl (by kernel_rfl) (by kernel_rfl) (by kernel_rfl) (fun _ _ _ h => h) (Or.inl ⟨by rfl, ?_⟩) (by assumption) ?_
      rotate_left
      · (intro w hSw; (try dsimp only at hSw); go_simp; try with_reducible rfl)
      simp only [Act.put, List.getElem_toArray, List.getElem_cons_succ, List.getElem_cons_zero, List.setIfInBounds_toArray, List.set_cons_zero, List.set_cons_succ]
      refine wpAnyH_take (i := 6) (v := ?_) rfl (by kernel_rfl) (by kernel_rfl) (by kernel_rfl) (fun _ _ _ h => h) (Or.inl ⟨by rfl, ?_⟩) (by assumption) ?_
      rotate_left
      · (intro w hSw; (try dsimp only at hSw); go_simp; try with_reducible rfl)
      simp only [Act.put, List.getElem_toArray, List.getElem_cons_succ, List.getElem_cons_zero, List.setIfInBounds_toArray, List.set_cons_zero, List.set_cons_succ]
      refine wpAnyH_ready (rs := [5]) (by kernel_rfl) (by simp) ?_
      refine AllReadyH.cons (o := _) rfl (fun K hK => ?_) ?_
      · clear hHeld
        go_simp
        refine (unpack_slc _ Lp _ Hvp.out HPL.out).mono ?_
        rintro e W28 ⟨vn1, rfl, hvn, hB⟩
        replace HB := Lib.hid (HB.out.trans (hB.mono HB.out.size))
        replace HT := Lib.hid (fun j hj => keep_below hB _ _ (HT.out j hj))
        replace HU := Lib.hid (HU.out.grow hB)
        replace HA := Lib.hid (HA.out.below hB)
        replace HU2 := Lib.hid (HU2.out.grow hB)
        replace HA2 := Lib.hid (HA2.out.below hB)
        replace HV := Lib.hid (HV.out.below hB)
        replace HW := Lib.hid (HW.out.below hB)
        replace HZv := Lib.hid (HZv.out.grow hB)
        replace HAuzv := Lib.hid (HAuzv.out.below hB)
        replace HZw := Lib.hid (HZw.out.grow hB)
        replace HAuzw := Lib.hid (HAuzw.out.below hB)
        replace HUP := Lib.hid (HUP.out.grow hB)
        replace HPA := Lib.hid (HPA.out.below hB)
        replace HUQ := Lib.hid (HUQ.out.grow hB)
        replace HQA := Lib.hid (HQA.out.below hB)
        replace Hvp := Lib.hid (Hvp.out.keep (keep_below hB))
        replace Hp := Lib.hid (Hp.out.below hB)
        replace Hvq := Lib.hid (Hvq.out.keep (keep_below hB))
        replace Hq := Lib.hid (Hq.out.below hB)
        have HVN1 := Lib.hid hvn.any
        clear hvn
        clear hB
        refine hK.out _ _ ?_ (fun hHeld => ?_)
        · exact ⟨Hp.out.2.1, Hp.out.2.2.1, Hq.out.2.1, Hq.out.2.2.1⟩
        clear hK K
        refine wpAnyH_ready (rs := [7]) (by kernel_rfl) (by simp) ?_
        refine AllReadyH.cons (o := _) rfl (fun K hK => ?_) ?_
        · clear hHeld
          go_simp
          refine (unpack_slc _ Lp _ Hvq.out HPL.out).mono ?_
          rintro e W29 ⟨vn2, rfl, hvn, hB⟩
          replace HB := Lib.hid (HB.out.trans (hB.mono HB.out.size))
          replace HT := Lib.hid (fun j hj => keep_below hB _ _ (HT.out j hj))
          replace HU := Lib.hid (HU.out.grow hB)
          replace HA := Lib.hid (HA.out.below hB)
          replace HU2 := Lib.hid (HU2.out.grow hB)
          replace HA2 := Lib.hid (HA2.out.below hB)
          replace HV := Lib.hid (HV.out.below hB)
          replace HW := Lib.hid (HW.out.below hB)
          replace HZv := Lib.hid (HZv.out.grow hB)
          replace HAuzv := Lib.hid (HAuzv.out.below hB)
          replace HZw := Lib.hid (HZw.out.grow hB)
          replace HAuzw := Lib.hid (HAuzw.out.below hB)
          replace HUP := Lib.hid (HUP.out.grow hB)
          replace HPA := Lib.hid (HPA.out.below hB)
          replace HUQ := Lib.hid (HUQ.out.grow hB)
          replace HQA := Lib.hid (HQA.out.below hB)
          replace Hvp := Lib.hid (Hvp.out.keep (keep_below hB))
          replace Hp := Lib.hid (Hp.out.below hB)
          replace Hvq := Lib.hid (Hvq.out.keep (keep_below hB))
          replace Hq := Lib.hid (Hq.out.below hB)
          replace HVN1 := Lib.hid (HVN1.out.below hB)
          have HVN2 := Lib.hid hvn.any
          clear hvn
          clear hB
          refine hK.out _ _ ?_ (fun hHeld => ?_)
          · exact ⟨Hp.out.2.1, Hp.out.2.2.1, Hq.out.2.1, Hq.out.2.2.1⟩
          clear hK K
          refine wpAnyH_ready (rs := [8]) (by kernel_rfl) (by simp) ?_
          refine AllReadyH.cons (o := _) rfl (fun K hK => ?_) ?_
          · clear hHeld
            go_simp
            refine (bools_calls _ _ Lp Lp _ HVN1.out.1.sl HVN2.out.1.sl (by have := HPL.out; unfold maxLen; omega)).mono ?_
            rintro e W30 ⟨rfl, hB⟩
            replace HB := Lib.hid (HB.out.trans (hB.mono HB.out.size))
            replace HT := Lib.hid (fun j hj => keep_below hB _ _ (HT.out j hj))
            replace HU := Lib.hid (HU.out.grow hB)
            replace HA := Lib.hid (HA.out.below hB)
            replace HU2 := Lib.hid (HU2.out.grow hB)
            replace HA2 := Lib.hid (HA2.out.below hB)
            replace HV := Lib.hid (HV.out.below hB)
            replace HW := Lib.hid (HW.out.below hB)
            replace HZv := Lib.hid (HZv.out.grow hB)
            replace HAuzv := Lib.hid (HAuzv.out.below hB)
            replace HZw := Lib.hid (HZw.out.grow hB)
            replace HAuzw := Lib.hid (HAuzw.out.below hB)
            replace HUP := Lib.hid (HUP.out.grow hB)
            replace HPA := Lib.hid (HPA.out.below hB)
            replace HUQ := Lib.hid (HUQ.out.grow hB)
            replace HQA := Lib.hid (HQA.out.below hB)
            replace Hvp := Lib.hid (Hvp.out.keep (keep_below hB))
            replace Hp := Lib.hid (Hp.out.below hB)
            replace Hvq := Lib.hid (Hvq.out.keep (keep_below hB))
            replace Hq := Lib.hid (Hq.out.below hB)
            replace HVN1 := Lib.hid (HVN1.out.below hB)
            replace HVN2 := Lib.hid (HVN2.out.below hB)
            rw [beq_self_eq_true]
            clear hB
            refine hK.out _ _ ?_ (fun hHeld => ?_)
            · exact ⟨Hp.out.2.1, Hp.out.2.2.1, Hq.out.2.1, Hq.out.2.2.1⟩
            clear hK K
            refine wpAnyH_take (i := 9) (v := ?_) rfl (by kernel_rfl) (by kernel_rfl) (by kernel_rfl) (fun _ _ _ h => h) (Or.inl ⟨by rfl, ?_⟩) (by assumption) ?_
            rotate_left
            · (intro w hSw; (try dsimp only at hSw); go_simp; try with_reducible rfl)
            simp only [Act.put, List.getElem_toArray, List.getElem_cons_succ, List.getElem_cons_zero, List.setIfInBounds_toArray, List.set_cons_zero, List.set_cons_succ]
            refine wpAnyH_take (i := 10) (v := ?_) rfl (by kernel_rfl) (by kernel_rfl) (by kernel_rfl) (fun _ _ _ h => h) (Or.inl ⟨by rfl, ?_⟩) (by assumption) ?_
            rotate_left
            · (intro w hSw; (try dsimp only at hSw); go_simp; try with_reducible rfl)
            simp only [Act.put, List.getElem_toArray, List.getElem_cons_succ, List.getElem_cons_zero, List.setIfInBounds_toArray, List.set_cons_zero, List.set_cons_succ]
            refine wpAnyH_ready (rs := [11]) (by kernel_rfl) (by simp) ?_
            refine AllReadyH.cons (o := _) rfl (fun K hK => ?_) ?_
            · clear hHeld
              go_simp
              refine (awake11_calls _ HT.out).mono ?_
              rintro e W31 ⟨rfl, hB⟩
              replace HB := Lib.hid (HB.out.trans (hB.mono HB.out.size))
              replace HT := Lib.hid (fun j hj => keep_below hB _ _ (HT.out j hj))
              replace HU := Lib.hid (HU.out.grow hB)
              replace HA := Lib.hid (HA.out.below hB)
              replace HU2 := Lib.hid (HU2.out.grow hB)
              replace HA2 := Lib.hid (HA2.out.below hB)
              replace HV := Lib.hid (HV.out.below hB)
              replace HW := Lib.hid (HW.out.below hB)
              replace HZv := Lib.hid (HZv.out.grow hB)
              replace HAuzv := Lib.hid (HAuzv.out.below hB)
              replace HZw := Lib.hid (HZw.out.grow hB)
              replace HAuzw := Lib.hid (HAuzw.out.below hB)
              replace HUP := Lib.hid (HUP.out.grow hB)
              replace HPA := Lib.hid (HPA.out.below hB)
              replace HUQ := Lib.hid (HUQ.out.grow hB)
              replace HQA := Lib.hid (HQA.out.below hB)
              replace Hvp := Lib.hid (Hvp.out.keep (keep_below hB))
              replace Hp := Lib.hid (Hp.out.below hB)
              replace Hvq := Lib.hid (Hvq.out.keep (keep_below hB))
              replace Hq := Lib.hid (Hq.out.below hB)
              replace HVN1 := Lib.hid (HVN1.out.below hB)
              replace HVN2 := Lib.hid (HVN2.out.below hB)
              clear hB
              refine hK.out _ _ ?_ (fun hHeld => ?_)
              · exact ⟨Hp.out.2.1, Hp.out.2.2.1, Hq.out.2.1, Hq.out.2.2.1⟩
              clear hK K
              refine wpAnyH_take (i := 12) (v := ?_) rfl (by kernel_rfl) (by kernel_rfl) (by kernel_rfl) (fun _ _ _ h => h) (Or.inl ⟨by rfl, ?_⟩) (by assumption) ?_
              rotate_left
              · (intro w hSw; (try dsimp only at hSw); go_simp; try with_reducible rfl)
              simp only [Act.put, List.getElem_toArray, List.getElem_cons_succ, List.getElem_cons_zero, List.setIfInBounds_toArray, List.set_cons_zero, List.set_cons_succ]
              refine wpAnyH_take (i := 13) (v := ?_) rfl (by kernel_rfl) (by kernel_rfl) (by kernel_rfl) (fun _ _ _ h => h) (Or.inl ⟨by rfl, ?_⟩) (by assumption) ?_
              rotate_left
              · (intro w hSw; (try dsimp only at hSw); go_simp; try with_reducible rfl)
              simp only [Act.put, List.getElem_toArray, List.getElem_cons_succ, List.getElem_cons_zero, List.setIfInBounds_toArray, List.set_cons_zero, List.set_cons_succ]
              refine wpAnyH_done (by kernel_rfl) ?_ _
              clear hHeld
              go_wp2
              go_ret
              exact ⟨rfl, HB.out⟩
            exact AllReadyH.nil
          exact AllReadyH.nil
        exact AllReadyH.nil
      exact AllReadyH.nil
end Go.Proofs.YtfbecmnlbjhjaaaDoor

/- Layer 11's law RelateStores, as the frame asks for it. -/
namespace Go.Proofs.YtfbecmnlbjhjaaaDoor
set_option maxRecDepth 100000
open Go.RowKit Fl
set_option linter.unusedVariables false
theorem relateStores_frame (w : World) (f : Int) (_ : (Lit.int .i64 f).wf = true) (v1 : Value) (a : List Nat) (hr1 : RowC w v1 (a.map (Value.float .f64))) (hz1 : ∀ z ∈ a, (Lit.float .f64 z).wf = true) (hm1 : a.length ≤ maxLen) (v2 : Value) (b : List Nat) (hr2 : RowC w v2 (b.map (Value.float .f64))) (hz2 : ∀ z ∈ b, (Lit.float .f64 z).wf = true) (hm2 : b.length ≤ maxLen) (j : Int) (_ : (Lit.int .i64 j).wf = true) (k : Int) (_ : (Lit.int .i64 k).wf = true) (hT : TabAt w) :
    Calls Tryd.prog 4 #[.int .i64 f, v1, v2, .int .i64 j, .int .i64 k] w fun e w' => e = .returned (.bool true) ∧ Below w.heap.size w w' :=
  relateStores_walk f v1 v2 a b j k w (by have := hr1.slc; rw [List.length_map] at this; exact this) (by have := hr2.slc; rw [List.length_map] at this; exact this) hm1 hm2 (fun x hx => wf_f64 (hz1 x hx)) (fun x hx => wf_f64 (hz2 x hx)) hT
end Go.Proofs.YtfbecmnlbjhjaaaDoor

/- Merged: FmA, FlN, FmB, FmC, FmD, FlO, FlP, FmE. -/
import Derived.Test.YtohjomhiibkobaaGreatDoorMgFl1
import Derived.Test.YtohjomhiibkobaaGreatDoorMgVa1
import Derived.Test.YtohjomhiibkobaaGreatDoorMgBv1
/- Package flat, walked: Join. -/
namespace Go.Proofs.YtohjomhiibkobaaGreatDoor
set_option maxRecDepth 100000
open Go.RowKit Fl
set_option linter.unusedVariables false

def comK : List (Value × VV) → Int
  | [] => 0 | p :: Z => comZ p.2.kind (p :: Z)
noncomputable def joinB (Z : List (Value × VV)) : Bool := if fullZ Z = [] then true else if comK (fullZ Z) = 0 ∨ 1048576 < lensZ (fullZ Z) then false else true
noncomputable def joinZ (Z : List (Value × VV)) : VV :=
  if fullZ Z = [] then noneV (clsZ Z) else if comK (fullZ Z) = 0 ∨ 1048576 < lensZ (fullZ Z) then .none else
  if comK (fullZ Z) = 1 then .bits ((fullZ Z).flatMap fun p => p.2.packed) else if comK (fullZ Z) = 5 then .chars ((fullZ Z).flatMap fun p => p.2.text) else
  if comK (fullZ Z) = 6 then .boxes ((fullZ Z).flatMap fun p => p.2.boxs) else (VV.floats ((fullZ Z).flatMap fun p => p.2.nums)).sq
/-- What a join takes: vectors that are as they should be. -/
def JoinIn (Z : List (Value × VV)) : Prop := ∀ p ∈ Z, p.2.ok ∧ p.2.nm ∧ ∀ a ∈ p.2.boxs, a.1.length ≤ 1048576
theorem fullZ_mem {Z : List (Value × VV)} {p : Value × VV} (h : p ∈ fullZ Z) : p ∈ Z ∧ 0 < p.2.len := by
  unfold fullZ at h
  have := List.mem_filter.1 h
  exact ⟨this.1, by simpa using this.2⟩
theorem fullZ_len (Z : List (Value × VV)) : (fullZ Z).length ≤ Z.length := List.length_filter_le _ _
theorem commonK_keep {a b : Int} (h : commonK a b ≠ 0) : a ≠ 0 ∧ ((a = b ∧ commonK a b = a) ∨ ((1 ≤ a ∧ a ≤ 4) ∧ (1 ≤ b ∧ b ≤ 4) ∧ commonK a b = max a b)) := by
  unfold commonK at h ⊢
  by_cases e : a = b
  · rw [if_pos e] at h ⊢; exact ⟨h, Or.inl ⟨e, rfl⟩⟩
  · rw [if_neg e] at h ⊢
    by_cases e2 : (1 ≤ a ∧ a ≤ 4) ∧ 1 ≤ b ∧ b ≤ 4
    · rw [if_pos e2]; exact ⟨by omega, Or.inr ⟨e2.1, e2.2, rfl⟩⟩
    · rw [if_neg e2] at h; exact absurd rfl h
/-- What all have where a common kind is found. -/
theorem comZ_all {Z : List (Value × VV)} : ∀ {k0 : Int}, comZ k0 Z ≠ 0 → k0 ≠ 0 ∧ (1 ≤ comZ k0 Z ∧ comZ k0 Z ≤ 4 → (1 ≤ k0 ∧ k0 ≤ comZ k0 Z) ∧ ∀ p ∈ Z, 1 ≤ p.2.kind ∧ p.2.kind ≤ comZ k0 Z) ∧ (¬ (1 ≤ comZ k0 Z ∧ comZ k0 Z ≤ 4) → k0 = comZ k0 Z ∧ ∀ p ∈ Z, p.2.kind = comZ k0 Z) := by
  induction Z with
  | nil => intro k0 h; exact ⟨h, fun h1 => ⟨⟨h1.1, Int.le_refl _⟩, fun p hp => by cases hp⟩, fun _ => ⟨rfl, fun p hp => by cases hp⟩⟩
  | cons q Z ih =>
    intro k0 h
    obtain ⟨r, hr⟩ : ∃ r, r = commonK k0 q.2.kind := ⟨_, rfl⟩
    have e : comZ k0 (q :: Z) = comZ r Z := by rw [hr]; rfl
    rw [e] at h ⊢
    obtain ⟨h1, h2, h3⟩ := ih h
    obtain ⟨h4, h5⟩ := commonK_keep (by rw [← hr]; exact h1)
    rw [← hr] at h5
    refine ⟨h4, fun hr => ?_, fun hr => ?_⟩
    · obtain ⟨⟨a1, a2⟩, a3⟩ := h2 hr
      rcases h5 with ⟨b1, b2⟩ | ⟨b1, b2, b3⟩
      · refine ⟨⟨by omega, by omega⟩, fun p hp => ?_⟩
        rcases List.mem_cons.1 hp with rfl | hp
        · exact ⟨by omega, by omega⟩
        · exact a3 p hp
      · refine ⟨⟨b1.1, by omega⟩, fun p hp => ?_⟩
        rcases List.mem_cons.1 hp with rfl | hp
        · exact ⟨b2.1, by omega⟩
        · exact a3 p hp
    · obtain ⟨a1, a2⟩ := h3 hr
      rcases h5 with ⟨b1, b2⟩ | ⟨b1, b2, b3⟩
      · refine ⟨by omega, fun p hp => ?_⟩
        rcases List.mem_cons.1 hp with rfl | hp
        · omega
        · exact a2 p hp
      · exfalso; apply hr; omega
theorem flat_sum {α : Type} {Z : List (Value × VV)} {f : VV → List α} (h : ∀ p ∈ Z, (f p.2).length = p.2.len) : (Z.flatMap fun p => f p.2).length = lensZ Z := by
  induction Z with
  | nil => rfl
  | cons p Z ih =>
    rw [List.flatMap_cons, List.length_append, h p (List.mem_cons_self ..), ih (fun q hq => h q (List.mem_cons_of_mem _ hq))]
    simp [lensZ]
theorem VV.kind_bit {V : VV} (h : V.kind = 1) : V.isBit = true := by cases V <;> simp_all [VV.kind, VV.isBit]
theorem VV.kind_char {V : VV} (h : V.kind = 5) : V.cls = 1 := by cases V <;> simp_all [VV.kind, VV.cls]
theorem VV.kind_box {V : VV} (h : V.kind = 6) : V.cls = 2 := by cases V <;> simp_all [VV.kind, VV.cls]
theorem VV.kind_num {V : VV} (h : 1 ≤ V.kind ∧ V.kind ≤ 4) : V.cls = 0 := by cases V <;> simp_all [VV.kind, VV.cls]
theorem VV.kind_le (V : VV) : 0 ≤ V.kind ∧ V.kind ≤ 6 := by cases V <;> simp [VV.kind]

set_option maxHeartbeats 8000000 in
theorem fjoin_calls {ok : Nat → Prop} (v : Value) (Z : List (Value × VV)) (w : World) (hz : VecsZ w ok v Z) (hm : Z.length ≤ 1000000) (hin : JoinIn Z) (hT : TabAt w) :
    Calls Tryz.prog 36 #[v] w fun e w' => ∃ u, e = .returned (.tuple #[.agg #[u], .bool (joinB Z)]) ∧ IsV w' (fun b => (ok b ∧ b < w.heap.size) ∨ w.heap.size ≤ b) u (joinZ Z) ∧ Below w.heap.size w w' := by
  obtain ⟨ao, cap, rfl, _⟩ := hz.1.opened
  obtain ⟨W1, hW1⟩ : ∃ W1, W1 = w.alloc (.cells #[.nilIface] 32) := ⟨_, rfl⟩
  have HB := Lib.hid (show Below w.heap.size w W1 by rw [hW1]; exact below_new _ _)
  have HR := Lib.hid (show At1 W1 w.heap.size .nilIface by rw [hW1]; exact At1.new w _ _)
  have HZ := Lib.hid (show VecsZ W1 (fun b => ok b ∧ b < w.heap.size) (.slice ao Z.length cap) Z from hz.keep (Kept.below HB.out) (fun b h h2 => ⟨h2, h⟩))
  have HT := Lib.hid (show TabAt W1 from fun j hj => keep_below HB.out _ _ (hT j hj))
  have HIN := Lib.hid hin
  have HSZ := Lib.hid (show w.heap.size < W1.heap.size from HR.out.1)
  have HW1 := Lib.hid (Below.refl W1.heap.size W1)
  have hfold := hW1.symm
  obtain ⟨F, hF⟩ : ∃ F, F = fullZ Z := ⟨_, rfl⟩
  have HF := Lib.hid hF
  have HFI := Lib.hid (show JoinIn F by rw [hF]; exact fun p hp => hin p (fullZ_mem hp).1)
  have HFM := Lib.hid (show F.length ≤ 1000000 by rw [hF]; exact Nat.le_trans (fullZ_len Z) hm)
  have HFP := Lib.hid (show ∀ p ∈ F, 0 < p.2.len by rw [hF]; exact fun p hp => (fullZ_mem hp).2)
  clear hz hT hin hW1 hF
  go_enter Tryz.func36, Tryz.ntmps36
  go_wp2_with fail
  clear hfold
  have HO := HW1.out.size
  refine (withElements_calls _ Z _ HZ.out (by omega)).mono ?_
  rintro e W11 ⟨vf, rfl, hvf, hB⟩
  replace HR := Lib.hid (HR.out.below hB)
  replace HB := Lib.hid (HB.out.trans (hB.mono HB.out.size))
  replace HW1 := Lib.hid (HW1.out.trans (hB.mono HW1.out.size))
  replace HZ := Lib.hid (HZ.out.keep (Kept.below hB) (fun _ _ h => h))
  replace HT := Lib.hid (fun j hj => keep_below hB _ _ (HT.out j hj))
  rw [← HF.out] at hvf
  have HZF := Lib.hid (show VecsZ W11 (fun b => (ok b ∧ b < w.heap.size) ∨ w.heap.size < b) vf F from ⟨hvf.keep (Kept.refl _ _) (fun b _ (h : _ ≤ b) => Or.inr (by have := HSZ.out; omega)), fun p hp => (HZ.out.2 p (by rw [HF.out] at hp; exact (fullZ_mem hp).1)).wide (fun b _ h => Or.inl h)⟩)
  obtain ⟨fo, fc, rfl, _⟩ := hvf.opened
  clear hvf HO
  clear hB
  obtain ⟨n, hn⟩ : ∃ n, n = F.length := ⟨_, rfl⟩
  have HN := Lib.hid hn
  rw [← hn] at HZF ⊢
  by_cases hcF : F = []
  · have HFN := Lib.hid (show fullZ Z = [] by rw [← HF.out]; exact hcF)
    obtain rfl : n = 0 := by rw [hn, hcF]; rfl
    clear hcF hn
    have cHR0 := HR.out.2.1
    go_wp2_with fail
    have HJB := Lib.hid (show joinB Z = true from if_pos HFN.out)
    have HJZ := Lib.hid (show joinZ Z = noneV (clsZ Z) from if_pos HFN.out)
    refine (firstClass_calls _ Z _ HZ.out).mono ?_
    rintro e W12 ⟨rfl, hB⟩
    clear cHR0
    replace HR := Lib.hid (HR.out.below hB)
    replace HB := Lib.hid (HB.out.trans (hB.mono HB.out.size))
    replace HW1 := Lib.hid (HW1.out.trans (hB.mono HW1.out.size))
    replace HZ := Lib.hid (HZ.out.keep (Kept.below hB) (fun _ _ h => h))
    replace HT := Lib.hid (fun j hj => keep_below hB _ _ (HT.out j hj))
    replace HZF := Lib.hid (HZF.out.keep (Kept.below hB) (fun _ _ h => h))
    clear hB
    have cHR0 := HR.out.2.1
    go_wp2_with fail
    have HO := HW1.out.size
    refine (vnone_calls (clsZ Z) _).mono ?_
    rintro e W13 ⟨uq, rfl, huq, hB⟩
    clear cHR0
    replace HR := Lib.hid (HR.out.below hB)
    replace HB := Lib.hid (HB.out.trans (hB.mono HB.out.size))
    replace HW1 := Lib.hid (HW1.out.trans (hB.mono HW1.out.size))
    replace HZ := Lib.hid (HZ.out.keep (Kept.below hB) (fun _ _ h => h))
    replace HT := Lib.hid (fun j hj => keep_below hB _ _ (HT.out j hj))
    replace HZF := Lib.hid (HZF.out.keep (Kept.below hB) (fun _ _ h => h))
    have HQ := Lib.hid (show IsV W13 (fun b => (ok b ∧ b < w.heap.size) ∨ w.heap.size < b) uq (noneV (clsZ Z)) from huq.wide (fun b _ h => by have h : _ ≤ b := h; exact Or.inr (by have := HSZ.out; omega)))
    have hsq := huq.store
    clear huq HO
    clear hB
    have cHR0 := HR.out.2.1
    have zHR0 := HR.out.2.2 0
    go_wp2_with fail
    refine bodyPost_ret (v := .tuple #[.agg #[uq], .bool true]) (by simp [results, Tryz.results36, go_sem, cHR0, World.cell?_setCell_same]) rfl ⟨uq, by rw [HJB.out], ?_, HB.out.setCell (Nat.le_refl _) _⟩
    rw [HJZ.out]
    exact (HQ.out.keep (Kept.setCell _ _ _ (by simp)) (fun _ _ h => h)).wide (fun b _ h => h.imp id Nat.le_of_lt)
  obtain ⟨p0, F0, hp0⟩ := List.exists_cons_of_ne_nil hcF
  have HCF := Lib.hid hp0
  have hl0 : ((n : Int) == 0) = false := by rw [beq_eq_false_iff_ne, hn, hp0]; simp; omega
  have HFN := Lib.hid (show ¬ fullZ Z = [] by rw [← HF.out]; exact hcF)
  obtain ⟨kd, hkd⟩ : ∃ kd, kd = comK F := ⟨_, rfl⟩
  have HKD := Lib.hid hkd
  have HJB0 := Lib.hid (show joinB Z = if kd = 0 ∨ 1048576 < lensZ F then false else true by rw [hkd, HF.out]; exact if_neg HFN.out)
  have HJZ0 := Lib.hid (show joinZ Z = if kd = 0 ∨ 1048576 < lensZ F then .none else
    if kd = 1 then .bits (F.flatMap fun p => p.2.packed) else if kd = 5 then .chars (F.flatMap fun p => p.2.text) else
    if kd = 6 then .boxes (F.flatMap fun p => p.2.boxs) else (VV.floats (F.flatMap fun p => p.2.nums)).sq by rw [hkd, HF.out]; exact if_neg HFN.out)
  have HKA := Lib.hid (show kd ≠ 0 → (1 ≤ kd ∧ kd ≤ 4 → ∀ p ∈ F, 1 ≤ p.2.kind ∧ p.2.kind ≤ kd) ∧ (¬ (1 ≤ kd ∧ kd ≤ 4) → ∀ p ∈ F, p.2.kind = kd) by
    have e : kd = comZ p0.2.kind F := by rw [hkd, hp0]; rfl
    intro h
    rw [e] at h ⊢
    exact ⟨fun h1 => ((comZ_all h).2.1 h1).2, fun h1 => ((comZ_all h).2.2 h1).2⟩)
  clear hcF hn hp0 hkd
  have cHR0 := HR.out.2.1
  go_wp2_with fail
  refine (commonKind_calls _ p0 F0 _ (show VecsZ _ (fun b => (ok b ∧ b < w.heap.size) ∨ w.heap.size < b) _ (p0 :: F0) by rw [← HCF.out]; exact HZF.out) (by have := HFM.out; rw [HCF.out] at this; omega)).mono ?_
  rintro e W12 ⟨rfl, hB⟩
  clear cHR0
  replace HR := Lib.hid (HR.out.below hB)
  replace HB := Lib.hid (HB.out.trans (hB.mono HB.out.size))
  replace HW1 := Lib.hid (HW1.out.trans (hB.mono HW1.out.size))
  replace HZ := Lib.hid (HZ.out.keep (Kept.below hB) (fun _ _ h => h))
  replace HT := Lib.hid (fun j hj => keep_below hB _ _ (HT.out j hj))
  replace HZF := Lib.hid (HZF.out.keep (Kept.below hB) (fun _ _ h => h))
  rw [show comZ p0.2.kind (p0 :: F0) = kd from by rw [HKD.out, HCF.out]; rfl]
  clear hB
  by_cases hk0 : kd = 0
  · have HJB := Lib.hid (show joinB Z = false by rw [HJB0.out]; exact if_pos (Or.inl hk0))
    have HJZ := Lib.hid (show joinZ Z = .none by rw [HJZ0.out]; exact if_pos (Or.inl hk0))
    have hke : (kd == 0) = true := by simpa using hk0
    clear hk0
    have cHR0 := HR.out.2.1
    have zHR0 := HR.out.2.2 0
    go_wp2_with fail
    refine bodyPost_ret (v := .tuple #[.agg #[.nilIface], .bool false]) (by simp [results, Tryz.results36, go_sem, cHR0, World.cell?_setCell_same]) rfl ⟨.nilIface, by rw [HJB.out], ?_, HB.out.setCell (Nat.le_refl _) _⟩
    rw [HJZ.out]
    exact ((IsV.none (ok := fun b => (ok b ∧ b < w.heap.size) ∨ w.heap.size < b)).keep (Kept.setCell _ _ _ (by simp)) (fun _ _ h => h)).wide (fun b _ h => h.imp id Nat.le_of_lt)
  have HK0 := Lib.hid hk0
  have hke : (kd == 0) = false := by simpa using hk0
  clear hk0
  have cHR0 := HR.out.2.1
  go_wp2_with fail
  refine (fit_calls _ F _ HZF.out (fun p hp => VV.ok_len (HFI.out p hp).1) (by have := HFM.out; omega)).mono ?_
  rintro e W13 ⟨rfl, hB⟩
  clear cHR0
  replace HR := Lib.hid (HR.out.below hB)
  replace HB := Lib.hid (HB.out.trans (hB.mono HB.out.size))
  replace HW1 := Lib.hid (HW1.out.trans (hB.mono HW1.out.size))
  replace HZ := Lib.hid (HZ.out.keep (Kept.below hB) (fun _ _ h => h))
  replace HT := Lib.hid (fun j hj => keep_below hB _ _ (HT.out j hj))
  replace HZF := Lib.hid (HZF.out.keep (Kept.below hB) (fun _ _ h => h))
  clear hB
  by_cases hft : lensZ F ≤ 1048576
  rotate_left
  · have HJB := Lib.hid (show joinB Z = false by rw [HJB0.out]; exact if_pos (Or.inr (by omega)))
    have HJZ := Lib.hid (show joinZ Z = .none by rw [HJZ0.out]; exact if_pos (Or.inr (by omega)))
    rw [decide_eq_false hft]
    clear hft
    have cHR0 := HR.out.2.1
    have zHR0 := HR.out.2.2 0
    go_wp2_with fail
    refine bodyPost_ret (v := .tuple #[.agg #[.nilIface], .bool false]) (by simp [results, Tryz.results36, go_sem, cHR0, World.cell?_setCell_same]) rfl ⟨.nilIface, by rw [HJB.out], ?_, HB.out.setCell (Nat.le_refl _) _⟩
    rw [HJZ.out]
    exact ((IsV.none (ok := fun b => (ok b ∧ b < w.heap.size) ∨ w.heap.size < b)).keep (Kept.setCell _ _ _ (by simp)) (fun _ _ h => h)).wide (fun b _ h => h.imp id Nat.le_of_lt)
  have HFT := Lib.hid hft
  have HNB := Lib.hid (show ¬ (kd = 0 ∨ 1048576 < lensZ F) by have := HK0.out; omega)
  have HJB := Lib.hid (show joinB Z = true by rw [HJB0.out]; exact if_neg HNB.out)
  rw [decide_eq_true hft]
  clear hft
  by_cases hk1 : kd = 1
  · have HKN := Lib.hid hk1
    have hke1 : (kd == 1) = true := by simpa using hk1
    clear hk1
    have HKS := Lib.hid (fun p hp => VV.kind_bit (show VV.kind (p : Value × VV).2 = 1 by have := ((HKA.out HK0.out).1 (by have := HKN.out; omega)) p hp; have := HKN.out; omega) : ∀ p ∈ F, VV.isBit p.2 = true)
    have HSM := Lib.hid (show (F.flatMap fun p => p.2.packed).length ≤ 1048576 by rw [flat_sum (f := VV.packed) (fun p hp => VV.packed_len (HKS.out p hp))]; exact HFT.out)
    obtain ⟨L, hL⟩ : ∃ L, L = F.flatMap fun p => p.2.packed := ⟨_, rfl⟩
    have HLE := Lib.hid hL
    have HLM := Lib.hid (show L.length ≤ 1048576 by rw [hL]; exact HSM.out)
    clear hL
    have HJZ := Lib.hid (show joinZ Z = .bits L by rw [HJZ0.out, if_neg HNB.out, if_pos HKN.out, HLE.out])
    have cHR0 := HR.out.2.1
    go_wp2_with fail
    have HO := HW1.out.size
    refine (joinB_calls _ F _ HZF.out HFM.out (fun p hp => (HFI.out p hp).1) (by have := HSM.out; omega) HT.out).mono ?_
    rintro e W14 ⟨vc, rfl, hvc, hB⟩
    clear cHR0
    replace HR := Lib.hid (HR.out.below hB)
    replace HB := Lib.hid (HB.out.trans (hB.mono HB.out.size))
    replace HW1 := Lib.hid (HW1.out.trans (hB.mono HW1.out.size))
    replace HZ := Lib.hid (HZ.out.keep (Kept.below hB) (fun _ _ h => h))
    replace HT := Lib.hid (fun j hj => keep_below hB _ _ (HT.out j hj))
    replace HZF := Lib.hid (HZF.out.keep (Kept.below hB) (fun _ _ h => h))
    rw [← HLE.out] at hvc
    have HVC := Lib.hid (show Slc W14 (fun b => (ok b ∧ b < w.heap.size) ∨ w.heap.size < b) vc L.length (bools L) from hvc.keep (Kept.refl _ _) (fun b _ (h : _ ≤ b) => Or.inr (by have := HSZ.out; omega)))
    obtain ⟨co, cc, rfl, _⟩ := HVC.out.opened
    clear hvc HO
    clear hB
    have cHR0 := HR.out.2.1
    go_wp2_with fail
    have HO := HW1.out.size
    refine (pack_fresh _ L _ HVC.out.1.sl HLM.out).mono ?_
    rintro e W15 ⟨vp, rfl, hvp, hB⟩
    clear cHR0
    replace HR := Lib.hid (HR.out.below hB)
    replace HB := Lib.hid (HB.out.trans (hB.mono HB.out.size))
    replace HW1 := Lib.hid (HW1.out.trans (hB.mono HW1.out.size))
    replace HZ := Lib.hid (HZ.out.keep (Kept.below hB) (fun _ _ h => h))
    replace HT := Lib.hid (fun j hj => keep_below hB _ _ (HT.out j hj))
    replace HZF := Lib.hid (HZF.out.keep (Kept.below hB) (fun _ _ h => h))
    replace HVC := Lib.hid (HVC.out.below hB)
    have HVP := Lib.hid (show IsBitsX W15 (fun b => (ok b ∧ b < w.heap.size) ∨ w.heap.size < b) vp L from hvp.keep (Kept.refl _ _) (fun b _ (h : _ ≤ b) => Or.inr (by have := HSZ.out; omega)))
    clear hvp HO
    clear hB
    have cHR0 := HR.out.2.1
    go_wp2_with fail
    refine (vbits_ok _ L _ HVP.out HLM.out).mono ?_
    rintro e W16 ⟨uq, rfl, huq, hB⟩
    clear cHR0
    replace HR := Lib.hid (HR.out.below hB)
    replace HB := Lib.hid (HB.out.trans (hB.mono HB.out.size))
    replace HW1 := Lib.hid (HW1.out.trans (hB.mono HW1.out.size))
    replace HZ := Lib.hid (HZ.out.keep (Kept.below hB) (fun _ _ h => h))
    replace HT := Lib.hid (fun j hj => keep_below hB _ _ (HT.out j hj))
    replace HZF := Lib.hid (HZF.out.keep (Kept.below hB) (fun _ _ h => h))
    replace HVC := Lib.hid (HVC.out.below hB)
    replace HVP := Lib.hid (HVP.out.keep (Kept.below hB) (fun _ _ h => h))
    have HQ := Lib.hid huq
    have hsq := huq.store
    clear huq
    clear hB
    have cHR0 := HR.out.2.1
    have zHR0 := HR.out.2.2 0
    go_wp2_with fail
    refine bodyPost_ret (v := .tuple #[.agg #[uq], .bool true]) (by simp [results, Tryz.results36, go_sem, cHR0, World.cell?_setCell_same]) rfl ⟨uq, by rw [HJB.out], ?_, HB.out.setCell (Nat.le_refl _) _⟩
    rw [HJZ.out]
    exact (HQ.out.keep (Kept.setCell _ _ _ (by simp)) (fun _ _ h => h)).wide (fun b _ h => h.imp id Nat.le_of_lt)
  have HK1 := Lib.hid hk1
  have hke1 : (kd == 1) = false := by simpa using hk1
  clear hk1
  by_cases hk5 : kd = 5
  · have HKN := Lib.hid hk5
    have hke5 : (kd == 5) = true := by simpa using hk5
    clear hk5
    have HKS := Lib.hid (fun p hp => VV.kind_char (show VV.kind (p : Value × VV).2 = 5 by have := ((HKA.out HK0.out).2 (by have := HKN.out; omega)) p hp; have := HKN.out; omega) : ∀ p ∈ F, VV.cls p.2 = 1)
    have HSM := Lib.hid (show (F.flatMap fun p => p.2.text).length ≤ 1048576 by rw [flat_sum (f := VV.text) (fun p hp => VV.text_len (HKS.out p hp))]; exact HFT.out)
    obtain ⟨L, hL⟩ : ∃ L, L = F.flatMap fun p => p.2.text := ⟨_, rfl⟩
    have HLE := Lib.hid hL
    have HLM := Lib.hid (show L.length ≤ 1048576 by rw [hL]; exact HSM.out)
    clear hL
    have HJZ := Lib.hid (show joinZ Z = .chars L by rw [HJZ0.out, if_neg HNB.out, if_neg HK1.out, if_pos HKN.out, HLE.out])
    have cHR0 := HR.out.2.1
    go_wp2_with fail
    have HO := HW1.out.size
    refine (joinC_calls _ F _ HZF.out HFM.out (fun p hp => (HFI.out p hp).1) (by have := HSM.out; omega) HT.out).mono ?_
    rintro e W14 ⟨vc, rfl, hvc, hB⟩
    clear cHR0
    replace HR := Lib.hid (HR.out.below hB)
    replace HB := Lib.hid (HB.out.trans (hB.mono HB.out.size))
    replace HW1 := Lib.hid (HW1.out.trans (hB.mono HW1.out.size))
    replace HZ := Lib.hid (HZ.out.keep (Kept.below hB) (fun _ _ h => h))
    replace HT := Lib.hid (fun j hj => keep_below hB _ _ (HT.out j hj))
    replace HZF := Lib.hid (HZF.out.keep (Kept.below hB) (fun _ _ h => h))
    rw [← HLE.out] at hvc
    have HVC := Lib.hid (show Slc W14 (fun b => (ok b ∧ b < w.heap.size) ∨ w.heap.size < b) vc L.length (i32s L) from hvc.keep (Kept.refl _ _) (fun b _ (h : _ ≤ b) => Or.inr (by have := HSZ.out; omega)))
    obtain ⟨co, cc, rfl, _⟩ := HVC.out.opened
    clear hvc HO
    clear hB
    have cHR0 := HR.out.2.1
    go_wp2_with fail
    have HO := HW1.out.size
    refine (vchars_calls _ L _ HVC.out (by have := HLM.out; omega)).mono ?_
    rintro e W15 ⟨uq, rfl, huq, hB⟩
    clear cHR0
    replace HR := Lib.hid (HR.out.below hB)
    replace HB := Lib.hid (HB.out.trans (hB.mono HB.out.size))
    replace HW1 := Lib.hid (HW1.out.trans (hB.mono HW1.out.size))
    replace HZ := Lib.hid (HZ.out.keep (Kept.below hB) (fun _ _ h => h))
    replace HT := Lib.hid (fun j hj => keep_below hB _ _ (HT.out j hj))
    replace HZF := Lib.hid (HZF.out.keep (Kept.below hB) (fun _ _ h => h))
    replace HVC := Lib.hid (HVC.out.below hB)
    have HQ := Lib.hid (show IsV W15 (fun b => (ok b ∧ b < w.heap.size) ∨ w.heap.size < b) uq (.chars L) from huq.wide (fun b _ h => by have h : _ ≤ b := h; exact Or.inr (by have := HSZ.out; omega)))
    have hsq := huq.store
    clear huq HO
    clear hB
    have cHR0 := HR.out.2.1
    have zHR0 := HR.out.2.2 0
    go_wp2_with fail
    refine bodyPost_ret (v := .tuple #[.agg #[uq], .bool true]) (by simp [results, Tryz.results36, go_sem, cHR0, World.cell?_setCell_same]) rfl ⟨uq, by rw [HJB.out], ?_, HB.out.setCell (Nat.le_refl _) _⟩
    rw [HJZ.out]
    exact (HQ.out.keep (Kept.setCell _ _ _ (by simp)) (fun _ _ h => h)).wide (fun b _ h => h.imp id Nat.le_of_lt)
  have HK5 := Lib.hid hk5
  have hke5 : (kd == 5) = false := by simpa using hk5
  clear hk5
  by_cases hk6 : kd = 6
  · have HKN := Lib.hid hk6
    have hke6 : (kd == 6) = true := by simpa using hk6
    clear hk6
    have HKS := Lib.hid (fun p hp => VV.kind_box (show VV.kind (p : Value × VV).2 = 6 by have := ((HKA.out HK0.out).2 (by have := HKN.out; omega)) p hp; have := HKN.out; omega) : ∀ p ∈ F, VV.cls p.2 = 2)
    have HSM := Lib.hid (show (F.flatMap fun p => p.2.boxs).length ≤ 1048576 by rw [flat_sum (f := VV.boxs) (fun p hp => VV.boxs_len (HKS.out p hp))]; exact HFT.out)
    obtain ⟨L, hL⟩ : ∃ L, L = F.flatMap fun p => p.2.boxs := ⟨_, rfl⟩
    have HLE := Lib.hid hL
    have HLM := Lib.hid (show L.length ≤ 1048576 by rw [hL]; exact HSM.out)
    clear hL
    have HJZ := Lib.hid (show joinZ Z = .boxes L by rw [HJZ0.out, if_neg HNB.out, if_neg HK1.out, if_neg HK5.out, if_pos HKN.out, HLE.out])
    have cHR0 := HR.out.2.1
    go_wp2_with fail
    have HO := HW1.out.size
    refine (joinA_calls _ F _ HZF.out HFM.out (fun p hp => (HFI.out p hp).1) (fun p hp => by rw [VV.boxs_len (HKS.out p hp)]; exact HFP.out p hp) HSM.out HT.out).mono ?_
    rintro e W14 ⟨vc, rfl, hvc, hB⟩
    clear cHR0
    replace HR := Lib.hid (HR.out.below hB)
    replace HB := Lib.hid (HB.out.trans (hB.mono HB.out.size))
    replace HW1 := Lib.hid (HW1.out.trans (hB.mono HW1.out.size))
    replace HZ := Lib.hid (HZ.out.keep (Kept.below hB) (fun _ _ h => h))
    replace HT := Lib.hid (fun j hj => keep_below hB _ _ (HT.out j hj))
    replace HZF := Lib.hid (HZF.out.keep (Kept.below hB) (fun _ _ h => h))
    rw [← HLE.out] at hvc
    have HVC := Lib.hid (show Arrs W14 (fun b => (ok b ∧ b < w.heap.size) ∨ w.heap.size < b) vc L from hvc.keep (Kept.refl _ _) (fun b _ h => by rcases h with h | h; exact h.1; exact Or.inr (by have := HSZ.out; omega)))
    obtain ⟨co, cc, rfl, _⟩ := HVC.out.len
    clear hvc HO
    clear hB
    have cHR0 := HR.out.2.1
    go_wp2_with fail
    have HO := HW1.out.size
    refine (vboxes_calls _ L _ HVC.out HLM.out (fun a ha => by rw [HLE.out] at ha; obtain ⟨p, hp, hap⟩ := List.mem_flatMap.1 ha; exact (HFI.out p hp).2.2 a hap)).mono ?_
    rintro e W15 ⟨uq, rfl, huq, hB⟩
    clear cHR0
    replace HR := Lib.hid (HR.out.below hB)
    replace HB := Lib.hid (HB.out.trans (hB.mono HB.out.size))
    replace HW1 := Lib.hid (HW1.out.trans (hB.mono HW1.out.size))
    replace HZ := Lib.hid (HZ.out.keep (Kept.below hB) (fun _ _ h => h))
    replace HT := Lib.hid (fun j hj => keep_below hB _ _ (HT.out j hj))
    replace HZF := Lib.hid (HZF.out.keep (Kept.below hB) (fun _ _ h => h))
    replace HVC := Lib.hid (HVC.out.grow hB)
    have HQ := Lib.hid (show IsV W15 (fun b => (ok b ∧ b < w.heap.size) ∨ w.heap.size < b) uq (.boxes L) from huq.wide (fun b _ h => by rcases h with h | h; exact h.1; exact Or.inr (by have := HSZ.out; omega)))
    have hsq := huq.store
    clear huq HO
    clear hB
    have cHR0 := HR.out.2.1
    have zHR0 := HR.out.2.2 0
    go_wp2_with fail
    refine bodyPost_ret (v := .tuple #[.agg #[uq], .bool true]) (by simp [results, Tryz.results36, go_sem, cHR0, World.cell?_setCell_same]) rfl ⟨uq, by rw [HJB.out], ?_, HB.out.setCell (Nat.le_refl _) _⟩
    rw [HJZ.out]
    exact (HQ.out.keep (Kept.setCell _ _ _ (by simp)) (fun _ _ h => h)).wide (fun b _ h => h.imp id Nat.le_of_lt)
  have HK6 := Lib.hid hk6
  have hke6 : (kd == 6) = false := by simpa using hk6
  clear hk6
  have HKS := Lib.hid (fun p hp => VV.kind_num (show 1 ≤ VV.kind (p : Value × VV).2 ∧ VV.kind p.2 ≤ 4 by
    have h0 := HK0.out
    by_cases hr : 1 ≤ kd ∧ kd ≤ 4
    · have := ((HKA.out h0).1 hr) p hp; omega
    · have := ((HKA.out h0).2 hr) p hp; have := VV.kind_le p.2; have := HK5.out; have := HK6.out; omega) : ∀ p ∈ F, VV.cls p.2 = 0)
  have HSM := Lib.hid (show (F.flatMap fun p => p.2.nums).length ≤ 1048576 by rw [flat_sum (f := VV.nums) (fun p hp => VV.nums_length (HKS.out p hp))]; exact HFT.out)
  obtain ⟨L, hL⟩ : ∃ L, L = F.flatMap fun p => p.2.nums := ⟨_, rfl⟩
  have HLE := Lib.hid hL
  have HLM := Lib.hid (show L.length ≤ 1048576 by rw [hL]; exact HSM.out)
  clear hL
  have HJZ := Lib.hid (show joinZ Z = (VV.floats L).sq by rw [HJZ0.out, if_neg HNB.out, if_neg HK1.out, if_neg HK5.out, if_neg HK6.out, HLE.out])
  have HLU := Lib.hid (show ∀ x ∈ L, Num x by rw [HLE.out]; intro x hx; obtain ⟨p, hp, hxp⟩ := List.mem_flatMap.1 hx; exact VV.nums_num (HFI.out p hp).1 (HFI.out p hp).2.1 x hxp)
  have cHR0 := HR.out.2.1
  go_wp2_with fail
  have HO := HW1.out.size
  refine (joinF_calls _ F _ HZF.out HFM.out (fun p hp => (HFI.out p hp).1) (by have := HSM.out; omega) HT.out).mono ?_
  rintro e W14 ⟨vc, rfl, hvc, hB⟩
  clear cHR0
  replace HR := Lib.hid (HR.out.below hB)
  replace HB := Lib.hid (HB.out.trans (hB.mono HB.out.size))
  replace HW1 := Lib.hid (HW1.out.trans (hB.mono HW1.out.size))
  replace HZ := Lib.hid (HZ.out.keep (Kept.below hB) (fun _ _ h => h))
  replace HT := Lib.hid (fun j hj => keep_below hB _ _ (HT.out j hj))
  replace HZF := Lib.hid (HZF.out.keep (Kept.below hB) (fun _ _ h => h))
  rw [← HLE.out] at hvc
  have HVC := Lib.hid (show Slc W14 (fun b => (ok b ∧ b < w.heap.size) ∨ w.heap.size < b) vc L.length (f64s L) from hvc.keep (Kept.refl _ _) (fun b _ (h : _ ≤ b) => Or.inr (by have := HSZ.out; omega)))
  obtain ⟨co, cc, rfl, _⟩ := HVC.out.opened
  clear hvc HO
  clear hB
  have cHR0 := HR.out.2.1
  go_wp2_with fail
  have HO := HW1.out.size
  refine (fnumbers_calls _ L _ HVC.out HLM.out (fun x hx => (HLU.out x hx).1) HT.out).mono ?_
  rintro e W15 ⟨uq, rfl, huq, hB⟩
  clear cHR0
  replace HR := Lib.hid (HR.out.below hB)
  replace HB := Lib.hid (HB.out.trans (hB.mono HB.out.size))
  replace HW1 := Lib.hid (HW1.out.trans (hB.mono HW1.out.size))
  replace HZ := Lib.hid (HZ.out.keep (Kept.below hB) (fun _ _ h => h))
  replace HT := Lib.hid (fun j hj => keep_below hB _ _ (HT.out j hj))
  replace HZF := Lib.hid (HZF.out.keep (Kept.below hB) (fun _ _ h => h))
  replace HVC := Lib.hid (HVC.out.below hB)
  rw [map_ze HLU.out] at huq
  have HQ := Lib.hid (show IsV W15 (fun b => (ok b ∧ b < w.heap.size) ∨ w.heap.size < b) uq (VV.floats L).sq from huq.wide (fun b _ h => by have h : _ ≤ b := h; exact Or.inr (by have := HSZ.out; omega)))
  have hsq := huq.store
  clear huq HO
  clear hB
  have cHR0 := HR.out.2.1
  have zHR0 := HR.out.2.2 0
  go_wp2_with fail
  refine bodyPost_ret (v := .tuple #[.agg #[uq], .bool true]) (by simp [results, Tryz.results36, go_sem, cHR0, World.cell?_setCell_same]) rfl ⟨uq, by rw [HJB.out], ?_, HB.out.setCell (Nat.le_refl _) _⟩
  rw [HJZ.out]
  exact (HQ.out.keep (Kept.setCell _ _ _ (by simp)) (fun _ _ h => h)).wide (fun b _ h => h.imp id Nat.le_of_lt)
end Go.Proofs.YtohjomhiibkobaaGreatDoor

/- The reference of layer 8: Blank, Pick. -/
namespace Go.Proofs.YtohjomhiibkobaaGreatDoor
set_option maxRecDepth 100000
open Go.RowKit Fl
set_option linter.unusedVariables false

/-- A row of items in the making. -/
def OutRel (w0 : World) (ok : Nat → Prop) (k : Nat) (v : Value) (L : List QI) (l : List PI) (wr : World) : Prop :=
  wr.ownsRow w0.heap.size 47 4 v k (flatI L) ∧ Quad wr (fun b => ok b ∧ v.ownBlock ≠ some b) L l ∧ Below w0.heap.size w0 wr
theorem OutRel.start (w0 : World) (ok : Nat → Prop) : OutRel w0 ok 0 (.slice none 0 0) [] [] w0 := ⟨World.ownsRow_nil _ _ _ _, Quad.nil _ _, Below.refl _ _⟩
theorem OutRel.step {w0 wr W4 w5 : World} {ok : Nat → Prop} {k : Nat} {v v' bx : Value} {L : List QI} {l : List PI} {x : PI} (h : OutRel w0 ok k v L l wr) (hr4 : Below wr.heap.size wr W4)
    (hx : IsB W4 (fun b => ok b ∧ v.ownBlock ≠ some b) bx x.2.2.2)
    (hown : w5.ownsRow w0.heap.size 47 4 v' (k + 1) (flatI L ++ quadV (x.1, x.2.1, x.2.2.1, bx))) (hg : W4.grownBy w5 v.ownBlock)
    (hk : ∀ j, v'.ownBlock = some j → v.ownBlock = some j ∨ W4.heap.size ≤ j) : OutRel w0 ok (k + 1) v' (L ++ [(x.1, x.2.1, x.2.2.1, bx)]) (l ++ [x]) w5 := by
  obtain ⟨h1, h2, h7⟩ := h
  have hq : Quad W4 (fun b => ok b ∧ v.ownBlock ≠ some b) (L ++ [(x.1, x.2.1, x.2.2.1, bx)]) (l ++ [x]) := (h2.keep (Kept.below hr4) (fun _ _ h => h)).snoc hx
  refine ⟨by rw [flatI_snoc]; exact hown, ?_, ?_⟩
  · refine Quad.keep (w := W4) (ok := fun b => ok b ∧ v.ownBlock ≠ some b) (Kept.grown hg (fun b hb e => hb.2 e.symm)) (fun b hb ho => ⟨ho.1, fun e => ?_⟩) hq
    rcases hk b e with e2 | e2
    · exact ho.2 e2
    · omega
  · exact (h7.trans (hr4.mono h7.size)).grown hg (by have := hr4.size; have := h7.size; omega) (fun j hj => (h1.lt j hj).1)
theorem OutRel.its {w0 wr : World} {ok : Nat → Prop} {k : Nat} {v : Value} {L : List QI} {l : List PI} (h : OutRel w0 ok k v L l wr) : Its wr (fun b => ok b ∨ w0.heap.size ≤ b) v l :=
  Its.of_own (ok := ok) h.1 (h.2.1.keep (Kept.refl _ _) (fun b _ h => h.1))

set_option maxHeartbeats 4000000 in
theorem rblank_calls (c : Int) (hc : c = 0 ∨ c = 1 ∨ c = 2) (w : World) : Calls Tryz.prog 57 #[.int .i64 c] w (ItemNew (blankI c) w) := by
  have hst := run_store_float
  rcases hc with rfl | rfl | rfl
  · go_enter Tryz.func57, Tryz.ntmps57
    go_wp2_with fail
    exact bodyPost_ret (v := .agg #[.int .i64 0, .float .f64 0, .int .i32 0, .slice none 0 0]) (by simp [results, Tryz.results57, go_sem]) rfl ⟨_, rfl, IsB.nil _ _, (below_new _ _).alloc (by simp) _⟩
  · go_enter Tryz.func57, Tryz.ntmps57
    go_wp2_with fail
    exact bodyPost_ret (v := .agg #[.int .i64 1, .float .f64 0, .int .i32 32, .slice none 0 0]) (by simp [results, Tryz.results57, go_sem]) rfl ⟨_, rfl, IsB.nil _ _, (below_new _ _).alloc (by simp) _⟩
  · go_enter Tryz.func57, Tryz.ntmps57
    go_wp2_with fail
    refine bodyPost_ret (v := .agg #[.int .i64 2, .float .f64 0, .int .i32 0, .slice (some ⟨w.heap.size + 1 + 1 + 1, 0, none⟩) 1 1]) (by simp [results, Tryz.results57, go_sem]) rfl ⟨_, rfl, ?_, (((below_new _ _).alloc (by simp) _).alloc (by simp; omega) _).alloc (by simp; omega) _⟩
    have h1 := Slc.owned (World.ownsRow_lit (base := w.heap.size) (e := 3) (size := 1) ((w.alloc (.cells #[.int .i64 2, .float .f64 0, .int .i32 0, .slice (some ⟨w.heap.size + 1 + 1 + 1, 0, none⟩) 1 1] 47)).alloc (.cells #[.int .i64 2, .float .f64 0, .int .i32 0, .slice (some ⟨w.heap.size + 1 + 1 + 1, 0, none⟩) 1 1] 47)) #[.int .i64 0] 1 (by simp; omega) (by unfold maxLen; omega) rfl)
    simp only [World.size_alloc] at h1
    have h2 := (IsB.one (T := blankP) (IsP.of (s := [0]) (l := []) (f := 0) h1 (Its.nil _ _)) 27).wide (ok' := fun b => w.heap.size ≤ b) (fun b _ h => by simp at h; omega)
    simp only [World.size_alloc] at h2
    exact h2

theorem own_ne {w w' : World} {v : Value} {n : Nat} {xs : List Value} (h : w'.ownsRow w.heap.size 47 4 v n xs) {b : Nat} (hb : b < w.heap.size) : v.ownBlock ≠ some b := fun e => by
  have := (h.lt b e).1; omega

end Go.Proofs.YtohjomhiibkobaaGreatDoor

/- The reference of layer 8: Again, Turn. -/
namespace Go.Proofs.YtohjomhiibkobaaGreatDoor
set_option maxRecDepth 100000
open Go.RowKit Fl
set_option linter.unusedVariables false

/-- The items again and again; what stands for none, where there are none. -/
def againI (l : List PI) (c : Int) (m : Nat) : List PI := (List.range m).map fun i => if l.length = 0 then blankI c else atI l (blankI c) ((i % l.length : Nat) : Int)
theorem againI_succ (l : List PI) (c : Int) (k : Nat) : againI l c (k + 1) = againI l c k ++ [if l.length = 0 then blankI c else atI l (blankI c) ((k % l.length : Nat) : Int)] := by
  simp [againI, List.range_succ]

set_option maxHeartbeats 4000000 in
theorem ragain_calls {ok : Nat → Prop} (lv : Value) (l : List PI) (c : Int) (hc : c = 0 ∨ c = 1 ∨ c = 2) (n : Int) (w : World) (hl : Its w ok lv l) (hm : n ≤ 100000) (hm2 : l.length ≤ 1048576) :
    Calls Tryz.prog 33 #[lv, .int .i64 c, .int .i64 n] w fun e w' => ∃ u, e = .returned u ∧ Its w' (fun b => (ok b ∧ b < w.heap.size) ∨ w.heap.size ≤ b) u (againI l c n.toNat) ∧ Below w.heap.size w w' := by
  have HL := Lib.hid hl.lt
  have HC := Lib.hid hc
  obtain ⟨lo_, lc, rfl, _, _⟩ := hl.len
  clear hl hc
  obtain ⟨i0, hi, hz0, hz1, hz2⟩ := info_parts info_item
  have HI0 := Lib.hid (And.intro hi (And.intro hz0 (And.intro hz1 hz2)))
  have HR0 := Lib.hid (OutRel.start w (fun b => (ok b ∧ b < w.heap.size) ∨ w.heap.size ≤ b))
  clear hi hz0 hz1 hz2
  go_enter Tryz.func33, Tryz.ntmps33
  go_wp2_with fail
  go_loopw [7, 8] (fun v i wr => ∃ (k : Nat) (L : List QI), (k : Int) ≤ max n 0 ∧ i = .int .i64 k ∧ OutRel w (fun b => (ok b ∧ b < w.heap.size) ∨ w.heap.size ≤ b) k v L (againI l c k) wr) (fun _ i _ => n.toNat - (intOf i).toNat)
  case atStart => exact ⟨0, [], by omega, rfl, by simpa [againI] using HR0.out⟩
  case round =>
    obtain ⟨k, L, hk, rfl, hR⟩ := hrel
    obtain ⟨vo, vc, rfl⟩ := owns_form hR.1
    have HR := Lib.hid hR
    have HBr := Lib.hid hR.2.2
    have HSW := Lib.hid hR.2.2.size
    have HOCN := Lib.hid (show Value.oneCell' (.slice none 0 0) = true from rfl)
    clear hR
    by_cases hlt : (k : Int) < n
    · have HM1 : Hid (k + 1 ≤ maxLen) := Lib.hid (by unfold maxLen; omega)
      have HM2 : Hid ((k + 1) * 48 ≤ 140737488355328) := Lib.hid (by omega)
      have HLT := Lib.hid hlt
      have HKK := Lib.hid (show ((k + 1 : Nat) : Int) ≤ max n 0 by omega)
      have HMS := Lib.hid (show n.toNat - (k + 1) < n.toNat - k by omega)
      by_cases h0 : l.length = 0
      · have HEQ := Lib.hid (againI_succ l c k)
        rw [if_pos h0] at HEQ
        have h0e : ((l.length : Int) == 0) = true := by simp [h0]
        clear h0
        go_wp2_with fail
        refine (rblank_calls c HC.out _).mono ?_
        rintro e W3 ⟨bx, rfl, hbx, hB3⟩
        have HB3 := Lib.hid hB3
        obtain ⟨bo, bc, rfl, _⟩ := hbx.len
        have HBX := Lib.hid (show IsB W3 (fun b => ((ok b ∧ b < w.heap.size) ∨ w.heap.size ≤ b) ∧ (Value.slice vo k vc).ownBlock ≠ some b) (.slice bo (blankI c).2.2.2.length bc) (blankI c).2.2.2 from hbx.wide (fun b _ (h : wr.heap.size ≤ b) => ⟨Or.inr (Nat.le_trans HSW.out h), fun e => by have := (HR.out.1.lt b e).2; omega⟩))
        have HOC := Lib.hid (show Value.oneCell' (.slice bo (blankI c).2.2.2.length bc) = true from rfl)
        obtain ⟨y, hy⟩ : ∃ y, y = blankI c := ⟨_, rfl⟩
        rw [← hy] at HBX HOC HEQ ⊢
        clear hbx hB3 hy
        obtain ⟨W4, hW4⟩ : ∃ W4, W4 = W3.alloc (.cells #[.int .i64 y.1, .float .f64 y.2.1, .int .i32 y.2.2.1, (.slice bo y.2.2.2.length bc)] 47) := ⟨_, rfl⟩
        have HB4 := Lib.hid (show Below wr.heap.size wr W4 by rw [hW4]; exact (HB3.out).alloc ((HB3.out).size) _)
        have HO4 := Lib.hid (show W4.ownsRow w.heap.size 47 4 (.slice vo k vc) k (flatI L) by rw [hW4]; exact (owns_below2 HR.out.1 (HB3.out)).alloc _)
        have HN4 := Lib.hid (show ∀ j u, (quadV (y.1, y.2.1, y.2.2.1, (.slice bo y.2.2.2.length bc)))[j]? = some u → W4.cell? ((⟨W3.heap.size, 0, none⟩ : Addr).add j) = some u by rw [hW4]; exact cell_four_new _ _ _ _ _ _)
        have HSZ := Lib.hid (show w.heap.size ≤ W4.heap.size from Nat.le_trans HSW.out HB4.out.size)
        have HON := Lib.hid (show ∀ u ∈ quadV (y.1, y.2.1, y.2.2.1, (.slice bo y.2.2.2.length bc)), u.oneCell' = true by intro u hu; simp only [quadV, List.mem_cons, List.not_mem_nil, or_false] at hu; rcases hu with rfl | rfl | rfl | rfl <;> first | rfl | exact HOC.out)
        have HBX4 := Lib.hid (show IsB W4 (fun b => ((ok b ∧ b < w.heap.size) ∨ w.heap.size ≤ b) ∧ (Value.slice vo k vc).ownBlock ≠ some b) ((.slice bo y.2.2.2.length bc)) y.2.2.2 by rw [hW4]; exact IsB.keep (Kept.below (below_new _ _)) (fun _ _ h => h) HBX.out)
        have hfold4 := hW4.symm
        clear hW4
        go_wp2_with (at_builtin; refine wpList_append_blk _ rfl _ _ 25 rfl w.heap.size 47 i0 _ 4 48 Tryz.underlying25 HI0.out.1 HI0.out.2.1 HI0.out.2.2.1 HI0.out.2.2.2 rfl (by decide) _ k (flatI L) rfl HO4.out ⟨W3.heap.size, 0, none⟩ 1 1 (quadV (y.1, y.2.1, y.2.2.1, (.slice bo y.2.2.2.length bc))) rfl rfl HN4.out HON.out HM1.out HM2.out HSZ.out ?_)
        intro v' w5 hown hgrow hblk
        obtain ⟨ao', cap', rfl⟩ := owns_form hown
        have HS5 := Lib.hid (HR.out.step (x := y) HB4.out HBX4.out hown hgrow hblk)
        clear hown hgrow hblk hfold4
        go_wp2_with fail
        go_roundw
        case rel =>
          refine ⟨k + 1, L ++ [(y.1, y.2.1, y.2.2.1, .slice bo y.2.2.2.length bc)], HKK.out, by go_num, ?_⟩
          rw [HEQ.out]
          exact HS5.out
        case measure => simpa [intOf] using HMS.out
      · have h0e : ((l.length : Int) == 0) = false := by rw [beq_eq_false_iff_ne]; omega
        obtain ⟨j, hj⟩ : ∃ j : Nat, (k : Int) % (l.length : Int) = (j : Int) := ⟨k % l.length, by omega⟩
        have hjl : j < l.length := by have := Int.emod_lt_of_pos (k : Int) (show (0 : Int) < (l.length : Int) by omega); omega
        have hjk : k % l.length = j := by omega
        obtain ⟨y, hy⟩ : ∃ y, y = l[j] := ⟨_, rfl⟩
        have HY := Lib.hid (show l[j]? = some y by rw [hy]; exact List.getElem?_eq_getElem hjl)
        have HEQ := Lib.hid (show againI l c (k + 1) = againI l c k ++ [y] by rw [againI_succ, if_neg h0, hjk, hy, atI_nat hjl])
        obtain ⟨lb, loff, bo, bc, rfl, _, d0, d1, d2, d3, hbx⟩ := (HL.out.grow HBr.out).at HY.out
        have HBX := Lib.hid (show IsB wr (fun b => ((ok b ∧ b < w.heap.size) ∨ w.heap.size ≤ b) ∧ (Value.slice vo k vc).ownBlock ≠ some b) (.slice bo y.2.2.2.length bc) y.2.2.2 from hbx.wide (fun b _ h => ⟨Or.inl h, own_ne HR.out.1 h.2⟩))
        have HOC := Lib.hid (show Value.oneCell' (.slice bo y.2.2.2.length bc) = true from rfl)
        clear h0 hy hbx hjk
        obtain ⟨W4, hW4⟩ : ∃ W4, W4 = wr.alloc (.cells #[.int .i64 y.1, .float .f64 y.2.1, .int .i32 y.2.2.1, (.slice bo y.2.2.2.length bc)] 47) := ⟨_, rfl⟩
        have HB4 := Lib.hid (show Below wr.heap.size wr W4 by rw [hW4]; exact (Below.refl wr.heap.size wr).alloc ((Below.refl wr.heap.size wr).size) _)
        have HO4 := Lib.hid (show W4.ownsRow w.heap.size 47 4 (.slice vo k vc) k (flatI L) by rw [hW4]; exact (owns_below2 HR.out.1 (Below.refl wr.heap.size wr)).alloc _)
        have HN4 := Lib.hid (show ∀ j u, (quadV (y.1, y.2.1, y.2.2.1, (.slice bo y.2.2.2.length bc)))[j]? = some u → W4.cell? ((⟨wr.heap.size, 0, none⟩ : Addr).add j) = some u by rw [hW4]; exact cell_four_new _ _ _ _ _ _)
        have HSZ := Lib.hid (show w.heap.size ≤ W4.heap.size from Nat.le_trans HSW.out HB4.out.size)
        have HON := Lib.hid (show ∀ u ∈ quadV (y.1, y.2.1, y.2.2.1, (.slice bo y.2.2.2.length bc)), u.oneCell' = true by intro u hu; simp only [quadV, List.mem_cons, List.not_mem_nil, or_false] at hu; rcases hu with rfl | rfl | rfl | rfl <;> first | rfl | exact HOC.out)
        have HBX4 := Lib.hid (show IsB W4 (fun b => ((ok b ∧ b < w.heap.size) ∨ w.heap.size ≤ b) ∧ (Value.slice vo k vc).ownBlock ≠ some b) ((.slice bo y.2.2.2.length bc)) y.2.2.2 by rw [hW4]; exact IsB.keep (Kept.below (below_new _ _)) (fun _ _ h => h) HBX.out)
        have hfold4 := hW4.symm
        clear hW4
        go_wp2_with (at_builtin; refine wpList_append_blk _ rfl _ _ 25 rfl w.heap.size 47 i0 _ 4 48 Tryz.underlying25 HI0.out.1 HI0.out.2.1 HI0.out.2.2.1 HI0.out.2.2.2 rfl (by decide) _ k (flatI L) rfl HO4.out ⟨wr.heap.size, 0, none⟩ 1 1 (quadV (y.1, y.2.1, y.2.2.1, (.slice bo y.2.2.2.length bc))) rfl rfl HN4.out HON.out HM1.out HM2.out HSZ.out ?_)
        intro v' w5 hown hgrow hblk
        obtain ⟨ao', cap', rfl⟩ := owns_form hown
        have HS5 := Lib.hid (HR.out.step (x := y) HB4.out HBX4.out hown hgrow hblk)
        clear hown hgrow hblk hfold4
        go_wp2_with fail
        go_roundw
        case rel =>
          refine ⟨k + 1, L ++ [(y.1, y.2.1, y.2.2.1, .slice bo y.2.2.2.length bc)], HKK.out, by go_num, ?_⟩
          rw [HEQ.out]
          exact HS5.out
        case measure => simpa [intOf] using HMS.out
    · have hkl : n.toNat = k := by omega
      have HFIN := Lib.hid (show Its wr (fun b => ((ok b ∧ b < w.heap.size) ∨ w.heap.size ≤ b) ∨ w.heap.size ≤ b) (.slice vo k vc) (againI l c n.toNat) by rw [hkl]; exact HR.out.its)
      clear hkl
      go_wp2_with fail
      go_ret
      exact ⟨_, rfl, HFIN.out.wide (fun b _ h => h.elim id Or.inr), HBr.out⟩

set_option maxHeartbeats 4000000 in
theorem rturn_calls {ok : Nat → Prop} (lv : Value) (l : List PI) (w : World) (hl : Its w ok lv l) (hm2 : l.length ≤ 1048576) :
    Calls Tryz.prog 35 #[lv] w fun e w' => ∃ u, e = .returned u ∧ Its w' (fun b => (ok b ∧ b < w.heap.size) ∨ w.heap.size ≤ b) u l.reverse ∧ Below w.heap.size w w' := by
  have HL := Lib.hid hl.lt
  obtain ⟨lo_, lc, rfl, _, _⟩ := hl.len
  clear hl
  obtain ⟨i0, hi, hz0, hz1, hz2⟩ := info_parts info_item
  have HI0 := Lib.hid (And.intro hi (And.intro hz0 (And.intro hz1 hz2)))
  have HR0 := Lib.hid (OutRel.start w (fun b => (ok b ∧ b < w.heap.size) ∨ w.heap.size ≤ b))
  clear hi hz0 hz1 hz2
  go_enter Tryz.func35, Tryz.ntmps35
  go_wp2_with fail
  go_loopw [3, 4] (fun v i wr => ∃ (k : Nat) (L : List QI), k ≤ l.length ∧ i = .int .i64 ((l.length : Int) - 1 - (k : Int)) ∧ OutRel w (fun b => (ok b ∧ b < w.heap.size) ∨ w.heap.size ≤ b) k v L (l.reverse.take k) wr) (fun _ i _ => (intOf i + 1).toNat)
  case atStart => exact ⟨0, [], by omega, by go_num, HR0.out⟩
  case round =>
    obtain ⟨k, L, hk, rfl, hR⟩ := hrel
    obtain ⟨vo, vc, rfl⟩ := owns_form hR.1
    have HR := Lib.hid hR
    have HBr := Lib.hid hR.2.2
    have HSW := Lib.hid hR.2.2.size
    have HOCN := Lib.hid (show Value.oneCell' (.slice none 0 0) = true from rfl)
    clear hR
    by_cases hlt : k < l.length
    · have HM1 : Hid (k + 1 ≤ maxLen) := Lib.hid (by unfold maxLen; omega)
      have HM2 : Hid ((k + 1) * 48 ≤ 140737488355328) := Lib.hid (by omega)
      have HLT := Lib.hid hlt
      obtain ⟨j, hj⟩ : ∃ j : Nat, (l.length : Int) - 1 - (k : Int) = (j : Int) := ⟨l.length - 1 - k, by omega⟩
      have HJ := Lib.hid hj
      have hjl : j < l.length := by omega
      obtain ⟨y, hy⟩ : ∃ y, y = l[j] := ⟨_, rfl⟩
      have HY := Lib.hid (show l[j]? = some y by rw [hy]; exact List.getElem?_eq_getElem hjl)
      have HEQ := Lib.hid (show l.reverse.take (k + 1) = l.reverse.take k ++ [y] from ptake (by rw [List.getElem?_reverse hlt, show l.length - 1 - k = j by omega]; exact HY.out))
      obtain ⟨lb, loff, bo, bc, rfl, _, d0, d1, d2, d3, hbx⟩ := (HL.out.grow HBr.out).at HY.out
      have HBX := Lib.hid (show IsB wr (fun b => ((ok b ∧ b < w.heap.size) ∨ w.heap.size ≤ b) ∧ (Value.slice vo k vc).ownBlock ≠ some b) (.slice bo y.2.2.2.length bc) y.2.2.2 from hbx.wide (fun b _ h => ⟨Or.inl h, own_ne HR.out.1 h.2⟩))
      have HOC := Lib.hid (show Value.oneCell' (.slice bo y.2.2.2.length bc) = true from rfl)
      rw [hj]
      clear hy hbx hj
      obtain ⟨W4, hW4⟩ : ∃ W4, W4 = wr.alloc (.cells #[.int .i64 y.1, .float .f64 y.2.1, .int .i32 y.2.2.1, (.slice bo y.2.2.2.length bc)] 47) := ⟨_, rfl⟩
      have HB4 := Lib.hid (show Below wr.heap.size wr W4 by rw [hW4]; exact (Below.refl wr.heap.size wr).alloc ((Below.refl wr.heap.size wr).size) _)
      have HO4 := Lib.hid (show W4.ownsRow w.heap.size 47 4 (.slice vo k vc) k (flatI L) by rw [hW4]; exact (owns_below2 HR.out.1 (Below.refl wr.heap.size wr)).alloc _)
      have HN4 := Lib.hid (show ∀ j u, (quadV (y.1, y.2.1, y.2.2.1, (.slice bo y.2.2.2.length bc)))[j]? = some u → W4.cell? ((⟨wr.heap.size, 0, none⟩ : Addr).add j) = some u by rw [hW4]; exact cell_four_new _ _ _ _ _ _)
      have HSZ := Lib.hid (show w.heap.size ≤ W4.heap.size from Nat.le_trans HSW.out HB4.out.size)
      have HON := Lib.hid (show ∀ u ∈ quadV (y.1, y.2.1, y.2.2.1, (.slice bo y.2.2.2.length bc)), u.oneCell' = true by intro u hu; simp only [quadV, List.mem_cons, List.not_mem_nil, or_false] at hu; rcases hu with rfl | rfl | rfl | rfl <;> first | rfl | exact HOC.out)
      have HBX4 := Lib.hid (show IsB W4 (fun b => ((ok b ∧ b < w.heap.size) ∨ w.heap.size ≤ b) ∧ (Value.slice vo k vc).ownBlock ≠ some b) ((.slice bo y.2.2.2.length bc)) y.2.2.2 by rw [hW4]; exact IsB.keep (Kept.below (below_new _ _)) (fun _ _ h => h) HBX.out)
      have hfold4 := hW4.symm
      clear hW4
      go_wp2_with (at_builtin; refine wpList_append_blk _ rfl _ _ 25 rfl w.heap.size 47 i0 _ 4 48 Tryz.underlying25 HI0.out.1 HI0.out.2.1 HI0.out.2.2.1 HI0.out.2.2.2 rfl (by decide) _ k (flatI L) rfl HO4.out ⟨wr.heap.size, 0, none⟩ 1 1 (quadV (y.1, y.2.1, y.2.2.1, (.slice bo y.2.2.2.length bc))) rfl rfl HN4.out HON.out HM1.out HM2.out HSZ.out ?_)
      intro v' w5 hown hgrow hblk
      obtain ⟨ao', cap', rfl⟩ := owns_form hown
      have HS5 := Lib.hid (HR.out.step (x := y) HB4.out HBX4.out hown hgrow hblk)
      clear hown hgrow hblk hfold4
      go_wp2_with fail
      go_roundw
      case rel =>
        refine ⟨k + 1, L ++ [(y.1, y.2.1, y.2.2.1, .slice bo y.2.2.2.length bc)], HLT.out, ?_, ?_⟩
        · have := HJ.out
          congr 1 <;> omega
        · rw [HEQ.out]
          exact HS5.out
      case measure => simp [intOf] <;> omega
    · have hkl : l.length = k := by omega
      have HFIN := Lib.hid (show Its wr (fun b => ((ok b ∧ b < w.heap.size) ∨ w.heap.size ≤ b) ∨ w.heap.size ≤ b) (.slice vo k vc) l.reverse by
        have h := HR.out.its
        rwa [show l.reverse.take k = l.reverse by rw [← hkl, ← List.length_reverse, List.take_length]] at h)
      have hneg : ¬ (0 : Int) ≤ (l.length : Int) - 1 - (k : Int) := by omega
      clear hkl
      go_wp2_with fail
      go_ret
      exact ⟨_, rfl, HFIN.out.wide (fun b _ h => h.elim id Or.inr), HBr.out⟩
end Go.Proofs.YtohjomhiibkobaaGreatDoor

/- What flat's functions make, as items: plain. -/
namespace Go.Proofs.YtohjomhiibkobaaGreatDoor
set_option maxRecDepth 100000
open Go.RowKit Fl
set_option linter.unusedVariables false

theorem its_num {d : Nat} {V : VV} (h : V.cls = 0) : itsA d V = V.nums.map fun x => (0, x, 0, []) := by
  unfold itsA
  rw [← VV.nums_length h]
  exact map_range_eq fun i x hx => by unfold itA; rw [if_neg (by omega), if_neg (by omega), atI_some hx]
theorem its_chr {d : Nat} {V : VV} (h : V.cls = 1) : itsA d V = V.text.map fun x => (1, 0, x, []) := by
  unfold itsA
  rw [← VV.text_len h]
  exact map_range_eq fun i x hx => by unfold itA; rw [if_pos h, atI_some hx]
theorem its_box {d : Nat} {V : VV} (h : V.cls = 2) : itsA d V = V.boxs.map fun a => (2, 0, 0, [plA d a]) := by
  unfold itsA
  rw [← VV.boxs_len h]
  exact map_range_eq fun i x hx => by unfold itA; rw [if_neg (by omega), if_pos h, atI_some hx]
theorem map_atI {l : List PI} {d : PI} {at_ : List Int} {m : List PI} (hl : at_.length = m.length) (h : ∀ k (h1 : k < at_.length) (h2 : k < m.length), ∃ j, ∃ hj : j < l.length, at_[k] = (j : Int) ∧ m[k] = l[j]) : at_.map (atI l d) = m := by
  apply List.ext_getElem (by simpa using hl)
  intro k h1 h2
  have h1' : k < at_.length := by simpa using h1
  obtain ⟨j, hj, e1, e2⟩ := h k h1' h2
  rw [List.getElem_map, e1, atI_nat hj, e2]
/-- Turned. -/
theorem its_turn {d : Nat} {V : VV} (h : gV (d + 1) V) : itsA (d + 1) (V.sel (turnL V.len)) = (itsA (d + 1) V).reverse := by
  rw [its_sel h (by rw [turnL_len]; exact VV.ok_len h.1)]
  refine map_atI (by simp [turnL_len, itsA_len]) fun k h1 h2 => ?_
  have hk : k < V.len := by simpa [turnL_len] using h1
  refine ⟨V.len - 1 - k, by rw [itsA_len]; omega, ?_, ?_⟩
  · simp only [turnL, List.getElem_map, List.getElem_range]; omega
  · rw [List.getElem_reverse]; simp [itsA_len]
theorem its_again {d : Nat} {V : VV} {m : Nat} (h : gV (d + 1) V) (hm : m ≤ 1048576) : itsA (d + 1) (V.sel (againL (max V.len 1) m)) = againI (itsA (d + 1) V) V.cls m := by
  rw [its_sel h (by rw [againL_len]; exact hm)]
  unfold againI againL
  rw [List.map_map]
  apply List.map_congr_left
  intro i hi
  have hi : i < m := by simpa using hi
  show atI _ _ ((i : Int) % ((max V.len 1 : Nat) : Int)) = _
  rw [itsA_len]
  by_cases h0 : V.len = 0
  · rw [if_pos h0, atI_neg]
    rw [itsA_len]; omega
  · rw [if_neg h0, show max V.len 1 = V.len by omega, Int.natCast_emod]
theorem gV_cut {d : Nat} {V : VV} {a b : Int} (h : gV (d + 1) V) : gV (d + 1) (V.cut a b) := by
  unfold VV.cut
  by_cases hb : V.isBit = true
  · rw [if_pos hb]
    have := VV.packed_ok h.1
    exact ⟨by simp [VV.ok]; omega, trivial, rfl, fun a ha => by simp [VV.boxs] at ha⟩
  · rw [if_neg hb]
    exact gV_sel h (by rw [cutL_len]; have := VV.ok_len h.1; have := cl8_le b V.len; omega)
theorem cls_cut {d : Nat} {V : VV} {a b : Int} (h : gV (d + 1) V) : (V.cut a b).cls = V.cls := by
  unfold VV.cut
  by_cases hb : V.isBit = true
  · rw [if_pos hb, VV.bit_cls hb]; rfl
  · rw [if_neg hb]
    exact VV.sel_cls _ _ (VV.nums_num h.1 h.2.1) (by rw [cutL_len]; have := VV.ok_len h.1; have := cl8_le b V.len; omega)
theorem its_cut {d : Nat} {V : VV} {a b : Int} (h : gV (d + 1) V) : itsA (d + 1) (V.cut a b) = ((itsA (d + 1) V).take (cl8 b V.len)).drop (cl8 a V.len) := by
  have ha := cl8_le a V.len
  have hbl := cl8_le b V.len
  by_cases hb : V.isBit = true
  · have e : V.cut a b = .bits ((V.packed.take (cl8 b V.len)).drop (cl8 a V.len)) := if_pos hb
    rw [e, its_num (VV.bit_cls hb), its_num rfl]
    have en : V.nums = V.packed.map flagW := by cases V <;> simp_all [VV.isBit, VV.nums, VV.packed]
    rw [en]
    simp only [VV.nums, List.map_drop, List.map_take]
  · have e : V.cut a b = V.sel (cutL (cl8 a V.len) (cl8 b V.len - cl8 a V.len)) := if_neg hb
    rw [e, its_sel h (by rw [cutL_len]; have := VV.ok_len h.1; omega)]
    refine map_atI (by simp [cutL_len, itsA_len]; omega) fun k h1 h2 => ?_
    have hk : k < cl8 b V.len - cl8 a V.len := by simpa [cutL_len] using h1
    refine ⟨cl8 a V.len + k, by rw [itsA_len]; omega, ?_, ?_⟩
    · simp only [cutL, List.getElem_map, List.getElem_range]; omega
    · rw [List.getElem_drop, List.getElem_take]
end Go.Proofs.YtohjomhiibkobaaGreatDoor

/- What flat's Join makes, as items: plain. -/
namespace Go.Proofs.YtohjomhiibkobaaGreatDoor
set_option maxRecDepth 100000
open Go.RowKit Fl
set_option linter.unusedVariables false

def kc (k c : Int) : Prop := (c = 0 ∧ 1 ≤ k ∧ k ≤ 4) ∨ (c = 1 ∧ k = 5) ∨ (c = 2 ∧ k = 6)
theorem kc_of {V : VV} (h : V.kind ≠ 0) : kc V.kind V.cls := by cases V <;> simp_all [VV.kind, VV.cls, kc]
theorem kc_common {a b c : Int} (h : kc a c) (k : kc b c) : kc (commonK a b) c := by
  unfold kc commonK at *
  by_cases e : a = b
  · rw [if_pos e]; exact h
  · rw [if_neg e, if_pos (by omega)]; omega
theorem kc_com {c : Int} : ∀ {Z : List (Value × VV)} {k0 : Int}, kc k0 c → (∀ p ∈ Z, kc p.2.kind c) → kc (comZ k0 Z) c := by
  intro Z
  induction Z with
  | nil => intro k0 h _; exact h
  | cons p Z ih =>
    intro k0 h hz
    exact ih (kc_common h (hz p (List.mem_cons_self ..))) (fun q hq => hz q (List.mem_cons_of_mem _ hq))
theorem flatMap_full {β : Type} {Z : List (Value × VV)} {f : VV → List β} (h : ∀ p ∈ Z, p.2.len = 0 → f p.2 = []) : (Z.flatMap fun p => f p.2) = (fullZ Z).flatMap fun p => f p.2 := by
  induction Z with
  | nil => rfl
  | cons p Z ih =>
    have ih := ih (fun q hq => h q (List.mem_cons_of_mem _ hq))
    rw [List.flatMap_cons, ih]
    by_cases h0 : 0 < p.2.len
    · have : fullZ (p :: Z) = p :: fullZ Z := by simp [fullZ, h0]
      rw [this, List.flatMap_cons]
    · have : fullZ (p :: Z) = fullZ Z := by simp [fullZ, h0]
      rw [this, h p (List.mem_cons_self ..) (by omega)]; rfl
theorem flatMap_map' {α β : Type} {Z : List (Value × VV)} {f : VV → List α} {g : α → β} : ((Z.flatMap fun p => f p.2).map g) = Z.flatMap fun p => (f p.2).map g := by
  induction Z with
  | nil => rfl
  | cons p Z ih => rw [List.flatMap_cons, List.map_append, ih, List.flatMap_cons]
theorem flatMap_congr' {β : Type} {Z : List (Value × VV)} {f g : VV → List β} (h : ∀ p ∈ Z, f p.2 = g p.2) : (Z.flatMap fun p => f p.2) = Z.flatMap fun p => g p.2 := by
  induction Z with
  | nil => rfl
  | cons p Z ih => rw [List.flatMap_cons, List.flatMap_cons, h p (List.mem_cons_self ..), ih (fun q hq => h q (List.mem_cons_of_mem _ hq))]
theorem its_zero {d : Nat} {V : VV} (h : V.len = 0) : itsA d V = [] := by simp [itsA, h]
theorem gV_bits {d : Nat} {l : List Bool} (h : l.length ≤ 1048576) : gV d (.bits l) := ⟨h, trivial, rfl, fun a ha => by simp [VV.boxs] at ha⟩
theorem gV_chars {d : Nat} {l : List Int} (h : l.length ≤ 1048576) : gV d (.chars l) := ⟨h, trivial, rfl, fun a ha => by simp [VV.boxs] at ha⟩
theorem gV_floats {d : Nat} {l : List Nat} (h : l.length ≤ 1048576) (hn : ∀ x ∈ l, Num x) : gV d (VV.floats l).sq ∧ (VV.floats l).sq.cls = 0 ∧ (VV.floats l).sq.nums = l := by
  have hok : (VV.floats l).ok := h
  have hnm : (VV.floats l).nm := hn
  obtain ⟨h1, h2, h3, h4, h5, h6⟩ := VV.sq_spec hok hnm
  refine ⟨⟨h4, h5, ?_, fun a ha => by rw [boxs_of_cls (by rw [h3]; simp [VV.cls])] at ha; simp at ha⟩, h3, h2⟩
  rw [h1, VV.least_eq hok hnm rfl, VV.least_eq h4 h5 h3, h2]
theorem gV_boxes {d : Nat} {l : List (List Int × VV)} (h : l.length ≤ 1048576) (hb : ∀ a ∈ l, a.1.length ≤ 1048576) (hg : ∀ a ∈ l, gA d a) : gV d (.boxes l) := ⟨⟨h, hb⟩, trivial, rfl, hg⟩
theorem clsZ_cases (Z : List (Value × VV)) : clsZ Z = 0 ∨ clsZ Z = 1 ∨ clsZ Z = 2 := by
  cases Z with
  | nil => exact Or.inl rfl
  | cons p Z => exact VV.cls_cases _
theorem noneV_facts {d : Nat} {c : Int} (h : c = 0 ∨ c = 1 ∨ c = 2) : gV d (noneV c) ∧ (noneV c).cls = c ∧ itsA d (noneV c) = [] := by
  rcases h with rfl | rfl | rfl
  · exact ⟨gV_bits (by simp), rfl, its_zero rfl⟩
  · exact ⟨gV_chars (by simp), rfl, its_zero rfl⟩
  · exact ⟨gV_boxes (by simp) (by simp) (by simp), rfl, its_zero rfl⟩
/-- Where nothing is joined. -/
theorem join_nil {d : Nat} {Z : List (Value × VV)} (h : fullZ Z = []) : joinB Z = true ∧ gV d (joinZ Z) ∧ (joinZ Z).cls = clsZ Z ∧ itsA d (joinZ Z) = Z.flatMap fun p => itsA d p.2 := by
  have e : joinZ Z = noneV (clsZ Z) := if_pos h
  obtain ⟨h1, h2, h3⟩ := noneV_facts (d := d) (clsZ_cases Z)
  rw [e]
  refine ⟨if_pos h, h1, h2, ?_⟩
  rw [h3, flatMap_full (f := itsA d) (fun p _ hp => its_zero hp), h]; rfl
/-- Where all are of one class. -/
theorem join_some {d : Nat} {Z : List (Value × VV)} {c : Int} (hf : fullZ Z ≠ []) (hg : ∀ p ∈ Z, gV d p.2) (hc : ∀ p ∈ fullZ Z, p.2.cls = c) (hs : lensZ (fullZ Z) ≤ 1048576) :
    joinB Z = true ∧ gV d (joinZ Z) ∧ (joinZ Z).cls = c ∧ itsA d (joinZ Z) = Z.flatMap fun p => itsA d p.2 := by
  obtain ⟨F, hF⟩ : ∃ F, F = fullZ Z := ⟨_, rfl⟩
  have hgF : ∀ p ∈ F, gV d p.2 := fun p hp => hg p (fullZ_mem (hF ▸ hp)).1
  have hk : kc (comK F) c := by
    obtain ⟨p0, F0, e⟩ := List.exists_cons_of_ne_nil (show F ≠ [] by rw [hF]; exact hf)
    have hall : ∀ p ∈ F, kc p.2.kind c := fun p hp => by
      have := kc_of (gV_kind (hgF p hp))
      rwa [hc p (hF ▸ hp)] at this
    rw [e] at hall ⊢
    exact kc_com (hall p0 (List.mem_cons_self ..)) hall
  have hk0 : comK F ≠ 0 := by unfold kc at hk; omega
  rw [flatMap_full (f := itsA d) (fun p _ hp => its_zero hp)]
  rw [← hF] at hc hs hf ⊢
  have hne : ¬ (comK F = 0 ∨ 1048576 < lensZ F) := by omega
  have hb : joinB Z = true := by unfold joinB; rw [← hF, if_neg hf, if_neg hne]
  have hj : joinZ Z = if comK F = 1 then .bits (F.flatMap fun p => p.2.packed) else if comK F = 5 then .chars (F.flatMap fun p => p.2.text) else if comK F = 6 then .boxes (F.flatMap fun p => p.2.boxs) else (VV.floats (F.flatMap fun p => p.2.nums)).sq := by
    unfold joinZ; rw [← hF, if_neg hf, if_neg hne]
  refine ⟨hb, ?_⟩
  rcases hk with ⟨rfl, h1, h4⟩ | ⟨rfl, h5⟩ | ⟨rfl, h6⟩
  · have hn : ∀ x ∈ (F.flatMap fun p => p.2.nums), Num x := fun x hx => by
      obtain ⟨p, hp, hxp⟩ := List.mem_flatMap.1 hx
      exact VV.nums_num (hgF p hp).1 (hgF p hp).2.1 x hxp
    have hl : (F.flatMap fun p => p.2.nums).length ≤ 1048576 := by rw [flat_sum (f := VV.nums) (fun p hp => VV.nums_length (hc p hp))]; exact hs
    have hits : (F.flatMap fun p => itsA d p.2) = (F.flatMap fun p => p.2.nums).map fun x => (0, x, 0, []) := by
      rw [flatMap_map' (f := VV.nums)]; exact flatMap_congr' (f := itsA d) (g := fun V => V.nums.map fun x => (0, x, 0, [])) (fun p hp => its_num (hc p hp))
    by_cases e1 : comK F = 1
    · have e : comK F = comZ (comK F) [] := rfl
      have hbit : ∀ p ∈ F, p.2.isBit = true := fun p hp => by
        obtain ⟨p0, F0, e0⟩ := List.exists_cons_of_ne_nil hf
        have ek : comK F = comZ p0.2.kind F := by rw [e0]; rfl
        have := ((comZ_all (Z := F) (k0 := p0.2.kind) (by rw [← ek]; exact hk0)).2.1 (by rw [← ek]; omega)).2 p hp
        rw [← ek] at this
        exact VV.kind_bit (by omega)
      rw [hj, if_pos e1, hits]
      have hlb : (F.flatMap fun p => p.2.packed).length ≤ 1048576 := by rw [flat_sum (f := VV.packed) (fun p hp => VV.packed_len (hbit p hp))]; exact hs
      refine ⟨gV_bits hlb, rfl, ?_⟩
      rw [its_num rfl]
      congr 1
      show (F.flatMap fun p => p.2.packed).map flagW = _
      rw [flatMap_map' (f := VV.packed)]
      exact flatMap_congr' (f := fun V => V.packed.map flagW) (g := VV.nums) (fun p hp => by have := hbit p hp; revert this; cases p.2 <;> simp [VV.isBit, VV.packed, VV.nums])
    · rw [hj, if_neg e1, if_neg (by omega), if_neg (by omega), hits]
      obtain ⟨g1, g2, g3⟩ := gV_floats (d := d) hl hn
      exact ⟨g1, g2, by rw [its_num g2, g3]⟩
  · rw [hj, if_neg (by omega), if_pos h5]
    have hl : (F.flatMap fun p => p.2.text).length ≤ 1048576 := by rw [flat_sum (f := VV.text) (fun p hp => VV.text_len (hc p hp))]; exact hs
    refine ⟨gV_chars hl, rfl, ?_⟩
    rw [its_chr rfl, text_chars, flatMap_map' (f := VV.text)]
    exact (flatMap_congr' (f := itsA d) (g := fun V => V.text.map fun x => (1, 0, x, [])) (fun p hp => its_chr (hc p hp))).symm
  · rw [hj, if_neg (by omega), if_neg (by omega), if_pos h6]
    have hl : (F.flatMap fun p => p.2.boxs).length ≤ 1048576 := by rw [flat_sum (f := VV.boxs) (fun p hp => VV.boxs_len (hc p hp))]; exact hs
    refine ⟨gV_boxes hl (fun a ha => ?_) (fun a ha => ?_), rfl, ?_⟩
    · obtain ⟨p, hp, hap⟩ := List.mem_flatMap.1 ha; exact gV_box (hgF p hp) a hap
    · obtain ⟨p, hp, hap⟩ := List.mem_flatMap.1 ha; exact (hgF p hp).2.2.2 a hap
    · rw [its_box rfl, boxs_boxes, flatMap_map' (f := VV.boxs)]
      exact (flatMap_congr' (f := itsA d) (g := fun V => V.boxs.map fun a => (2, 0, 0, [plA d a])) (fun p hp => its_box (hc p hp))).symm
end Go.Proofs.YtohjomhiibkobaaGreatDoor

/- Layer 8's law, its parts: List, good, shows. -/
namespace Go.Proofs.YtohjomhiibkobaaGreatDoor
set_option maxRecDepth 100000
open Go.RowKit Fl
set_option linter.unusedVariables false

set_option maxHeartbeats 4000000 in
theorem rlist_calls {ok : Nat → Prop} (lv : Value) (l : List PI) (c : Int) (w : World) (hl : Its w ok lv l) :
    Calls Tryz.prog 55 #[lv, .int .i64 c] w fun e w' => ∃ u, e = .returned u ∧ IsP w' (fun b => (ok b ∧ b < w.heap.size) ∨ w.heap.size ≤ b) u (.mk [(l.length : Int)] l c) ∧ Below w.heap.size w w' := by
  have HL := Lib.hid hl.lt
  obtain ⟨ao, cap, rfl, _, _⟩ := hl.len
  clear hl
  go_enter Tryz.func55, Tryz.ntmps55
  go_wp2_with fail
  refine bodyPost_ret (v := .agg #[.slice (some ⟨w.heap.size + 1, 0, none⟩) 1 1, .slice ao l.length cap, .int .i64 c]) (by simp [results, Tryz.results55, go_sem]) rfl ⟨_, rfl, ?_, (below_new _ _).alloc (by simp) _⟩
  have h1 := Slc.owned (World.ownsRow_lit (base := w.heap.size) (e := 3) (size := 1) (w.alloc (.cells #[.slice (some ⟨w.heap.size + 1, 0, none⟩) 1 1, .slice ao l.length cap, .int .i64 c] 27)) #[.int .i64 (l.length : Int)] 1 (by simp) (by unfold maxLen; omega) rfl)
  simp only [World.size_alloc] at h1
  exact IsP.of (s := [(l.length : Int)]) (h1.keep (Kept.refl _ _) (fun b _ h => Or.inr h)) ((HL.out.grow ((below_new w _).alloc (by simp) _)).wide (fun b _ h => Or.inl h))

def GoodIs (p : PA) (w : World) (e : Ending) (w' : World) : Prop := ∃ g : Bool, e = .returned (.bool g) ∧ (g = true → chk 40 p = 0) ∧ Below w.heap.size w w'

set_option maxHeartbeats 4000000 in
theorem good8_calls (ok : Nat → Prop) (p : PA) (u : Value) (n : Nat) (w : World) (hl : lo n p) (hp : IsP w ok u p) :
    Calls Tryz.prog 24 #[u] w (GoodIs p w) := by
  have HP := Lib.hid hp
  have HL := Lib.hid hl
  obtain ⟨so, sc, io, ic, rfl, hs, hit⟩ := hp.opened
  obtain ⟨W1, hW1⟩ : ∃ W1, W1 = w.alloc (.cells #[.slice so p.s.length sc, .slice io p.l.length ic, .int .i64 p.f] 27) := ⟨_, rfl⟩
  have HB := Lib.hid (show Below w.heap.size w W1 by rw [hW1]; exact below_new _ _)
  have HA := Lib.hid (show At3 W1 w.heap.size (.slice so p.s.length sc) (.slice io p.l.length ic) (.int .i64 p.f) by rw [hW1]; exact At3.new w _ _ _ _)
  have HI := Lib.hid (show IsP W1 ok _ p from HP.out.grow HB.out)
  have hfold := hW1.symm
  obtain ⟨cc, hcc⟩ : ∃ cc, cc = chk 40 p := ⟨_, rfl⟩
  have HCC := Lib.hid hcc
  clear hs hit hp hl hW1 hcc
  have cHA0 := HA.out.2.1
  have cHA1 := HA.out.2.2.1
  have cHA2 := HA.out.2.2.2.1
  go_enter Tryz.func24, Tryz.ntmps24
  go_wp2_with fail
  clear hfold
  refine (pcount_calls n _ p _ _ _ HL.out HI.out).mono ?_
  rintro e W11 ⟨cn, rfl, hB⟩
  clear cHA0 cHA1 cHA2
  replace HA := Lib.hid (HA.out.below hB)
  replace HB := Lib.hid (HB.out.trans (hB.mono HB.out.size))
  replace HI := Lib.hid (HI.out.grow hB)
  clear hB
  have cHA0 := HA.out.2.1
  have cHA1 := HA.out.2.2.1
  have cHA2 := HA.out.2.2.2.1
  by_cases hcn : cn ≤ 2000
  rotate_left
  · go_wp2_with fail
    go_ret
    exact ⟨false, rfl, (fun h => by cases h), HB.out⟩
  go_wp2_with fail
  refine (vCheck_calls _ p _ n _ HL.out HI.out).mono ?_
  rintro e W12 ⟨rfl, hB⟩
  clear cHA0 cHA1 cHA2
  replace HA := Lib.hid (HA.out.below hB)
  replace HB := Lib.hid (HB.out.trans (hB.mono HB.out.size))
  replace HI := Lib.hid (HI.out.grow hB)
  rw [← HCC.out]
  clear hB
  have cHA0 := HA.out.2.1
  have cHA1 := HA.out.2.2.1
  have cHA2 := HA.out.2.2.2.1
  by_cases hc0 : cc = 0
  · have HC0 := Lib.hid hc0
    have hce : (cc == 0) = true := by simpa using hc0
    clear hc0
    go_wp2_with fail
    go_ret
    exact ⟨true, rfl, (fun h => by exact HCC.out ▸ HC0.out), HB.out⟩
  · have HC0 := Lib.hid hc0
    have hce : (cc == 0) = false := by simpa using hc0
    clear hc0
    go_wp2_with fail
    go_ret
    exact ⟨false, rfl, (fun h => by cases h), HB.out⟩

set_option maxHeartbeats 4000000 in
theorem shows8_calls {ok ok2 : Nat → Prop} (u : Value) (V : VV) (lv : Value) (l : List PI) (c : Int) (w : World) (hu : IsV w ok u V) (hV : gV 39 V) (hc : V.cls = c) (hl : Its w ok2 lv l) (he : l = itsA 39 V) (hT : TabAt w) :
    Calls Tryz.prog 26 #[.agg #[u], lv, .int .i64 c] w (BoolIs true w) := by
  obtain ⟨ao, cap, rfl, _, _⟩ := hl.len
  have hsu := hu.store
  obtain ⟨W1, hW1⟩ : ∃ W1, W1 = w.alloc (.cells #[u] 32) := ⟨_, rfl⟩
  have HB := Lib.hid (show Below w.heap.size w W1 by rw [hW1]; exact below_new _ _)
  have HA := Lib.hid (show At1 W1 w.heap.size u by rw [hW1]; exact At1.new w _ _)
  have HU := Lib.hid (show IsV W1 ok u V from hu.grow HB.out)
  have HL := Lib.hid (show Its W1 ok2 (.slice ao l.length cap) l from hl.grow HB.out)
  have HT := Lib.hid (show TabAt W1 from fun j hj => keep_below HB.out _ _ (hT j hj))
  have HV := Lib.hid hV
  have HC := Lib.hid hc
  have HE := Lib.hid he
  have hkz := gV_kind hV
  have hks := hV.2.2.1
  obtain ⟨kd, hkd⟩ : ∃ kd, kd = V.kind := ⟨_, rfl⟩
  have HKD := Lib.hid hkd
  rw [← hkd] at hkz
  have hkz2 : (kd == 0) = false := by simpa using hkz
  have HDT := Lib.hid (show decide (V.kind = (V.least : Int)) = true from decide_eq_true hks)
  have hfold := hW1.symm
  clear hu hl hT hV hc he hW1 hkz hks hkd
  have cHA0 := HA.out.2.1
  go_enter Tryz.func26, Tryz.ntmps26
  go_wp2_with fail
  clear hfold
  refine (class_calls _ V _ HU.out).mono ?_
  rintro e W11 ⟨rfl, hB⟩
  clear cHA0
  replace HA := Lib.hid (HA.out.below hB)
  replace HB := Lib.hid (HB.out.trans (hB.mono HB.out.size))
  replace HU := Lib.hid (HU.out.grow hB)
  replace HL := Lib.hid (HL.out.grow hB)
  replace HT := Lib.hid (fun j hj => keep_below hB _ _ (HT.out j hj))
  rw [HC.out]
  clear hB
  have cHA0 := HA.out.2.1
  go_wp2_with fail
  refine (tight_calls _ V _ HU.out HV.out.1 HV.out.2.1 HT.out).mono ?_
  rintro e W12 ⟨rfl, hB⟩
  clear cHA0
  replace HA := Lib.hid (HA.out.below hB)
  replace HB := Lib.hid (HB.out.trans (hB.mono HB.out.size))
  replace HU := Lib.hid (HU.out.grow hB)
  replace HL := Lib.hid (HL.out.grow hB)
  replace HT := Lib.hid (fun j hj => keep_below hB _ _ (HT.out j hj))
  rw [HDT.out]
  clear hB
  have cHA0 := HA.out.2.1
  go_wp2_with fail
  refine (kind_calls _ V _ HU.out).mono ?_
  rintro e W13 ⟨rfl, hB⟩
  clear cHA0
  replace HA := Lib.hid (HA.out.below hB)
  replace HB := Lib.hid (HB.out.trans (hB.mono HB.out.size))
  replace HU := Lib.hid (HU.out.grow hB)
  replace HL := Lib.hid (HL.out.grow hB)
  replace HT := Lib.hid (fun j hj => keep_below hB _ _ (HT.out j hj))
  rw [← HKD.out]
  clear hB
  have cHA0 := HA.out.2.1
  go_wp2_with fail
  have HPL := Lib.hid (show plA 40 ([(V.len : Int)], V) = .mk [(l.length : Int)] l c by rw [show (40 : Nat) = 39 + 1 from rfl, plA_list, ← HE.out, HC.out])
  have HGA := Lib.hid (gV_gA HV.out)
  have HNI := Lib.hid (show nice 40 (.mk [(l.length : Int)] l c) by rw [← HPL.out]; exact nice_plA 40 _ HGA.out)
  obtain ⟨W14, hWD⟩ : ∃ xw9, W13.drew = xw9 := ⟨_, rfl⟩
  have hB : Below W13.heap.size W13 W14 := by rw [← hWD]; exact Below.drewN' (Below.refl _ _) 1
  clear cHA0
  replace HA := Lib.hid (HA.out.below hB)
  replace HB := Lib.hid (HB.out.trans (hB.mono HB.out.size))
  replace HU := Lib.hid (HU.out.grow hB)
  replace HL := Lib.hid (HL.out.grow hB)
  replace HT := Lib.hid (fun j hj => keep_below hB _ _ (HT.out j hj))
  clear hB
  refine wp_region_held_drew (S := fun w' => w'.cell? ⟨w.heap.size, 0, none⟩ = some u) (by kernel_rfl) (by rw [hWD]; exact HA.out.2.1) (fun hHeld => ?_)
  rw [hWD] at hHeld ⊢
  clear hWD
  refine wpAnyH_take (i := 0) (v := ?_) rfl (by kernel_rfl) (by kernel_rfl) (by kernel_rfl) (fun _ _ _ h => h) (Or.inl ⟨by rfl, ?_⟩) (by assumption) ?_
  rotate_left
  · (intro w hSw; (try dsimp only at hSw); go_simp; try with_reducible rfl)
  simp only [Act.put, List.getElem_toArray, List.getElem_cons_zero, List.setIfInBounds_toArray, List.set_cons_zero, List.set_cons_succ]
  refine wpAnyH_take (i := 3) (v := ?_) rfl (by kernel_rfl) (by kernel_rfl) (by kernel_rfl) (fun _ _ _ h => h) (Or.inl ⟨by rfl, ?_⟩) (by assumption) ?_
  rotate_left
  · (intro w hSw; (try dsimp only at hSw); go_simp; try with_reducible rfl)
  simp only [Act.put, List.getElem_toArray, List.getElem_cons_succ, List.getElem_cons_zero, List.setIfInBounds_toArray, List.set_cons_zero, List.set_cons_succ]
  refine wpAnyH_take (i := 6) (v := ?_) rfl (by kernel_rfl) (by kernel_rfl) (by kernel_rfl) (fun _ _ _ h => h) (Or.inl ⟨by rfl, ?_⟩) (by assumption) ?_
  rotate_left
  · (intro w hSw; (try dsimp only at hSw); go_simp; try with_reducible rfl)
  simp only [Act.put, List.getElem_toArray, List.getElem_cons_succ, List.getElem_cons_zero, List.setIfInBounds_toArray, List.set_cons_zero, List.set_cons_succ]
  refine wpAnyH_take (i := 7) (v := ?_) rfl (by kernel_rfl) (by kernel_rfl) (by kernel_rfl) (fun _ _ _ h => h) (Or.inl ⟨by rfl, ?_⟩) (by assumption) ?_
  rotate_left
  · (intro w hSw; (try dsimp only at hSw); go_simp; try with_reducible rfl)
  simp only [Act.put, List.getElem_toArray, List.getElem_cons_succ, List.getElem_cons_zero, List.setIfInBounds_toArray, List.set_cons_zero, List.set_cons_succ]
  refine wpAnyH_ready (rs := [1]) (by kernel_rfl) (by simp) ?_
  refine AllReadyH.cons (o := _) rfl (fun K hK => ?_) ?_
  · clear hHeld
    go_simp
    refine (vlen_calls _ V _ HU.out).mono ?_
    rintro e W15 ⟨rfl, hB⟩
    replace HA := Lib.hid (HA.out.below hB)
    replace HB := Lib.hid (HB.out.trans (hB.mono HB.out.size))
    replace HU := Lib.hid (HU.out.grow hB)
    replace HL := Lib.hid (HL.out.grow hB)
    replace HT := Lib.hid (fun j hj => keep_below hB _ _ (HT.out j hj))
    clear hB
    refine hK.out _ _ ?_ (fun hHeld => ?_)
    · exact HA.out.2.1
    clear hK K
    refine wpAnyH_ready (rs := [2]) (by kernel_rfl) (by simp) ?_
    refine AllReadyH.cons (o := _) rfl (fun K hK => ?_) ?_
    · clear hHeld
      go_simp
      obtain ⟨W16, hWn⟩ : ∃ xw9, W15.alloc (.cells #[.int .i64 (V.len : Int)] 3) = xw9 := ⟨_, rfl⟩
      have hB : Below W15.heap.size W15 W16 := by rw [← hWn]; exact below_new _ _
      have hNB : Slc W16 (fun _ => True) (.slice (some ⟨W15.heap.size, 0, none⟩) 1 1) 1 (ints [(V.len : Int)]) := by
        rw [← hWn]; exact (Slc.owned (World.ownsRow_lit (base := 0) (e := 3) (size := 1) W15 #[.int .i64 (V.len : Int)] 1 (Nat.zero_le _) (by unfold maxLen; omega) rfl)).keep (Kept.refl _ _) (fun _ _ _ => trivial)
      rw [hWn]
      clear hWn
      obtain ⟨bl, hnm⟩ : ∃ x, W15.heap.size = x := ⟨_, rfl⟩
      rw [hnm] at hNB ⊢
      replace HA := Lib.hid (HA.out.below hB)
      replace HB := Lib.hid (HB.out.trans (hB.mono HB.out.size))
      replace HU := Lib.hid (HU.out.grow hB)
      replace HL := Lib.hid (HL.out.grow hB)
      replace HT := Lib.hid (fun j hj => keep_below hB _ _ (HT.out j hj))
      have HSL := Lib.hid hNB
      clear hNB hB hnm
      refine hK.out _ _ ?_ (fun hHeld => ?_)
      · exact HA.out.2.1
      clear hK K
      refine wpAnyH_take (i := 4) (v := ?_) rfl (by kernel_rfl) (by kernel_rfl) (by kernel_rfl) (fun _ _ _ h => h) (Or.inl ⟨by rfl, ?_⟩) (by assumption) ?_
      rotate_left
      · (intro w hSw; (try dsimp only at hSw); go_simp; try with_reducible rfl)
      simp only [Act.put, List.getElem_toArray, List.getElem_cons_succ, List.getElem_cons_zero, List.setIfInBounds_toArray, List.set_cons_zero, List.set_cons_succ]
      refine wpAnyH_ready (rs := [5]) (by kernel_rfl) (by simp) ?_
      refine AllReadyH.cons (o := _) rfl (fun K hK => ?_) ?_
      · clear hHeld
        go_simp
        refine (plain_calls_at 40 (fun _ => True) ([(V.len : Int)], V) _ _ _ (gA_dA HGA.out) ⟨HSL.out, HU.out.wide (fun _ _ _ => trivial)⟩).mono ?_
        rintro e W17 ⟨up, rfl, hup, hB⟩
        replace HA := Lib.hid (HA.out.below hB)
        replace HB := Lib.hid (HB.out.trans (hB.mono HB.out.size))
        replace HU := Lib.hid (HU.out.grow hB)
        replace HL := Lib.hid (HL.out.grow hB)
        replace HT := Lib.hid (fun j hj => keep_below hB _ _ (HT.out j hj))
        replace HSL := Lib.hid (HSL.out.below hB)
        rw [HPL.out] at hup
        have HUP := Lib.hid hup
        obtain ⟨uso, usc, uio, uic, rfl, _⟩ := hup.opened
        clear hup
        clear hB
        refine hK.out _ _ ?_ (fun hHeld => ?_)
        · exact HA.out.2.1
        clear hK K
        refine wpAnyH_ready (rs := [8]) (by kernel_rfl) (by simp) ?_
        refine AllReadyH.cons (o := _) rfl (fun K hK => ?_) ?_
        · clear hHeld
          go_simp
          refine (rlist_calls _ l c _ HL.out).mono ?_
          rintro e W18 ⟨uq, rfl, huq, hB⟩
          replace HA := Lib.hid (HA.out.below hB)
          replace HB := Lib.hid (HB.out.trans (hB.mono HB.out.size))
          replace HU := Lib.hid (HU.out.grow hB)
          replace HL := Lib.hid (HL.out.grow hB)
          replace HT := Lib.hid (fun j hj => keep_below hB _ _ (HT.out j hj))
          replace HSL := Lib.hid (HSL.out.below hB)
          replace HUP := Lib.hid (HUP.out.grow hB)
          have HUQ := Lib.hid huq
          obtain ⟨qso, qsc, qio, qic, rfl, _⟩ := huq.opened
          clear huq
          clear hB
          refine hK.out _ _ ?_ (fun hHeld => ?_)
          · exact HA.out.2.1
          clear hK K
          refine wpAnyH_ready (rs := [9]) (by kernel_rfl) (by simp) ?_
          refine AllReadyH.cons (o := _) rfl (fun K hK => ?_) ?_
          · clear hHeld
            go_simp
            refine (psame_calls 40 _ _ (.mk [(l.length : Int)] l c) (.mk [(l.length : Int)] l c) _ _ 40 _ HNI.out HNI.out HUP.out HUQ.out).mono ?_
            rintro e W19 ⟨rfl, hB⟩
            replace HA := Lib.hid (HA.out.below hB)
            replace HB := Lib.hid (HB.out.trans (hB.mono HB.out.size))
            replace HU := Lib.hid (HU.out.grow hB)
            replace HL := Lib.hid (HL.out.grow hB)
            replace HT := Lib.hid (fun j hj => keep_below hB _ _ (HT.out j hj))
            replace HSL := Lib.hid (HSL.out.below hB)
            replace HUP := Lib.hid (HUP.out.grow hB)
            replace HUQ := Lib.hid (HUQ.out.grow hB)
            rw [pq_yes rfl]
            clear hB
            refine hK.out _ _ ?_ (fun hHeld => ?_)
            · exact HA.out.2.1
            clear hK K
            refine wpAnyH_take (i := 10) (v := ?_) rfl (by kernel_rfl) (by kernel_rfl) (by kernel_rfl) (fun _ _ _ h => h) (Or.inl ⟨by rfl, ?_⟩) (by assumption) ?_
            rotate_left
            · (intro w hSw; (try dsimp only at hSw); go_simp; try with_reducible rfl)
            simp only [Act.put, List.getElem_toArray, List.getElem_cons_succ, List.getElem_cons_zero, List.setIfInBounds_toArray, List.set_cons_zero, List.set_cons_succ]
            refine wpAnyH_done (by kernel_rfl) ?_ _
            clear hHeld
            have cHA0 := HA.out.2.1
            go_wp2_with fail
            go_ret
            exact BoolIs.mk rfl HB.out
          exact AllReadyH.nil
        exact AllReadyH.nil
      exact AllReadyH.nil
    exact AllReadyH.nil
  exact AllReadyH.nil
end Go.Proofs.YtohjomhiibkobaaGreatDoor

/- Layer 8's law: awake, FlatPicks. -/
namespace Go.Proofs.YtohjomhiibkobaaGreatDoor
set_option maxRecDepth 100000
open Go.RowKit Fl
set_option linter.unusedVariables false

def aw8 : PA := .mk [3] [(0, 4617315517961601024, 0, []), (0, 4618441417868443648, 0, []), (0, 4619567317775286272, 0, [])] 0
theorem aw8_chk : chk 40 aw8 = 0 := by decide +kernel
theorem aw8_tidy : tidyP 40 aw8 = aw8 := by
  have e5 : ze 4617315517961601024 = 4617315517961601024 := by decide +kernel
  have e6 : ze 4618441417868443648 = 4618441417868443648 := by decide +kernel
  have e7 : ze 4619567317775286272 = 4619567317775286272 := by decide +kernel
  show PA.mk _ (aw8.l.map (tidyI (tidyP 39))) _ = aw8
  simp [aw8, PA.l, PA.s, PA.f, tidyI, e5, e6, e7]
theorem aw8_arr : (arrP 40 aw8).2 = (VV.floats ([4617315517961601024, 4618441417868443648, 4619567317775286272].map ze)).sq := by
  rw [show (40 : Nat) = 39 + 1 from rfl, arrP_zero rfl]
  rfl
theorem aw8_fin : ∀ x ∈ [4617315517961601024, 4618441417868443648, 4619567317775286272], Fnt x := by
  intro x hx
  simp only [List.mem_cons, List.not_mem_nil, or_false] at hx
  rcases hx with rfl | rfl | rfl <;> decide +kernel
theorem aw8_gV : gV 39 (arrP 40 aw8).2 := gA_gV (d := 39) (arrP_good 40 aw8 aw8_chk)
theorem aw8_its : itsA 39 ((arrP 40 aw8).2.sel [2, -1, 0]) = [(0, 4619567317775286272, 0, []), (0, 0, 0, []), (0, 4617315517961601024, 0, [])] := by
  rw [its_sel (d := 38) aw8_gV (by simp), its_arrP (d := 39) aw8_chk, show tidyP (39 + 1) aw8 = aw8 from aw8_tidy]
  have hc : (arrP 40 aw8).2.cls = 0 := (arrP_len (d := 40) aw8_chk).2.1
  rw [hc]
  rfl
theorem aw8_cls : ((arrP 40 aw8).2.sel [2, -1, 0]).cls = 0 := by
  rw [VV.sel_cls _ _ (VV.nums_num aw8_gV.1 aw8_gV.2.1) (by simp)]
  exact (arrP_len (d := 40) aw8_chk).2.1

set_option maxHeartbeats 4000000 in
theorem awake8_calls (w : World) (hT : TabAt w) : Calls Tryz.prog 25 #[] w (BoolIs true w) := by
  obtain ⟨W1, hW1⟩ : ∃ W1, W1 = w.alloc (.cells #[.float .f64 4617315517961601024, .float .f64 4618441417868443648, .float .f64 4619567317775286272] 22) := ⟨_, rfl⟩
  have HB := Lib.hid (show Below w.heap.size w W1 by rw [hW1]; exact below_new _ _)
  have HV := Lib.hid (show Slc W1 (fun _ => True) (.slice (some ⟨w.heap.size, 0, none⟩) 3 3) [4617315517961601024, 4618441417868443648, 4619567317775286272].length (f64s [4617315517961601024, 4618441417868443648, 4619567317775286272]) by
    rw [hW1]; exact (Slc.owned (World.ownsRow_lit (base := 0) (e := 22) (size := 1) w #[.float .f64 4617315517961601024, .float .f64 4618441417868443648, .float .f64 4619567317775286272] 3 (Nat.zero_le _) (by unfold maxLen; omega) rfl)).keep (Kept.refl _ _) (fun _ _ _ => trivial))
  have HT := Lib.hid (show TabAt W1 from fun j hj => keep_below HB.out _ _ (hT j hj))
  have hfold := hW1.symm
  obtain ⟨V, hV⟩ : ∃ V, V = (arrP 40 aw8).2 := ⟨_, rfl⟩
  have HVV := Lib.hid hV
  have HGV := Lib.hid (show gV 39 V by rw [hV]; exact aw8_gV)
  have HGP := Lib.hid (gV_sel (d := 38) (at_ := [2, -1, 0]) HGV.out (by simp))
  have HIT := Lib.hid (show itsA 39 (V.sel [2, -1, 0]) = [(0, 4619567317775286272, 0, []), (0, 0, 0, []), (0, 4617315517961601024, 0, [])] by rw [hV]; exact aw8_its)
  have HCL := Lib.hid (show (V.sel [2, -1, 0]).cls = 0 by rw [hV]; exact aw8_cls)
  clear hW1 hV hT
  go_enter Tryz.func25, Tryz.ntmps25
  go_wp2_with fail
  clear hfold
  refine (numbers_yes _ [4617315517961601024, 4618441417868443648, 4619567317775286272] _ HV.out (by simp) aw8_fin HT.out).mono ?_
  rintro e W11 ⟨u, rfl, hu, hB⟩
  replace HB := Lib.hid (HB.out.trans (hB.mono HB.out.size))
  replace HV := Lib.hid (HV.out.below hB)
  replace HT := Lib.hid (fun j hj => keep_below hB _ _ (HT.out j hj))
  rw [← aw8_arr, ← HVV.out] at hu
  have HU := Lib.hid (show IsV W11 (fun _ => True) u V from IsV.any hu)
  have hsu := HU.out.store
  clear hu
  clear hB
  go_wp2_with fail
  obtain ⟨W12, hWn⟩ : ∃ xw9, W11.alloc (.cells #[u] 32) = xw9 := ⟨_, rfl⟩
  have hB : Below W11.heap.size W11 W12 := by rw [← hWn]; exact below_new _ _
  have hNB : At1 W12 W11.heap.size (u) := by rw [← hWn]; exact At1.new _ _ _
  have hsz9 : W12.heap.size = W11.heap.size + 1 := by rw [← hWn]; simp
  rw [hWn]
  clear hWn
  obtain ⟨bv, hnm⟩ : ∃ x, W11.heap.size = x := ⟨_, rfl⟩
  rw [hnm] at hNB hsz9 ⊢
  have HZW12 := Lib.hid hsz9
  clear hsz9
  replace HB := Lib.hid (HB.out.trans (hB.mono HB.out.size))
  replace HV := Lib.hid (HV.out.below hB)
  replace HT := Lib.hid (fun j hj => keep_below hB _ _ (HT.out j hj))
  replace HU := Lib.hid (HU.out.grow hB)
  have HVW := Lib.hid hNB
  clear hNB hB hnm
  have cHVW0 := HVW.out.2.1
  clear cHVW0
  obtain ⟨W13, hWn⟩ : ∃ xw9, W12.alloc (.cells #[.int .i64 2, .int .i64 (-1), .int .i64 0] 3) = xw9 := ⟨_, rfl⟩
  have hB : Below W12.heap.size W12 W13 := by rw [← hWn]; exact below_new _ _
  have hNB : Slc W13 (fun _ => True) (.slice (some ⟨W12.heap.size, 0, none⟩) 3 3) 3 (ints [2, -1, 0]) := by
    rw [← hWn]; exact (Slc.owned (World.ownsRow_lit (base := 0) (e := 3) (size := 1) W12 #[.int .i64 2, .int .i64 (-1), .int .i64 0] 3 (Nat.zero_le _) (by unfold maxLen; omega) rfl)).keep (Kept.refl _ _) (fun _ _ _ => trivial)
  rw [hWn]
  clear hWn
  rw [HZW12.out] at hNB
  replace HB := Lib.hid (HB.out.trans (hB.mono HB.out.size))
  replace HV := Lib.hid (HV.out.below hB)
  replace HT := Lib.hid (fun j hj => keep_below hB _ _ (HT.out j hj))
  replace HU := Lib.hid (HU.out.grow hB)
  replace HVW := Lib.hid (HVW.out.below hB)
  have HAT := Lib.hid hNB
  clear hNB hB
  refine (pick_calls _ V _ [2, -1, 0] _ HU.out HGV.out.1 HGV.out.2.1 (gV_box HGV.out) HAT.out (by simp) HT.out).mono ?_
  rintro e W14 ⟨u2, rfl, hu, hB⟩
  replace HB := Lib.hid (HB.out.trans (hB.mono HB.out.size))
  replace HV := Lib.hid (HV.out.below hB)
  replace HT := Lib.hid (fun j hj => keep_below hB _ _ (HT.out j hj))
  replace HU := Lib.hid (HU.out.grow hB)
  replace HVW := Lib.hid (HVW.out.below hB)
  replace HAT := Lib.hid (HAT.out.below hB)
  have HU2 := Lib.hid (show IsV W14 (fun _ => True) u2 (V.sel [2, -1, 0]) from IsV.any hu)
  have hsu2 := HU2.out.store
  clear hu
  clear hB
  have cHVW0 := HVW.out.2.1
  go_wp2_with fail
  obtain ⟨W15, hWn⟩ : ∃ xw9, W14.alloc (.cells #[u2] 32) = xw9 := ⟨_, rfl⟩
  have hB : Below W14.heap.size W14 W15 := by rw [← hWn]; exact below_new _ _
  have hNB : At1 W15 W14.heap.size (u2) := by rw [← hWn]; exact At1.new _ _ _
  have hsz9 : W15.heap.size = W14.heap.size + 1 := by rw [← hWn]; simp
  rw [hWn]
  clear hWn
  obtain ⟨bp, hnm⟩ : ∃ x, W14.heap.size = x := ⟨_, rfl⟩
  rw [hnm] at hNB hsz9 ⊢
  have HZW15 := Lib.hid hsz9
  clear hsz9
  clear cHVW0
  replace HB := Lib.hid (HB.out.trans (hB.mono HB.out.size))
  replace HV := Lib.hid (HV.out.below hB)
  replace HT := Lib.hid (fun j hj => keep_below hB _ _ (HT.out j hj))
  replace HU := Lib.hid (HU.out.grow hB)
  replace HVW := Lib.hid (HVW.out.below hB)
  replace HAT := Lib.hid (HAT.out.below hB)
  replace HU2 := Lib.hid (HU2.out.grow hB)
  have HPW := Lib.hid hNB
  clear hNB hB hnm
  have cHVW0 := HVW.out.2.1
  have cHPW0 := HPW.out.2.1
  clear cHVW0 cHPW0
  obtain ⟨W16, hWn⟩ : ∃ xw9, W15.alloc (.cells #[.int .i64 0, .float .f64 4619567317775286272, .int .i32 0, .slice none 0 0, .int .i64 0, .float .f64 0, .int .i32 0, .slice none 0 0, .int .i64 0, .float .f64 4617315517961601024, .int .i32 0, .slice none 0 0] 47) = xw9 := ⟨_, rfl⟩
  have hB : Below W15.heap.size W15 W16 := by rw [← hWn]; exact below_new _ _
  have hNB : Its W16 (fun _ => True) (.slice (some ⟨W15.heap.size, 0, none⟩) 3 3) [(0, 4619567317775286272, 0, []), (0, 0, 0, []), (0, 4617315517961601024, 0, [])] := by
    rw [← hWn]
    refine (Its.of_own (ok := fun _ => True) (base := 0) (L := [(0, 4619567317775286272, 0, .slice none 0 0), (0, 0, 0, .slice none 0 0), (0, 4617315517961601024, 0, .slice none 0 0)]) (World.ownsRow_lit (base := 0) (e := 47) (size := 4) W15 #[.int .i64 0, .float .f64 4619567317775286272, .int .i32 0, .slice none 0 0, .int .i64 0, .float .f64 0, .int .i32 0, .slice none 0 0, .int .i64 0, .float .f64 4617315517961601024, .int .i32 0, .slice none 0 0] 3 (Nat.zero_le _) (by unfold maxLen; omega) rfl) ?_).wide (fun _ _ _ => trivial)
    exact (((Quad.nil _ _).snoc (x := (0, 4619567317775286272, 0, [])) (IsB.nil _ _)).snoc (x := (0, 0, 0, [])) (IsB.nil _ _)).snoc (x := (0, 4617315517961601024, 0, [])) (IsB.nil _ _)
  rw [hWn]
  clear hWn
  rw [HZW15.out] at hNB
  replace HB := Lib.hid (HB.out.trans (hB.mono HB.out.size))
  replace HV := Lib.hid (HV.out.below hB)
  replace HT := Lib.hid (fun j hj => keep_below hB _ _ (HT.out j hj))
  replace HU := Lib.hid (HU.out.grow hB)
  replace HVW := Lib.hid (HVW.out.below hB)
  replace HAT := Lib.hid (HAT.out.below hB)
  replace HU2 := Lib.hid (HU2.out.grow hB)
  replace HPW := Lib.hid (HPW.out.below hB)
  have HITS := Lib.hid hNB
  clear hNB hB
  refine (shows8_calls _ (V.sel [2, -1, 0]) _ _ 0 _ HU2.out HGP.out HCL.out HITS.out HIT.out.symm HT.out).mono ?_
  rintro e W17 ⟨rfl, hB⟩
  replace HB := Lib.hid (HB.out.trans (hB.mono HB.out.size))
  replace HV := Lib.hid (HV.out.below hB)
  replace HT := Lib.hid (fun j hj => keep_below hB _ _ (HT.out j hj))
  replace HU := Lib.hid (HU.out.grow hB)
  replace HVW := Lib.hid (HVW.out.below hB)
  replace HAT := Lib.hid (HAT.out.below hB)
  replace HU2 := Lib.hid (HU2.out.grow hB)
  replace HPW := Lib.hid (HPW.out.below hB)
  replace HITS := Lib.hid (HITS.out.grow hB)
  clear hB
  have cHVW0 := HVW.out.2.1
  have cHPW0 := HPW.out.2.1
  go_wp2_with fail
  go_ret
  exact BoolIs.mk rfl HB.out
end Go.Proofs.YtohjomhiibkobaaGreatDoor

/- Layer 8's law: FlatCuts. -/
namespace Go.Proofs.YtohjomhiibkobaaGreatDoor
set_option maxRecDepth 100000
open Go.RowKit Fl
set_option linter.unusedVariables false

theorem fl3_arr1 (x y : Value) (w : World) : (Instr.field 34 (.agg #[x, y]) 1).run Tryz.prog w = .ok (.agg #[y]) w := by kernel_rfl
theorem fl3_pl1 (x y z : Value) (w : World) : (Instr.field 27 (.agg #[x, y, z]) 1).run Tryz.prog w = .ok y w := by kernel_rfl

theorem lens_full (Z : List (Value × VV)) : lensZ (fullZ Z) ≤ lensZ Z := by
  induction Z with
  | nil => exact Nat.le_refl _
  | cons p Z ih =>
    have e : lensZ (p :: Z) = p.2.len + lensZ Z := by simp [lensZ]
    by_cases h : 0 < p.2.len
    · have : fullZ (p :: Z) = p :: fullZ Z := by simp [fullZ, h]
      rw [this, e]
      have : lensZ (p :: fullZ Z) = p.2.len + lensZ (fullZ Z) := by simp [lensZ]
      omega
    · have : fullZ (p :: Z) = fullZ Z := by simp [fullZ, h]
      rw [this, e]; omega
/-- Three parts of a vector, joined. -/
theorem join_three {V : VV} {x y : Nat} (h : gV 39 V) (hx : x ≤ y) (hy : y ≤ V.len) (u1 u2 u3 : Value) :
    joinB [(u1, V.cut 0 (x : Int)), (u2, V.cut (x : Int) (y : Int)), (u3, V.cut (y : Int) (V.len : Int))] = true ∧ gV 39 (joinZ [(u1, V.cut 0 (x : Int)), (u2, V.cut (x : Int) (y : Int)), (u3, V.cut (y : Int) (V.len : Int))]) ∧
    (joinZ [(u1, V.cut 0 (x : Int)), (u2, V.cut (x : Int) (y : Int)), (u3, V.cut (y : Int) (V.len : Int))]).cls = V.cls ∧ itsA 39 (joinZ [(u1, V.cut 0 (x : Int)), (u2, V.cut (x : Int) (y : Int)), (u3, V.cut (y : Int) (V.len : Int))]) = itsA 39 V := by
  have c0 : cl8 0 V.len = 0 := by unfold cl8; omega
  have cx : cl8 (x : Int) V.len = x := by unfold cl8; omega
  have cy : cl8 (y : Int) V.len = y := by unfold cl8; omega
  have cn : cl8 (V.len : Int) V.len = V.len := by unfold cl8; omega
  have i1 := its_cut (d := 38) (a := 0) (b := (x : Int)) h
  have i2 := its_cut (d := 38) (a := (x : Int)) (b := (y : Int)) h
  have i3 := its_cut (d := 38) (a := (y : Int)) (b := (V.len : Int)) h
  rw [c0, cx] at i1; rw [cx, cy] at i2; rw [cy, cn] at i3
  have n1 : (V.cut 0 (x : Int)).len = x := by rw [← itsA_len 39, i1]; simp [itsA_len]; omega
  have n2 : (V.cut (x : Int) (y : Int)).len = y - x := by rw [← itsA_len 39, i2]; simp [itsA_len]; omega
  have n3 : (V.cut (y : Int) (V.len : Int)).len = V.len - y := by rw [← itsA_len 39, i3]; simp [itsA_len]
  obtain ⟨Z, hZ⟩ : ∃ Z, Z = [(u1, V.cut 0 (x : Int)), (u2, V.cut (x : Int) (y : Int)), (u3, V.cut (y : Int) (V.len : Int))] := ⟨_, rfl⟩
  rw [← hZ]
  have hg : ∀ p ∈ Z, gV 39 p.2 := by
    rw [hZ]; intro p hp
    simp only [List.mem_cons, List.not_mem_nil, or_false] at hp
    rcases hp with rfl | rfl | rfl <;> exact gV_cut (d := 38) h
  have hc : ∀ p ∈ Z, p.2.cls = V.cls := by
    rw [hZ]; intro p hp
    simp only [List.mem_cons, List.not_mem_nil, or_false] at hp
    rcases hp with rfl | rfl | rfl <;> exact cls_cut (d := 38) h
  have hits : (Z.flatMap fun p => itsA 39 p.2) = itsA 39 V := by
    rw [hZ]
    simp only [List.flatMap_cons, List.flatMap_nil, List.append_nil]
    rw [i1, i2, i3, List.drop_zero, show (itsA 39 V).take V.len = itsA 39 V from List.take_of_length_le (by rw [itsA_len]; exact Nat.le_refl _)]
    rw [← List.append_assoc]
    have : (itsA 39 V).take x ++ ((itsA 39 V).take y).drop x = (itsA 39 V).take y := by
      have := List.take_append_drop x ((itsA 39 V).take y)
      rwa [List.take_take, Nat.min_eq_left hx] at this
    rw [this, List.take_append_drop]
  have hl : lensZ (fullZ Z) ≤ 1048576 := by
    have := lens_full Z
    have e : lensZ Z = x + (y - x) + (V.len - y) := by rw [hZ]; simp [lensZ, n1, n2, n3]; omega
    have := VV.ok_len h.1
    omega
  by_cases hf : fullZ Z = []
  · obtain ⟨a1, a2, a3, a4⟩ := join_nil (d := 39) hf
    exact ⟨a1, a2, by rw [a3, hZ]; exact cls_cut (d := 38) h, by rw [a4, hits]⟩
  · obtain ⟨a1, a2, a3, a4⟩ := join_some (d := 39) (c := V.cls) hf hg (fun p hp => hc p (fullZ_mem hp).1) hl
    exact ⟨a1, a2, a3, by rw [a4, hits]⟩
theorem Its.part {w : World} {ok : Nat → Prop} {ao : Option Addr} {n cap x y : Nat} {l : List PI} (h : Its w ok (.slice ao n cap) l) (hx : x ≤ y) (hy : y ≤ l.length) :
    Its w ok (.slice (if cap = x then ao else Option.map (fun q : Addr => q.add (x * 4)) ao) (y - x) (cap - x)) ((l.take y).drop x) := by
  obtain ⟨ao', cap', B, e, h1, h2, hc, hp⟩ := h
  cases e
  have hlen : ((l.take y).drop x).length = y - x := by simp; omega
  have hat : ∀ i z, ((l.take y).drop x)[i]? = some z → l[x + i]? = some z ∧ x + i < y := by
    intro i z hz
    have hi := (List.getElem?_eq_some_iff.1 hz).1
    rw [hlen] at hi
    rw [List.getElem?_drop, List.getElem?_take, if_pos (by omega)] at hz
    exact ⟨hz, by omega⟩
  refine ⟨_, cap - x, fun i => B (x + i), by rw [hlen], by rw [hlen]; omega, by omega, fun i z hz => ?_, fun i z hz => hp (x + i) z (hat i z hz).1⟩
  obtain ⟨hz2, hlt⟩ := hat i z hz
  obtain ⟨b, off, rfl, hb, c0, c1, c2, c3⟩ := hc (x + i) z hz2
  have hne : ¬ cap = x := by omega
  refine ⟨b, off + x * 4, by rw [if_neg hne, Option.map_some, Go.WideShapes.add_plain], hb, ?_, ?_, ?_, ?_⟩
  · rw [show off + x * 4 + i * 4 = off + (x + i) * 4 by omega]; exact c0
  · rw [show off + x * 4 + i * 4 + 1 = off + (x + i) * 4 + 1 by omega]; exact c1
  · rw [show off + x * 4 + i * 4 + 2 = off + (x + i) * 4 + 2 by omega]; exact c2
  · rw [show off + x * 4 + i * 4 + 3 = off + (x + i) * 4 + 3 by omega]; exact c3
set_option maxHeartbeats 16000000 in
theorem flatCuts_walk (p : PA) (u : Value) (m : Nat) (from_ to_ n : Int) (w : World) (hl : lo m p) (hp : IsP w (fun _ => True) u p) (hf1 : -9223372036854775808 ≤ from_ ∧ from_ ≤ 9223372036854775807) (hf2 : -9223372036854775808 ≤ to_ ∧ to_ ≤ 9223372036854775807) (hT : TabAt w) :
    Calls Tryz.prog 5 #[u, .int .i64 from_, .int .i64 to_, .int .i64 n] w (BoolIs true w) := by
  have HP := Lib.hid hp
  obtain ⟨so, sc, io, ic, rfl, hs, hit⟩ := hp.opened
  have HL := Lib.hid hl
  have HFB := Lib.hid (And.intro hf1 hf2)
  obtain ⟨W1, hW1⟩ : ∃ W1, W1 = w.alloc (.cells #[.slice so p.s.length sc, .slice io p.l.length ic, .int .i64 p.f] 27) := ⟨_, rfl⟩
  have HB := Lib.hid (show Below w.heap.size w W1 by rw [hW1]; exact below_new _ _)
  have HA := Lib.hid (show At3 W1 w.heap.size (.slice so p.s.length sc) (.slice io p.l.length ic) (.int .i64 p.f) by rw [hW1]; exact At3.new w _ _ _ _)
  have HI := Lib.hid (show IsP W1 (fun b => b < w.heap.size) _ p from (HP.out.lt.wide (fun b _ h => h.2)).grow HB.out)
  have HT := Lib.hid (show TabAt W1 from fun j hj => keep_below HB.out _ _ (hT j hj))
  have hfold := hW1.symm
  have hfa := fl3_arr1
  have hfp := fl3_pl1
  clear hs hit hp hl hT hW1 hf1 hf2
  have cHA0 := HA.out.2.1
  have cHA1 := HA.out.2.2.1
  have cHA2 := HA.out.2.2.2.1
  go_enter Tryz.func5, Tryz.ntmps5
  go_wp2_with fail
  clear hfold
  by_cases hlg : 500 < n
  · refine (good8_calls _ p _ m _ HL.out HI.out).mono ?_
    rintro e W11 ⟨g, rfl, hg, hB⟩
    clear cHA0 cHA1 cHA2
    replace HA := Lib.hid (HA.out.below hB)
    replace HB := Lib.hid (HB.out.trans (hB.mono HB.out.size))
    replace HI := Lib.hid (HI.out.grow hB)
    replace HT := Lib.hid (fun j hj => keep_below hB _ _ (HT.out j hj))
    clear hg
    clear hB
    have cHA0 := HA.out.2.1
    have cHA1 := HA.out.2.2.1
    have cHA2 := HA.out.2.2.2.1
    cases g
    all_goals
      go_wp2_with fail
      refine (awake8_calls _ HT.out).mono ?_
      rintro e W12 ⟨rfl, hB⟩
      clear cHA0 cHA1 cHA2
      replace HA := Lib.hid (HA.out.below hB)
      replace HB := Lib.hid (HB.out.trans (hB.mono HB.out.size))
      replace HI := Lib.hid (HI.out.grow hB)
      replace HT := Lib.hid (fun j hj => keep_below hB _ _ (HT.out j hj))
      clear hB
      have cHA0 := HA.out.2.1
      have cHA1 := HA.out.2.2.1
      have cHA2 := HA.out.2.2.2.1
      go_wp2_with fail
      go_ret
      exact BoolIs.mk rfl HB.out
  have HLG := Lib.hid (show n ≤ 500 by omega)
  refine (good8_calls _ p _ m _ HL.out HI.out).mono ?_
  rintro e W11 ⟨g, rfl, hg, hB⟩
  clear cHA0 cHA1 cHA2
  replace HA := Lib.hid (HA.out.below hB)
  replace HB := Lib.hid (HB.out.trans (hB.mono HB.out.size))
  replace HI := Lib.hid (HI.out.grow hB)
  replace HT := Lib.hid (fun j hj => keep_below hB _ _ (HT.out j hj))
  have HG := Lib.hid hg
  clear hg
  clear hB
  have cHA0 := HA.out.2.1
  have cHA1 := HA.out.2.2.1
  have cHA2 := HA.out.2.2.2.1
  cases g
  · go_wp2_with fail
    refine (awake8_calls _ HT.out).mono ?_
    rintro e W12 ⟨rfl, hB⟩
    clear cHA0 cHA1 cHA2
    replace HA := Lib.hid (HA.out.below hB)
    replace HB := Lib.hid (HB.out.trans (hB.mono HB.out.size))
    replace HI := Lib.hid (HI.out.grow hB)
    replace HT := Lib.hid (fun j hj => keep_below hB _ _ (HT.out j hj))
    clear hB
    have cHA0 := HA.out.2.1
    have cHA1 := HA.out.2.2.1
    have cHA2 := HA.out.2.2.2.1
    go_wp2_with fail
    go_ret
    exact BoolIs.mk rfl HB.out
  have HCP := Lib.hid (HG.out rfl)
  obtain ⟨A, hA⟩ : ∃ A, A = arrP 40 p := ⟨_, rfl⟩
  have HAE := Lib.hid hA
  have HGV := Lib.hid (show gV 39 A.2 by rw [hA]; exact gA_gV (d := 39) (arrP_good 40 p HCP.out))
  have HTL := Lib.hid (show itsA 39 A.2 = (tidyP 40 p).l by rw [hA]; exact its_arrP (d := 39) HCP.out)
  have HCL := Lib.hid (show A.2.cls = p.f by rw [hA]; exact (arrP_len (d := 40) HCP.out).2.1)
  have HLN := Lib.hid (show (tidyP 40 p).l.length = A.2.len by rw [← HTL.out, itsA_len])
  have HLM := Lib.hid (VV.ok_len HGV.out.1)
  have HFC := Lib.hid (show p.f = 0 ∨ p.f = 1 ∨ p.f = 2 by rw [← HCL.out]; exact VV.cls_cases _)
  obtain ⟨V, hV⟩ : ∃ V, V = A.2 := ⟨_, rfl⟩
  have HVE := Lib.hid hV
  rw [← hV] at HGV HTL HCL HLN HLM
  clear hA hV
  go_wp2_with fail
  clear hlg
  clear cHA0 cHA1 cHA2
  refine wp_mid (fun a a' w' => ∃ (so3 : Option Addr) (sc3 : Nat) (uo : Value) (tso : Option Addr) (tsc : Nat) (tio : Option Addr) (tic bv : Nat), a' = ((((((((a.put (some 23) (.agg #[.slice so p.s.length sc, .slice io p.l.length ic, .int .i64 p.f])).put (some 24) (.agg #[.slice so3 (arrP 40 p).1.length sc3, uo])).put (some 25) (.agg #[uo])).put (some 26) (.agg #[.slice so p.s.length sc, .slice io p.l.length ic, .int .i64 p.f])).put (some 27) (.agg #[.slice tso (tidyP 40 p).s.length tsc, .slice tio (tidyP 40 p).l.length tic, .int .i64 (tidyP 40 p).f])).put (some 28) (.slice tio (tidyP 40 p).l.length tic)).put (some 9) (.pointer (some ⟨bv, 0, none⟩))).put (some 10) (.slice tio (tidyP 40 p).l.length tic)) ∧ IsV w' (fun _ => True) uo V ∧ Its w' (fun _ => True) (.slice tio (tidyP 40 p).l.length tic) (tidyP 40 p).l ∧ At1 w' bv uo ∧ Below W11.heap.size W11 w') ?_ ?_
  · have HW0 := Lib.hid (Below.refl W11.heap.size W11)
    have HWX := Lib.hid (show w.heap.size < W11.heap.size from HA.out.1)
    obtain ⟨W12, hWD⟩ : ∃ xw9, W11.drew = xw9 := ⟨_, rfl⟩
    have hB : Below W11.heap.size W11 W12 := by rw [← hWD]; exact Below.drewN' (Below.refl _ _) 1
    replace HA := Lib.hid (HA.out.below hB)
    replace HB := Lib.hid (HB.out.trans (hB.mono HB.out.size))
    replace HI := Lib.hid (HI.out.grow hB)
    replace HT := Lib.hid (fun j hj => keep_below hB _ _ (HT.out j hj))
    replace HW0 := Lib.hid (HW0.out.trans (hB.mono HW0.out.size))
    clear hB
    refine wp_region_held_drew (S := fun w' => w'.cell? ⟨w.heap.size, 0, none⟩ = some (.slice so p.s.length sc) ∧ w'.cell? ⟨w.heap.size, 1, none⟩ = some (.slice io p.l.length ic) ∧ w'.cell? ⟨w.heap.size, 2, none⟩ = some (.int .i64 p.f)) (by kernel_rfl) (by rw [hWD]; exact ⟨HA.out.2.1, HA.out.2.2.1, HA.out.2.2.2.1⟩) (fun hHeld => ?_)
    rw [hWD] at hHeld ⊢
    clear hWD
    refine wpAnyH_take (i := 0) (v := ?_) rfl (by kernel_rfl) (by kernel_rfl) (by kernel_rfl) (fun _ _ _ h => absurd h.1 (by simp)) (Or.inl ⟨by rfl, ?_⟩) (by assumption) ?_
    rotate_left
    · (intro w hSw; (try dsimp only at hSw); go_simp; try with_reducible rfl)
    simp only [Act.put, List.getElem_toArray, List.getElem_cons_zero, List.setIfInBounds_toArray, List.set_cons_zero, List.set_cons_succ]
    refine wpAnyH_take (i := 3) (v := ?_) rfl (by kernel_rfl) (by kernel_rfl) (by kernel_rfl) (fun _ _ _ h => absurd h.1 (by simp)) (Or.inl ⟨by rfl, ?_⟩) (by assumption) ?_
    rotate_left
    · (intro w hSw; (try dsimp only at hSw); go_simp; try with_reducible rfl)
    simp only [Act.put, List.getElem_toArray, List.getElem_cons_succ, List.getElem_cons_zero, List.setIfInBounds_toArray, List.set_cons_zero, List.set_cons_succ]
    refine wpAnyH_ready (rs := [1, 6]) (by kernel_rfl) (by simp) ?_
    refine AllReadyH.cons (o := _) rfl (fun K hK => ?_) ?_
    · clear hHeld
      go_simp
      refine (lof_calls _ p _ m _ HL.out HI.out HT.out HCP.out).mono ?_
      rintro e W13 ⟨so3, sc3, uo, rfl, hOR, hB⟩
      replace HA := Lib.hid (HA.out.below hB)
      replace HB := Lib.hid (HB.out.trans (hB.mono HB.out.size))
      replace HI := Lib.hid (HI.out.grow hB)
      replace HT := Lib.hid (fun j hj => keep_below hB _ _ (HT.out j hj))
      replace HW0 := Lib.hid (HW0.out.trans (hB.mono HW0.out.size))
      rw [← HAE.out] at hOR
      have hsuo := hOR.2.store
      have HUO := Lib.hid (show IsV W13 (fun _ => True) uo V by rw [HVE.out]; exact IsV.any hOR.2)
      clear hOR
      clear hB
      refine hK.out _ _ ?_ (fun hHeld => ?_)
      · exact ⟨HA.out.2.1, HA.out.2.2.1, HA.out.2.2.2.1⟩
      clear hK K
      refine wpAnyH_take (i := 2) (v := ?_) rfl (by kernel_rfl) (by kernel_rfl) (by kernel_rfl) (fun _ _ _ h => absurd h.1 (by simp)) (Or.inl ⟨by rfl, ?_⟩) (by assumption) ?_
      rotate_left
      · (intro w hSw; (try dsimp only at hSw); go_simp; try with_reducible rfl)
      simp only [Act.put, List.getElem_toArray, List.getElem_cons_succ, List.getElem_cons_zero, List.setIfInBounds_toArray, List.set_cons_zero, List.set_cons_succ]
      refine wpAnyH_ready (rs := [4, 6]) (by kernel_rfl) (by simp) ?_
      refine AllReadyH.cons (o := _) rfl (fun K hK => ?_) ?_
      · clear hHeld
        go_simp
        refine (ptidy_calls 40 _ p _ _ HCP.out HI.out).mono ?_
        rintro e W14 ⟨ut, rfl, hut, hB⟩
        replace HA := Lib.hid (HA.out.below hB)
        replace HB := Lib.hid (HB.out.trans (hB.mono HB.out.size))
        replace HI := Lib.hid (HI.out.grow hB)
        replace HT := Lib.hid (fun j hj => keep_below hB _ _ (HT.out j hj))
        replace HW0 := Lib.hid (HW0.out.trans (hB.mono HW0.out.size))
        replace HUO := Lib.hid (HUO.out.grow hB)
        obtain ⟨tso, tsc, tio, tic, rfl, _, hti⟩ := hut.opened
        have HTI := Lib.hid (show Its W14 (fun _ => True) (.slice tio (tidyP 40 p).l.length tic) (tidyP 40 p).l from hti.wide (fun _ _ _ => trivial))
        clear hut hti
        clear hB
        refine hK.out _ _ ?_ (fun hHeld => ?_)
        · exact ⟨HA.out.2.1, HA.out.2.2.1, HA.out.2.2.2.1⟩
        clear hK K
        refine wpAnyH_take (i := 5) (v := ?_) rfl (by kernel_rfl) (by kernel_rfl) (by kernel_rfl) (fun _ _ _ h => absurd h.1 (by simp)) (Or.inl ⟨by rfl, ?_⟩) (by assumption) ?_
        rotate_left
        · (intro w hSw; (try dsimp only at hSw); go_simp; try with_reducible rfl)
        simp only [Act.put, List.getElem_toArray, List.getElem_cons_succ, List.getElem_cons_zero, List.setIfInBounds_toArray, List.set_cons_zero, List.set_cons_succ]
        refine wpAnyH_ready (rs := [6]) (by kernel_rfl) (by simp) ?_
        refine AllReadyH.cons (o := _) rfl (fun K hK => ?_) ?_
        · clear hHeld
          go_simp
          replace HUO := Lib.hid (show IsV W14 (fun b => b ≠ W14.heap.size) uo V from HUO.out.lt.wide (fun b _ h => by have := h.2; omega))
          replace HTI := Lib.hid (show Its W14 (fun b => b ≠ W14.heap.size) (.slice tio (tidyP 40 p).l.length tic) (tidyP 40 p).l from HTI.out.lt.wide (fun b _ h => by have := h.2; omega))
          obtain ⟨W15, hWn⟩ : ∃ xw9, W14.alloc (.cells #[.nilIface] 32) = xw9 := ⟨_, rfl⟩
          have hB : Below W14.heap.size W14 W15 := by rw [← hWn]; exact below_new _ _
          have hNB : At1 W15 W14.heap.size .nilIface := by rw [← hWn]; exact At1.new _ _ _
          have hbv : w.heap.size ≤ W14.heap.size := HB.out.size
          rw [hWn]
          clear hWn
          obtain ⟨bv, hnm⟩ : ∃ x, W14.heap.size = x := ⟨_, rfl⟩
          have hbk : W11.heap.size ≤ bv := by rw [← hnm]; exact HW0.out.size
          replace HA := Lib.hid (HA.out.below hB)
          replace HB := Lib.hid (HB.out.trans (hB.mono HB.out.size))
          replace HI := Lib.hid (HI.out.grow hB)
          replace HT := Lib.hid (fun j hj => keep_below hB _ _ (HT.out j hj))
          replace HW0 := Lib.hid (HW0.out.trans (hB.mono HW0.out.size))
          replace HUO := Lib.hid (HUO.out.grow hB)
          replace HTI := Lib.hid (HTI.out.grow hB)
          rw [hnm] at HUO HTI hNB hbv ⊢
          have HVW := Lib.hid hNB
          have HBV := Lib.hid hbv
          have HBK := Lib.hid hbk
          clear hNB hB hnm hbv hbk
          refine hK.out _ _ ?_ (fun hHeld => ?_)
          · exact ⟨HA.out.2.1, HA.out.2.2.1, HA.out.2.2.2.1⟩
          clear hK K
          refine wpAnyH_ready (rs := [7]) (by kernel_rfl) (by simp) ?_
          refine AllReadyH.cons (o := _) rfl (fun K hK => ?_) ?_
          · clear hHeld
            have s0 := HVW.out.2.1
            have t0 := HVW.out.2.2 0
            go_simp
            clear s0 t0
            obtain ⟨W16, hWn⟩ : ∃ xw9, W15.setCell ⟨bv, 0, none⟩ uo = xw9 := ⟨_, rfl⟩
            rw [hWn]
            replace HVW := Lib.hid (show At1 W16 bv uo by rw [← hWn]; exact At1.put1 HVW.out _)
            replace HUO := Lib.hid (show IsV W16 (fun b => b ≠ bv) uo V by rw [← hWn]; exact HUO.out.keep (Kept.setCell _ _ _ (by simp)) (fun _ _ h => h))
            replace HTI := Lib.hid (show Its W16 (fun b => b ≠ bv) (.slice tio (tidyP 40 p).l.length tic) (tidyP 40 p).l by rw [← hWn]; exact HTI.out.keep (Kept.setCell _ _ _ (by simp)) (fun _ _ h => h))
            replace HA := Lib.hid (show At3 W16 w.heap.size (.slice so p.s.length sc) (.slice io p.l.length ic) (.int .i64 p.f) by rw [← hWn]; exact HA.out.other _ (by have := HBK.out; have := HWX.out; simp; omega) _)
            replace HW0 := Lib.hid (show Below W11.heap.size W11 W16 by rw [← hWn]; exact HW0.out.setCell HBK.out _)
            clear hWn
            refine hK.out _ _ ?_ (fun hHeld => ?_)
            · exact ⟨HA.out.2.1, HA.out.2.2.1, HA.out.2.2.2.1⟩
            clear hK K
            refine wpAnyH_take (i := 8) (v := ?_) rfl (by kernel_rfl) (by kernel_rfl) (by kernel_rfl) (fun _ _ _ h => absurd h.1 (by simp)) (Or.inl ⟨by rfl, ?_⟩) (by assumption) ?_
            rotate_left
            · (intro w hSw; (try dsimp only at hSw); go_simp; try with_reducible rfl)
            simp only [Act.put, List.getElem_toArray, List.getElem_cons_succ, List.getElem_cons_zero, List.setIfInBounds_toArray, List.set_cons_zero, List.set_cons_succ]
            refine wpAnyH_done (by kernel_rfl) ?_ _
            clear hHeld
            refine ⟨rfl, so3, sc3, uo, tso, tsc, tio, tic, bv, ?_, HUO.out.any, HTI.out.wide (fun _ _ _ => trivial), HVW.out, HW0.out⟩
            first | rfl | kernel_rfl
          exact AllReadyH.nil
        exact AllReadyH.nil
      refine AllReadyH.cons (o := _) rfl (fun K hK => ?_) ?_
      · clear hHeld
        go_simp
        replace HUO := Lib.hid (show IsV W13 (fun b => b ≠ W13.heap.size) uo V from HUO.out.lt.wide (fun b _ h => by have := h.2; omega))
        obtain ⟨W14, hWn⟩ : ∃ xw9, W13.alloc (.cells #[.nilIface] 32) = xw9 := ⟨_, rfl⟩
        have hB : Below W13.heap.size W13 W14 := by rw [← hWn]; exact below_new _ _
        have hNB : At1 W14 W13.heap.size .nilIface := by rw [← hWn]; exact At1.new _ _ _
        have hbv : w.heap.size ≤ W13.heap.size := HB.out.size
        rw [hWn]
        clear hWn
        obtain ⟨bv, hnm⟩ : ∃ x, W13.heap.size = x := ⟨_, rfl⟩
        have hbk : W11.heap.size ≤ bv := by rw [← hnm]; exact HW0.out.size
        replace HA := Lib.hid (HA.out.below hB)
        replace HB := Lib.hid (HB.out.trans (hB.mono HB.out.size))
        replace HI := Lib.hid (HI.out.grow hB)
        replace HT := Lib.hid (fun j hj => keep_below hB _ _ (HT.out j hj))
        replace HW0 := Lib.hid (HW0.out.trans (hB.mono HW0.out.size))
        replace HUO := Lib.hid (HUO.out.grow hB)
        rw [hnm] at HUO hNB hbv ⊢
        have HVW := Lib.hid hNB
        have HBV := Lib.hid hbv
        have HBK := Lib.hid hbk
        clear hNB hB hnm hbv hbk
        refine hK.out _ _ ?_ (fun hHeld => ?_)
        · exact ⟨HA.out.2.1, HA.out.2.2.1, HA.out.2.2.2.1⟩
        clear hK K
        refine wpAnyH_ready (rs := [4]) (by kernel_rfl) (by simp) ?_
        refine AllReadyH.cons (o := _) rfl (fun K hK => ?_) ?_
        · clear hHeld
          go_simp
          have HO := HVW.out.1
          refine (ptidy_calls 40 _ p _ _ HCP.out HI.out).mono ?_
          rintro e W15 ⟨ut, rfl, hut, hB⟩
          replace HA := Lib.hid (HA.out.below hB)
          replace HB := Lib.hid (HB.out.trans (hB.mono HB.out.size))
          replace HI := Lib.hid (HI.out.grow hB)
          replace HT := Lib.hid (fun j hj => keep_below hB _ _ (HT.out j hj))
          replace HW0 := Lib.hid (HW0.out.trans (hB.mono HW0.out.size))
          replace HUO := Lib.hid (HUO.out.grow hB)
          replace HVW := Lib.hid (HVW.out.below hB)
          obtain ⟨tso, tsc, tio, tic, rfl, _, hti⟩ := hut.opened
          have HTI := Lib.hid (show Its W15 (fun b => b ≠ bv) (.slice tio (tidyP 40 p).l.length tic) (tidyP 40 p).l from hti.wide (fun b _ h => by have := HBV.out; omega))
          clear hut hti HO
          clear hB
          refine hK.out _ _ ?_ (fun hHeld => ?_)
          · exact ⟨HA.out.2.1, HA.out.2.2.1, HA.out.2.2.2.1⟩
          clear hK K
          refine wpAnyH_take (i := 5) (v := ?_) rfl (by kernel_rfl) (by kernel_rfl) (by kernel_rfl) (fun _ _ _ h => absurd h.1 (by simp)) (Or.inl ⟨by rfl, ?_⟩) (by assumption) ?_
          rotate_left
          · (intro w hSw; (try dsimp only at hSw); go_simp; try with_reducible rfl)
          simp only [Act.put, List.getElem_toArray, List.getElem_cons_succ, List.getElem_cons_zero, List.setIfInBounds_toArray, List.set_cons_zero, List.set_cons_succ]
          refine wpAnyH_ready (rs := [7]) (by kernel_rfl) (by simp) ?_
          refine AllReadyH.cons (o := _) rfl (fun K hK => ?_) ?_
          · clear hHeld
            have s0 := HVW.out.2.1
            have t0 := HVW.out.2.2 0
            go_simp
            clear s0 t0
            obtain ⟨W16, hWn⟩ : ∃ xw9, W15.setCell ⟨bv, 0, none⟩ uo = xw9 := ⟨_, rfl⟩
            rw [hWn]
            replace HVW := Lib.hid (show At1 W16 bv uo by rw [← hWn]; exact At1.put1 HVW.out _)
            replace HUO := Lib.hid (show IsV W16 (fun b => b ≠ bv) uo V by rw [← hWn]; exact HUO.out.keep (Kept.setCell _ _ _ (by simp)) (fun _ _ h => h))
            replace HTI := Lib.hid (show Its W16 (fun b => b ≠ bv) (.slice tio (tidyP 40 p).l.length tic) (tidyP 40 p).l by rw [← hWn]; exact HTI.out.keep (Kept.setCell _ _ _ (by simp)) (fun _ _ h => h))
            replace HA := Lib.hid (show At3 W16 w.heap.size (.slice so p.s.length sc) (.slice io p.l.length ic) (.int .i64 p.f) by rw [← hWn]; exact HA.out.other _ (by have := HBK.out; have := HWX.out; simp; omega) _)
            replace HW0 := Lib.hid (show Below W11.heap.size W11 W16 by rw [← hWn]; exact HW0.out.setCell HBK.out _)
            clear hWn
            refine hK.out _ _ ?_ (fun hHeld => ?_)
            · exact ⟨HA.out.2.1, HA.out.2.2.1, HA.out.2.2.2.1⟩
            clear hK K
            refine wpAnyH_take (i := 8) (v := ?_) rfl (by kernel_rfl) (by kernel_rfl) (by kernel_rfl) (fun _ _ _ h => absurd h.1 (by simp)) (Or.inl ⟨by rfl, ?_⟩) (by assumption) ?_
            rotate_left
            · (intro w hSw; (try dsimp only at hSw); go_simp; try with_reducible rfl)
            simp only [Act.put, List.getElem_toArray, List.getElem_cons_succ, List.getElem_cons_zero, List.setIfInBounds_toArray, List.set_cons_zero, List.set_cons_succ]
            refine wpAnyH_done (by kernel_rfl) ?_ _
            clear hHeld
            refine ⟨rfl, so3, sc3, uo, tso, tsc, tio, tic, bv, ?_, HUO.out.any, HTI.out.wide (fun _ _ _ => trivial), HVW.out, HW0.out⟩
            first | rfl | kernel_rfl
          exact AllReadyH.nil
        exact AllReadyH.nil
      exact AllReadyH.nil
    refine AllReadyH.cons (o := _) rfl (fun K hK => ?_) ?_
    · clear hHeld
      go_simp
      obtain ⟨W13, hWn⟩ : ∃ xw9, W12.alloc (.cells #[.nilIface] 32) = xw9 := ⟨_, rfl⟩
      have hB : Below W12.heap.size W12 W13 := by rw [← hWn]; exact below_new _ _
      have hNB : At1 W13 W12.heap.size .nilIface := by rw [← hWn]; exact At1.new _ _ _
      have hbv : w.heap.size ≤ W12.heap.size := HB.out.size
      rw [hWn]
      clear hWn
      obtain ⟨bv, hnm⟩ : ∃ x, W12.heap.size = x := ⟨_, rfl⟩
      have hbk : W11.heap.size ≤ bv := by rw [← hnm]; exact HW0.out.size
      replace HA := Lib.hid (HA.out.below hB)
      replace HB := Lib.hid (HB.out.trans (hB.mono HB.out.size))
      replace HI := Lib.hid (HI.out.grow hB)
      replace HT := Lib.hid (fun j hj => keep_below hB _ _ (HT.out j hj))
      replace HW0 := Lib.hid (HW0.out.trans (hB.mono HW0.out.size))
      rw [hnm] at  hNB hbv ⊢
      have HVW := Lib.hid hNB
      have HBV := Lib.hid hbv
      have HBK := Lib.hid hbk
      clear hNB hB hnm hbv hbk
      refine hK.out _ _ ?_ (fun hHeld => ?_)
      · exact ⟨HA.out.2.1, HA.out.2.2.1, HA.out.2.2.2.1⟩
      clear hK K
      refine wpAnyH_ready (rs := [1]) (by kernel_rfl) (by simp) ?_
      refine AllReadyH.cons (o := _) rfl (fun K hK => ?_) ?_
      · clear hHeld
        go_simp
        have HO := HVW.out.1
        refine (lof_calls _ p _ m _ HL.out HI.out HT.out HCP.out).mono ?_
        rintro e W14 ⟨so3, sc3, uo, rfl, hOR, hB⟩
        replace HA := Lib.hid (HA.out.below hB)
        replace HB := Lib.hid (HB.out.trans (hB.mono HB.out.size))
        replace HI := Lib.hid (HI.out.grow hB)
        replace HT := Lib.hid (fun j hj => keep_below hB _ _ (HT.out j hj))
        replace HW0 := Lib.hid (HW0.out.trans (hB.mono HW0.out.size))
        replace HVW := Lib.hid (HVW.out.below hB)
        rw [← HAE.out] at hOR
        have hsuo := hOR.2.store
        have HUO := Lib.hid (show IsV W14 (fun b => b ≠ bv) uo V by rw [HVE.out]; exact hOR.2.wide (fun b _ (h : _ ≤ b) => by omega))
        clear hOR HO
        clear hB
        refine hK.out _ _ ?_ (fun hHeld => ?_)
        · exact ⟨HA.out.2.1, HA.out.2.2.1, HA.out.2.2.2.1⟩
        clear hK K
        refine wpAnyH_take (i := 2) (v := ?_) rfl (by kernel_rfl) (by kernel_rfl) (by kernel_rfl) (fun _ _ _ h => absurd h.1 (by simp)) (Or.inl ⟨by rfl, ?_⟩) (by assumption) ?_
        rotate_left
        · (intro w hSw; (try dsimp only at hSw); go_simp; try with_reducible rfl)
        simp only [Act.put, List.getElem_toArray, List.getElem_cons_succ, List.getElem_cons_zero, List.setIfInBounds_toArray, List.set_cons_zero, List.set_cons_succ]
        refine wpAnyH_ready (rs := [4]) (by kernel_rfl) (by simp) ?_
        refine AllReadyH.cons (o := _) rfl (fun K hK => ?_) ?_
        · clear hHeld
          go_simp
          have HO := HVW.out.1
          refine (ptidy_calls 40 _ p _ _ HCP.out HI.out).mono ?_
          rintro e W15 ⟨ut, rfl, hut, hB⟩
          replace HA := Lib.hid (HA.out.below hB)
          replace HB := Lib.hid (HB.out.trans (hB.mono HB.out.size))
          replace HI := Lib.hid (HI.out.grow hB)
          replace HT := Lib.hid (fun j hj => keep_below hB _ _ (HT.out j hj))
          replace HW0 := Lib.hid (HW0.out.trans (hB.mono HW0.out.size))
          replace HVW := Lib.hid (HVW.out.below hB)
          replace HUO := Lib.hid (HUO.out.grow hB)
          obtain ⟨tso, tsc, tio, tic, rfl, _, hti⟩ := hut.opened
          have HTI := Lib.hid (show Its W15 (fun b => b ≠ bv) (.slice tio (tidyP 40 p).l.length tic) (tidyP 40 p).l from hti.wide (fun b _ h => by have := HBV.out; omega))
          clear hut hti HO
          clear hB
          refine hK.out _ _ ?_ (fun hHeld => ?_)
          · exact ⟨HA.out.2.1, HA.out.2.2.1, HA.out.2.2.2.1⟩
          clear hK K
          refine wpAnyH_take (i := 5) (v := ?_) rfl (by kernel_rfl) (by kernel_rfl) (by kernel_rfl) (fun _ _ _ h => absurd h.1 (by simp)) (Or.inl ⟨by rfl, ?_⟩) (by assumption) ?_
          rotate_left
          · (intro w hSw; (try dsimp only at hSw); go_simp; try with_reducible rfl)
          simp only [Act.put, List.getElem_toArray, List.getElem_cons_succ, List.getElem_cons_zero, List.setIfInBounds_toArray, List.set_cons_zero, List.set_cons_succ]
          refine wpAnyH_ready (rs := [7]) (by kernel_rfl) (by simp) ?_
          refine AllReadyH.cons (o := _) rfl (fun K hK => ?_) ?_
          · clear hHeld
            have s0 := HVW.out.2.1
            have t0 := HVW.out.2.2 0
            go_simp
            clear s0 t0
            obtain ⟨W16, hWn⟩ : ∃ xw9, W15.setCell ⟨bv, 0, none⟩ uo = xw9 := ⟨_, rfl⟩
            rw [hWn]
            replace HVW := Lib.hid (show At1 W16 bv uo by rw [← hWn]; exact At1.put1 HVW.out _)
            replace HUO := Lib.hid (show IsV W16 (fun b => b ≠ bv) uo V by rw [← hWn]; exact HUO.out.keep (Kept.setCell _ _ _ (by simp)) (fun _ _ h => h))
            replace HTI := Lib.hid (show Its W16 (fun b => b ≠ bv) (.slice tio (tidyP 40 p).l.length tic) (tidyP 40 p).l by rw [← hWn]; exact HTI.out.keep (Kept.setCell _ _ _ (by simp)) (fun _ _ h => h))
            replace HA := Lib.hid (show At3 W16 w.heap.size (.slice so p.s.length sc) (.slice io p.l.length ic) (.int .i64 p.f) by rw [← hWn]; exact HA.out.other _ (by have := HBK.out; have := HWX.out; simp; omega) _)
            replace HW0 := Lib.hid (show Below W11.heap.size W11 W16 by rw [← hWn]; exact HW0.out.setCell HBK.out _)
            clear hWn
            refine hK.out _ _ ?_ (fun hHeld => ?_)
            · exact ⟨HA.out.2.1, HA.out.2.2.1, HA.out.2.2.2.1⟩
            clear hK K
            refine wpAnyH_take (i := 8) (v := ?_) rfl (by kernel_rfl) (by kernel_rfl) (by kernel_rfl) (fun _ _ _ h => absurd h.1 (by simp)) (Or.inl ⟨by rfl, ?_⟩) (by assumption) ?_
            rotate_left
            · (intro w hSw; (try dsimp only at hSw); go_simp; try with_reducible rfl)
            simp only [Act.put, List.getElem_toArray, List.getElem_cons_succ, List.getElem_cons_zero, List.setIfInBounds_toArray, List.set_cons_zero, List.set_cons_succ]
            refine wpAnyH_done (by kernel_rfl) ?_ _
            clear hHeld
            refine ⟨rfl, so3, sc3, uo, tso, tsc, tio, tic, bv, ?_, HUO.out.any, HTI.out.wide (fun _ _ _ => trivial), HVW.out, HW0.out⟩
            first | rfl | kernel_rfl
          exact AllReadyH.nil
        exact AllReadyH.nil
      exact AllReadyH.nil
    exact AllReadyH.nil
  rintro _ w2 ⟨so3, sc3, uo, tso, tsc, tio, tic, bv, rfl, hUO, hTI, hAT, hB⟩
  have HUO := Lib.hid hUO
  have HTI := Lib.hid hTI
  have HVW := Lib.hid hAT
  have hsuo := hUO.store
  clear hUO hTI hAT
  replace HA := Lib.hid (HA.out.below hB)
  replace HB := Lib.hid (HB.out.trans (hB.mono HB.out.size))
  replace HI := Lib.hid (HI.out.grow hB)
  replace HT := Lib.hid (fun j hj => keep_below hB _ _ (HT.out j hj))
  clear hB
  simp only [Act.put, List.setIfInBounds_toArray, List.set_cons_zero, List.set_cons_succ]
  obtain ⟨N, hN⟩ : ∃ N, N = (tidyP 40 p).l.length := ⟨_, rfl⟩
  have HN := Lib.hid hN
  rw [← hN] at HTI HLN ⊢
  obtain ⟨x, hx⟩ : ∃ x : Nat, into from_ 0 (N : Int) = (x : Int) := ⟨(into from_ 0 (N : Int)).toNat, by unfold into; split <;> (try split) <;> omega⟩
  obtain ⟨y, hy⟩ : ∃ y : Nat, into to_ (x : Int) (N : Int) = (y : Int) := ⟨(into to_ (x : Int) (N : Int)).toNat, by have : 0 ≤ (x : Int) := Int.natCast_nonneg x; unfold into; split <;> (try split) <;> omega⟩
  have HX := Lib.hid hx
  have HY := Lib.hid hy
  have HXB := Lib.hid (show x ≤ N ∧ x = cl8 from_ N by unfold into at hx; unfold cl8; split at hx <;> (try split at hx) <;> omega)
  have HYB := Lib.hid (show x ≤ y ∧ y ≤ N ∧ ((cl8 to_ N < x ∧ y = x) ∨ y = cl8 to_ N) by
    have := HXB.out.1
    unfold into at hy; unfold cl8; split at hy <;> (try split at hy) <;> omega)
  clear hN hx hy
  have cHA0 := HA.out.2.1
  have cHA1 := HA.out.2.2.1
  have cHA2 := HA.out.2.2.2.1
  have cHVW0 := HVW.out.2.1
  go_wp2_with fail
  refine (Calls.grow_same (into_calls from_ 0 (N : Int) _)).mono ?_
  rintro e W12 ⟨rfl, hB⟩
  clear cHA0 cHA1 cHA2 cHVW0
  replace HA := Lib.hid (HA.out.below hB)
  replace HB := Lib.hid (HB.out.trans (hB.mono HB.out.size))
  replace HI := Lib.hid (HI.out.grow hB)
  replace HT := Lib.hid (fun j hj => keep_below hB _ _ (HT.out j hj))
  replace HUO := Lib.hid (HUO.out.grow hB)
  replace HTI := Lib.hid (HTI.out.grow hB)
  replace HVW := Lib.hid (HVW.out.below hB)
  rw [HX.out]
  clear hB
  have cHA0 := HA.out.2.1
  have cHA1 := HA.out.2.2.1
  have cHA2 := HA.out.2.2.2.1
  have cHVW0 := HVW.out.2.1
  go_wp2_with fail
  refine (Calls.grow_same (into_calls to_ (x : Int) (N : Int) _)).mono ?_
  rintro e W13 ⟨rfl, hB⟩
  clear cHA0 cHA1 cHA2 cHVW0
  replace HA := Lib.hid (HA.out.below hB)
  replace HB := Lib.hid (HB.out.trans (hB.mono HB.out.size))
  replace HI := Lib.hid (HI.out.grow hB)
  replace HT := Lib.hid (fun j hj => keep_below hB _ _ (HT.out j hj))
  replace HUO := Lib.hid (HUO.out.grow hB)
  replace HTI := Lib.hid (HTI.out.grow hB)
  replace HVW := Lib.hid (HVW.out.below hB)
  rw [HY.out]
  clear hB
  have cHA0 := HA.out.2.1
  have cHA1 := HA.out.2.2.1
  have cHA2 := HA.out.2.2.2.1
  have cHVW0 := HVW.out.2.1
  go_wp2_with fail
  obtain ⟨l, hle⟩ : ∃ l, l = (tidyP 40 p).l := ⟨_, rfl⟩
  have HLE := Lib.hid hle
  rw [← hle] at HTI HTL HN
  obtain ⟨sp, hsp⟩ : ∃ sp, sp = (if tic = x then tio else Option.map (fun q : Addr => q.add (x * 4)) tio) := ⟨_, rfl⟩
  have HPT := Lib.hid (show Its W13 (fun _ => True) (.slice sp (y - x) (tic - x)) ((l.take y).drop x) by rw [hsp]; exact HTI.out.part HYB.out.1 (by rw [← HN.out]; exact HYB.out.2.1))
  have HSP := Lib.hid hsp
  clear hsp
  have hxy := HYB.out.1
  have hyt : y ≤ tic := by
    obtain ⟨_, _, e, h1, _⟩ := HTI.out.len
    cases e
    have := HYB.out.2.1; have := HN.out; omega
  obtain ⟨L1, hL1⟩ : ∃ L1, L1 = (l.take y).drop x := ⟨_, rfl⟩
  rw [← hL1] at HPT
  have HNV := Lib.hid (show V.len = N from HLN.out.symm)
  have HG1 := Lib.hid (gV_cut (d := 38) (a := from_) (b := to_) HGV.out)
  have HC1 := Lib.hid (show (V.cut from_ to_).cls = p.f from (cls_cut (d := 38) HGV.out).trans HCL.out)
  have HE1 := Lib.hid (show L1 = itsA 39 (V.cut from_ to_) by
    rw [hL1, its_cut (d := 38) HGV.out, HTL.out, HNV.out, ← HXB.out.2]
    rcases HYB.out.2.2 with ⟨h1, h2⟩ | h2
    · rw [List.drop_eq_nil_of_le (by rw [List.length_take]; omega), List.drop_eq_nil_of_le (by rw [List.length_take]; omega)]
    · rw [h2])
  obtain ⟨L2, hL2⟩ : ∃ L2, L2 = againI l p.f n.toNat := ⟨_, rfl⟩
  have HL2 := Lib.hid hL2
  have hmn : (min (max n 0) 1048576).toNat = n.toNat := by have := HLG.out; omega
  have hm5 : n.toNat ≤ 1048576 := by have := HLG.out; omega
  have HMN := Lib.hid hmn
  have HG2 := Lib.hid (gV_sel (d := 38) (at_ := againL (max V.len 1) n.toNat) HGV.out (by rw [againL_len]; exact hm5))
  have HC2 := Lib.hid (show (V.sel (againL (max V.len 1) n.toNat)).cls = p.f by rw [VV.sel_cls _ _ (VV.nums_num HGV.out.1 HGV.out.2.1) (by rw [againL_len]; exact hm5)]; exact HCL.out)
  have HE2 := Lib.hid (show L2 = itsA 39 (V.sel (againL (max V.len 1) n.toNat)) by rw [hL2, its_again (d := 38) HGV.out hm5, HTL.out, HCL.out])
  obtain ⟨L3, hL3⟩ : ∃ L3, L3 = l.reverse := ⟨_, rfl⟩
  have HL3 := Lib.hid hL3
  have htl : (turnL V.len).length ≤ 1048576 := by rw [turnL_len]; exact VV.ok_len HGV.out.1
  obtain ⟨T, hT1⟩ : ∃ T, T = V.sel (turnL V.len) := ⟨_, rfl⟩
  have HT1 := Lib.hid hT1
  have HG3 := Lib.hid (show gV 39 T by rw [hT1]; exact gV_sel (d := 38) HGV.out htl)
  have HC3 := Lib.hid (show T.cls = p.f by rw [hT1, VV.sel_cls _ _ (VV.nums_num HGV.out.1 HGV.out.2.1) htl]; exact HCL.out)
  have HE3 := Lib.hid (show L3 = itsA 39 T by rw [hL3, hT1, its_turn (d := 38) HGV.out, HTL.out])
  have ht2 : (turnL T.len).length ≤ 1048576 := by rw [turnL_len]; exact VV.ok_len HG3.out.1
  have HG4 := Lib.hid (gV_sel (d := 38) (at_ := turnL T.len) HG3.out ht2)
  have HC4 := Lib.hid (show (T.sel (turnL T.len)).cls = p.f by rw [VV.sel_cls _ _ (VV.nums_num HG3.out.1 HG3.out.2.1) ht2]; exact HC3.out)
  have HE4 := Lib.hid (show l = itsA 39 (T.sel (turnL T.len)) by rw [its_turn (d := 38) HG3.out, ← HE3.out, HL3.out, List.reverse_reverse])
  clear hle hL1 hL2 hmn hm5 hL3 htl hT1 ht2
  obtain ⟨W14, hWD⟩ : ∃ xw9, W13.drew = xw9 := ⟨_, rfl⟩
  have hB : Below W13.heap.size W13 W14 := by rw [← hWD]; exact Below.drewN' (Below.refl _ _) 1
  clear cHA0 cHA1 cHA2 cHVW0
  replace HA := Lib.hid (HA.out.below hB)
  replace HB := Lib.hid (HB.out.trans (hB.mono HB.out.size))
  replace HI := Lib.hid (HI.out.grow hB)
  replace HT := Lib.hid (fun j hj => keep_below hB _ _ (HT.out j hj))
  replace HUO := Lib.hid (HUO.out.grow hB)
  replace HTI := Lib.hid (HTI.out.grow hB)
  replace HVW := Lib.hid (HVW.out.below hB)
  replace HPT := Lib.hid (HPT.out.grow hB)
  clear hB
  refine wp_region_held_drew (S := fun w' => w'.cell? ⟨w.heap.size, 0, none⟩ = some (.slice so p.s.length sc) ∧ w'.cell? ⟨w.heap.size, 1, none⟩ = some (.slice io p.l.length ic) ∧ w'.cell? ⟨w.heap.size, 2, none⟩ = some (.int .i64 p.f) ∧ w'.cell? ⟨bv, 0, none⟩ = some (uo)) (by kernel_rfl) (by rw [hWD]; exact ⟨HA.out.2.1, HA.out.2.2.1, HA.out.2.2.2.1, HVW.out.2.1⟩) (fun hHeld => ?_)
  rw [hWD] at hHeld ⊢
  clear hWD
  refine wpAnyH_take (i := 0) (v := ?_) rfl (by kernel_rfl) (by kernel_rfl) (by kernel_rfl) (fun _ _ _ h => h) (Or.inl ⟨by rfl, ?_⟩) (by assumption) ?_
  rotate_left
  · (intro w hSw; (try dsimp only at hSw); go_simp; try with_reducible rfl)
  simp only [Act.put, List.getElem_toArray, List.getElem_cons_zero, List.setIfInBounds_toArray, List.set_cons_zero, List.set_cons_succ]
  refine wpAnyH_take (i := 1) (v := ?_) rfl (by kernel_rfl) (by kernel_rfl) (by kernel_rfl) (fun _ _ _ h => h) (Or.inl ⟨by rfl, ?_⟩) (by assumption) ?_
  rotate_left
  · (intro w hSw; (try dsimp only at hSw); go_simp; try with_reducible rfl)
  simp only [Act.put, List.getElem_toArray, List.getElem_cons_succ, List.getElem_cons_zero, List.setIfInBounds_toArray, List.set_cons_zero, List.set_cons_succ]
  refine wpAnyH_take (i := 2) (v := ?_) rfl (by kernel_rfl) (by kernel_rfl) (by kernel_rfl) (fun _ _ _ h => h) (Or.inl ⟨by rfl, ?_⟩) (by assumption) ?_
  rotate_left
  · (intro w hSw; (try dsimp only at hSw); go_simp; try with_reducible rfl)
  simp only [Act.put, List.getElem_toArray, List.getElem_cons_succ, List.getElem_cons_zero, List.setIfInBounds_toArray, List.set_cons_zero, List.set_cons_succ]
  refine wpAnyH_take (i := 4) (v := ?_) rfl (by kernel_rfl) (by kernel_rfl) (by kernel_rfl) (fun _ _ _ h => h) (Or.inl ⟨by rfl, ?_⟩) (by assumption) ?_
  rotate_left
  · (intro w hSw; (try dsimp only at hSw); go_simp; try with_reducible rfl)
  simp only [Act.put, List.getElem_toArray, List.getElem_cons_succ, List.getElem_cons_zero, List.setIfInBounds_toArray, List.set_cons_zero, List.set_cons_succ]
  refine wpAnyH_take (i := 5) (v := ?_) rfl (by kernel_rfl) (by kernel_rfl) (by kernel_rfl) (fun _ _ _ h => h) (Or.inl ⟨by rfl, ?_⟩) (by assumption) ?_
  rotate_left
  · (intro w hSw; (try dsimp only at hSw); go_simp; try with_reducible rfl)
  simp only [Act.put, List.getElem_toArray, List.getElem_cons_succ, List.getElem_cons_zero, List.setIfInBounds_toArray, List.set_cons_zero, List.set_cons_succ]
  refine wpAnyH_take (i := 6) (v := ?_) rfl (by kernel_rfl) (by kernel_rfl) (by kernel_rfl) (fun _ _ _ h => h) (Or.inl ⟨by rfl, ?_⟩) (by assumption) ?_
  rotate_left
  · (intro w hSw; (try dsimp only at hSw); go_simp; try with_reducible rfl)
  simp only [Act.put, List.getElem_toArray, List.getElem_cons_succ, List.getElem_cons_zero, List.setIfInBounds_toArray, List.set_cons_zero, List.set_cons_succ]
  refine wpAnyH_take (i := 7) (v := (.slice sp (y - x) (tic - x))) rfl (by kernel_rfl) (by kernel_rfl) (by kernel_rfl) (fun _ _ _ h => h) (Or.inl ⟨by rfl, ?_⟩) (by assumption) ?_
  · (intro w hSw; (try dsimp only at hSw); go_simp; first | exact HSP.out.symm | (rw [HSP.out]) | (simp [HSP.out]))
  simp only [Act.put, List.getElem_toArray, List.getElem_cons_succ, List.getElem_cons_zero, List.setIfInBounds_toArray, List.set_cons_zero, List.set_cons_succ]
  refine wpAnyH_take (i := 8) (v := ?_) rfl (by kernel_rfl) (by kernel_rfl) (by kernel_rfl) (fun _ _ _ h => h) (Or.inl ⟨by rfl, ?_⟩) (by assumption) ?_
  rotate_left
  · (intro w hSw; (try dsimp only at hSw); go_simp; try with_reducible rfl)
  simp only [Act.put, List.getElem_toArray, List.getElem_cons_succ, List.getElem_cons_zero, List.setIfInBounds_toArray, List.set_cons_zero, List.set_cons_succ]
  refine wpAnyH_take (i := 9) (v := ?_) rfl (by kernel_rfl) (by kernel_rfl) (by kernel_rfl) (fun _ _ _ h => h) (Or.inl ⟨by rfl, ?_⟩) (by assumption) ?_
  rotate_left
  · (intro w hSw; (try dsimp only at hSw); go_simp; try with_reducible rfl)
  simp only [Act.put, List.getElem_toArray, List.getElem_cons_succ, List.getElem_cons_zero, List.setIfInBounds_toArray, List.set_cons_zero, List.set_cons_succ]
  refine wpAnyH_ready (rs := [3]) (by kernel_rfl) (by simp) ?_
  refine AllReadyH.cons (o := _) rfl (fun K hK => ?_) ?_
  · clear hHeld
    go_simp
    refine (fcut_calls _ V from_ to_ _ HUO.out HGV.out.1 HGV.out.2.1 (gV_box HGV.out) HT.out).mono ?_
    rintro e W15 ⟨uc, rfl, huc, hB⟩
    replace HA := Lib.hid (HA.out.below hB)
    replace HB := Lib.hid (HB.out.trans (hB.mono HB.out.size))
    replace HI := Lib.hid (HI.out.grow hB)
    replace HT := Lib.hid (fun j hj => keep_below hB _ _ (HT.out j hj))
    replace HUO := Lib.hid (HUO.out.grow hB)
    replace HTI := Lib.hid (HTI.out.grow hB)
    replace HVW := Lib.hid (HVW.out.below hB)
    replace HPT := Lib.hid (HPT.out.grow hB)
    have HUC := Lib.hid (show IsV W15 (fun _ => True) uc (V.cut from_ to_) from IsV.any huc)
    clear huc
    clear hB
    refine hK.out _ _ ?_ (fun hHeld => ?_)
    · exact ⟨HA.out.2.1, HA.out.2.2.1, HA.out.2.2.2.1, HVW.out.2.1⟩
    clear hK K
    refine wpAnyH_ready (rs := [10]) (by kernel_rfl) (by simp) ?_
    refine AllReadyH.cons (o := _) rfl (fun K hK => ?_) ?_
    · clear hHeld
      go_simp
      refine (shows8_calls _ (V.cut from_ to_) _ L1 p.f _ HUC.out HG1.out HC1.out HPT.out HE1.out HT.out).mono ?_
      rintro e W16 ⟨rfl, hB⟩
      replace HA := Lib.hid (HA.out.below hB)
      replace HB := Lib.hid (HB.out.trans (hB.mono HB.out.size))
      replace HI := Lib.hid (HI.out.grow hB)
      replace HT := Lib.hid (fun j hj => keep_below hB _ _ (HT.out j hj))
      replace HUO := Lib.hid (HUO.out.grow hB)
      replace HTI := Lib.hid (HTI.out.grow hB)
      replace HVW := Lib.hid (HVW.out.below hB)
      replace HPT := Lib.hid (HPT.out.grow hB)
      replace HUC := Lib.hid (HUC.out.grow hB)
      clear hB
      refine hK.out _ _ ?_ (fun hHeld => ?_)
      · exact ⟨HA.out.2.1, HA.out.2.2.1, HA.out.2.2.2.1, HVW.out.2.1⟩
      clear hK K
      refine wpAnyH_take (i := 11) (v := ?_) rfl (by kernel_rfl) (by kernel_rfl) (by kernel_rfl) (fun _ _ _ h => h) (Or.inl ⟨by rfl, ?_⟩) (by assumption) ?_
      rotate_left
      · (intro w hSw; (try dsimp only at hSw); go_simp; try with_reducible rfl)
      simp only [Act.put, List.getElem_toArray, List.getElem_cons_succ, List.getElem_cons_zero, List.setIfInBounds_toArray, List.set_cons_zero, List.set_cons_succ]
      refine wpAnyH_take (i := 12) (v := ?_) rfl (by kernel_rfl) (by kernel_rfl) (by kernel_rfl) (fun _ _ _ h => h) (Or.inl ⟨by rfl, ?_⟩) (by assumption) ?_
      rotate_left
      · (intro w hSw; (try dsimp only at hSw); go_simp; try with_reducible rfl)
      simp only [Act.put, List.getElem_toArray, List.getElem_cons_succ, List.getElem_cons_zero, List.setIfInBounds_toArray, List.set_cons_zero, List.set_cons_succ]
      refine wpAnyH_take (i := 13) (v := ?_) rfl (by kernel_rfl) (by kernel_rfl) (by kernel_rfl) (fun _ _ _ h => h) (Or.inl ⟨by rfl, ?_⟩) (by assumption) ?_
      rotate_left
      · (intro w hSw; (try dsimp only at hSw); go_simp; try with_reducible rfl)
      simp only [Act.put, List.getElem_toArray, List.getElem_cons_succ, List.getElem_cons_zero, List.setIfInBounds_toArray, List.set_cons_zero, List.set_cons_succ]
      refine wpAnyH_take (i := 14) (v := ?_) rfl (by kernel_rfl) (by kernel_rfl) (by kernel_rfl) (fun _ _ _ h => h) (Or.inl ⟨by rfl, ?_⟩) (by assumption) ?_
      rotate_left
      · (intro w hSw; (try dsimp only at hSw); go_simp; try with_reducible rfl)
      simp only [Act.put, List.getElem_toArray, List.getElem_cons_succ, List.getElem_cons_zero, List.setIfInBounds_toArray, List.set_cons_zero, List.set_cons_succ]
      refine wpAnyH_take (i := 16) (v := ?_) rfl (by kernel_rfl) (by kernel_rfl) (by kernel_rfl) (fun _ _ _ h => h) (Or.inl ⟨by rfl, ?_⟩) (by assumption) ?_
      rotate_left
      · (intro w hSw; (try dsimp only at hSw); go_simp; try with_reducible rfl)
      simp only [Act.put, List.getElem_toArray, List.getElem_cons_succ, List.getElem_cons_zero, List.setIfInBounds_toArray, List.set_cons_zero, List.set_cons_succ]
      refine wpAnyH_take (i := 17) (v := ?_) rfl (by kernel_rfl) (by kernel_rfl) (by kernel_rfl) (fun _ _ _ h => h) (Or.inl ⟨by rfl, ?_⟩) (by assumption) ?_
      rotate_left
      · (intro w hSw; (try dsimp only at hSw); go_simp; try with_reducible rfl)
      simp only [Act.put, List.getElem_toArray, List.getElem_cons_succ, List.getElem_cons_zero, List.setIfInBounds_toArray, List.set_cons_zero, List.set_cons_succ]
      refine wpAnyH_take (i := 18) (v := ?_) rfl (by kernel_rfl) (by kernel_rfl) (by kernel_rfl) (fun _ _ _ h => h) (Or.inl ⟨by rfl, ?_⟩) (by assumption) ?_
      rotate_left
      · (intro w hSw; (try dsimp only at hSw); go_simp; try with_reducible rfl)
      simp only [Act.put, List.getElem_toArray, List.getElem_cons_succ, List.getElem_cons_zero, List.setIfInBounds_toArray, List.set_cons_zero, List.set_cons_succ]
      refine wpAnyH_take (i := 19) (v := ?_) rfl (by kernel_rfl) (by kernel_rfl) (by kernel_rfl) (fun _ _ _ h => h) (Or.inl ⟨by rfl, ?_⟩) (by assumption) ?_
      rotate_left
      · (intro w hSw; (try dsimp only at hSw); go_simp; try with_reducible rfl)
      simp only [Act.put, List.getElem_toArray, List.getElem_cons_succ, List.getElem_cons_zero, List.setIfInBounds_toArray, List.set_cons_zero, List.set_cons_succ]
      refine wpAnyH_take (i := 21) (v := ?_) rfl (by kernel_rfl) (by kernel_rfl) (by kernel_rfl) (fun _ _ _ h => h) (Or.inl ⟨by rfl, ?_⟩) (by assumption) ?_
      rotate_left
      · (intro w hSw; (try dsimp only at hSw); go_simp; try with_reducible rfl)
      simp only [Act.put, List.getElem_toArray, List.getElem_cons_succ, List.getElem_cons_zero, List.setIfInBounds_toArray, List.set_cons_zero, List.set_cons_succ]
      refine wpAnyH_take (i := 22) (v := ?_) rfl (by kernel_rfl) (by kernel_rfl) (by kernel_rfl) (fun _ _ _ h => h) (Or.inl ⟨by rfl, ?_⟩) (by assumption) ?_
      rotate_left
      · (intro w hSw; (try dsimp only at hSw); go_simp; try with_reducible rfl)
      simp only [Act.put, List.getElem_toArray, List.getElem_cons_succ, List.getElem_cons_zero, List.setIfInBounds_toArray, List.set_cons_zero, List.set_cons_succ]
      refine wpAnyH_ready (rs := [15]) (by kernel_rfl) (by simp) ?_
      refine AllReadyH.cons (o := _) rfl (fun K hK => ?_) ?_
      · clear hHeld
        go_simp
        refine (again_calls _ V n _ HUO.out HGV.out.1 HGV.out.2.1 (gV_box HGV.out) HT.out (by have := HLG.out; omega)).mono ?_
        rintro e W17 ⟨ua, rfl, hua, hB⟩
        replace HA := Lib.hid (HA.out.below hB)
        replace HB := Lib.hid (HB.out.trans (hB.mono HB.out.size))
        replace HI := Lib.hid (HI.out.grow hB)
        replace HT := Lib.hid (fun j hj => keep_below hB _ _ (HT.out j hj))
        replace HUO := Lib.hid (HUO.out.grow hB)
        replace HTI := Lib.hid (HTI.out.grow hB)
        replace HVW := Lib.hid (HVW.out.below hB)
        replace HPT := Lib.hid (HPT.out.grow hB)
        replace HUC := Lib.hid (HUC.out.grow hB)
        rw [HMN.out] at hua
        have HUA := Lib.hid (show IsV W17 (fun _ => True) ua (V.sel (againL (max V.len 1) n.toNat)) from IsV.any hua)
        clear hua
        clear hB
        refine hK.out _ _ ?_ (fun hHeld => ?_)
        · exact ⟨HA.out.2.1, HA.out.2.2.1, HA.out.2.2.2.1, HVW.out.2.1⟩
        clear hK K
        refine wpAnyH_ready (rs := [20]) (by kernel_rfl) (by simp) ?_
        refine AllReadyH.cons (o := _) rfl (fun K hK => ?_) ?_
        · clear hHeld
          go_simp
          refine (ragain_calls _ l p.f HFC.out n _ HTI.out (by have := HLG.out; omega) (by have := HN.out; have := HLN.out; have := HLM.out; omega)).mono ?_
          rintro e W18 ⟨ra, rfl, hra, hB⟩
          replace HA := Lib.hid (HA.out.below hB)
          replace HB := Lib.hid (HB.out.trans (hB.mono HB.out.size))
          replace HI := Lib.hid (HI.out.grow hB)
          replace HT := Lib.hid (fun j hj => keep_below hB _ _ (HT.out j hj))
          replace HUO := Lib.hid (HUO.out.grow hB)
          replace HTI := Lib.hid (HTI.out.grow hB)
          replace HVW := Lib.hid (HVW.out.below hB)
          replace HPT := Lib.hid (HPT.out.grow hB)
          replace HUC := Lib.hid (HUC.out.grow hB)
          replace HUA := Lib.hid (HUA.out.grow hB)
          rw [← HL2.out] at hra
          have HRA := Lib.hid (show Its W18 (fun _ => True) ra L2 from hra.wide (fun _ _ _ => trivial))
          obtain ⟨_, _, rfl, _⟩ := hra.len
          clear hra
          clear hB
          refine hK.out _ _ ?_ (fun hHeld => ?_)
          · exact ⟨HA.out.2.1, HA.out.2.2.1, HA.out.2.2.2.1, HVW.out.2.1⟩
          clear hK K
          refine wpAnyH_ready (rs := [23]) (by kernel_rfl) (by simp) ?_
          refine AllReadyH.cons (o := _) rfl (fun K hK => ?_) ?_
          · clear hHeld
            go_simp
            refine (shows8_calls _ (V.sel (againL (max V.len 1) n.toNat)) _ L2 p.f _ HUA.out HG2.out HC2.out HRA.out HE2.out HT.out).mono ?_
            rintro e W19 ⟨rfl, hB⟩
            replace HA := Lib.hid (HA.out.below hB)
            replace HB := Lib.hid (HB.out.trans (hB.mono HB.out.size))
            replace HI := Lib.hid (HI.out.grow hB)
            replace HT := Lib.hid (fun j hj => keep_below hB _ _ (HT.out j hj))
            replace HUO := Lib.hid (HUO.out.grow hB)
            replace HTI := Lib.hid (HTI.out.grow hB)
            replace HVW := Lib.hid (HVW.out.below hB)
            replace HPT := Lib.hid (HPT.out.grow hB)
            replace HUC := Lib.hid (HUC.out.grow hB)
            replace HUA := Lib.hid (HUA.out.grow hB)
            replace HRA := Lib.hid (HRA.out.grow hB)
            clear hB
            refine hK.out _ _ ?_ (fun hHeld => ?_)
            · exact ⟨HA.out.2.1, HA.out.2.2.1, HA.out.2.2.2.1, HVW.out.2.1⟩
            clear hK K
            refine wpAnyH_take (i := 24) (v := ?_) rfl (by kernel_rfl) (by kernel_rfl) (by kernel_rfl) (fun _ _ _ h => h) (Or.inl ⟨by rfl, ?_⟩) (by assumption) ?_
            rotate_left
            · (intro w hSw; (try dsimp only at hSw); go_simp; try with_reducible rfl)
            simp only [Act.put, List.getElem_toArray, List.getElem_cons_succ, List.getElem_cons_zero, List.setIfInBounds_toArray, List.set_cons_zero, List.set_cons_succ]
            refine wpAnyH_take (i := 25) (v := ?_) rfl (by kernel_rfl) (by kernel_rfl) (by kernel_rfl) (fun _ _ _ h => h) (Or.inl ⟨by rfl, ?_⟩) (by assumption) ?_
            rotate_left
            · (intro w hSw; (try dsimp only at hSw); go_simp; try with_reducible rfl)
            simp only [Act.put, List.getElem_toArray, List.getElem_cons_succ, List.getElem_cons_zero, List.setIfInBounds_toArray, List.set_cons_zero, List.set_cons_succ]
            refine wpAnyH_take (i := 26) (v := ?_) rfl (by kernel_rfl) (by kernel_rfl) (by kernel_rfl) (fun _ _ _ h => h) (Or.inl ⟨by rfl, ?_⟩) (by assumption) ?_
            rotate_left
            · (intro w hSw; (try dsimp only at hSw); go_simp; try with_reducible rfl)
            simp only [Act.put, List.getElem_toArray, List.getElem_cons_succ, List.getElem_cons_zero, List.setIfInBounds_toArray, List.set_cons_zero, List.set_cons_succ]
            refine wpAnyH_take (i := 27) (v := ?_) rfl (by kernel_rfl) (by kernel_rfl) (by kernel_rfl) (fun _ _ _ h => h) (Or.inl ⟨by rfl, ?_⟩) (by assumption) ?_
            rotate_left
            · (intro w hSw; (try dsimp only at hSw); go_simp; try with_reducible rfl)
            simp only [Act.put, List.getElem_toArray, List.getElem_cons_succ, List.getElem_cons_zero, List.setIfInBounds_toArray, List.set_cons_zero, List.set_cons_succ]
            refine wpAnyH_take (i := 29) (v := ?_) rfl (by kernel_rfl) (by kernel_rfl) (by kernel_rfl) (fun _ _ _ h => h) (Or.inl ⟨by rfl, ?_⟩) (by assumption) ?_
            rotate_left
            · (intro w hSw; (try dsimp only at hSw); go_simp; try with_reducible rfl)
            simp only [Act.put, List.getElem_toArray, List.getElem_cons_succ, List.getElem_cons_zero, List.setIfInBounds_toArray, List.set_cons_zero, List.set_cons_succ]
            refine wpAnyH_take (i := 31) (v := ?_) rfl (by kernel_rfl) (by kernel_rfl) (by kernel_rfl) (fun _ _ _ h => h) (Or.inl ⟨by rfl, ?_⟩) (by assumption) ?_
            rotate_left
            · (intro w hSw; (try dsimp only at hSw); go_simp; try with_reducible rfl)
            simp only [Act.put, List.getElem_toArray, List.getElem_cons_succ, List.getElem_cons_zero, List.setIfInBounds_toArray, List.set_cons_zero, List.set_cons_succ]
            refine wpAnyH_take (i := 32) (v := ?_) rfl (by kernel_rfl) (by kernel_rfl) (by kernel_rfl) (fun _ _ _ h => h) (Or.inl ⟨by rfl, ?_⟩) (by assumption) ?_
            rotate_left
            · (intro w hSw; (try dsimp only at hSw); go_simp; try with_reducible rfl)
            simp only [Act.put, List.getElem_toArray, List.getElem_cons_succ, List.getElem_cons_zero, List.setIfInBounds_toArray, List.set_cons_zero, List.set_cons_succ]
            refine wpAnyH_ready (rs := [28]) (by kernel_rfl) (by simp) ?_
            refine AllReadyH.cons (o := _) rfl (fun K hK => ?_) ?_
            · clear hHeld
              go_simp
              refine (fturn_calls _ V _ HUO.out HGV.out.1 HGV.out.2.1 (gV_box HGV.out) HT.out).mono ?_
              rintro e W20 ⟨ut, rfl, hut, hB⟩
              replace HA := Lib.hid (HA.out.below hB)
              replace HB := Lib.hid (HB.out.trans (hB.mono HB.out.size))
              replace HI := Lib.hid (HI.out.grow hB)
              replace HT := Lib.hid (fun j hj => keep_below hB _ _ (HT.out j hj))
              replace HUO := Lib.hid (HUO.out.grow hB)
              replace HTI := Lib.hid (HTI.out.grow hB)
              replace HVW := Lib.hid (HVW.out.below hB)
              replace HPT := Lib.hid (HPT.out.grow hB)
              replace HUC := Lib.hid (HUC.out.grow hB)
              replace HUA := Lib.hid (HUA.out.grow hB)
              replace HRA := Lib.hid (HRA.out.grow hB)
              rw [← HT1.out] at hut
              have HUT := Lib.hid (show IsV W20 (fun _ => True) ut (T) from IsV.any hut)
              clear hut
              clear hB
              refine hK.out _ _ ?_ (fun hHeld => ?_)
              · exact ⟨HA.out.2.1, HA.out.2.2.1, HA.out.2.2.2.1, HVW.out.2.1⟩
              clear hK K
              refine wpAnyH_ready (rs := [30]) (by kernel_rfl) (by simp) ?_
              refine AllReadyH.cons (o := _) rfl (fun K hK => ?_) ?_
              · clear hHeld
                go_simp
                refine (rturn_calls _ l _ HTI.out (by have := HN.out; have := HLN.out; have := HLM.out; omega)).mono ?_
                rintro e W21 ⟨rt, rfl, hrt, hB⟩
                replace HA := Lib.hid (HA.out.below hB)
                replace HB := Lib.hid (HB.out.trans (hB.mono HB.out.size))
                replace HI := Lib.hid (HI.out.grow hB)
                replace HT := Lib.hid (fun j hj => keep_below hB _ _ (HT.out j hj))
                replace HUO := Lib.hid (HUO.out.grow hB)
                replace HTI := Lib.hid (HTI.out.grow hB)
                replace HVW := Lib.hid (HVW.out.below hB)
                replace HPT := Lib.hid (HPT.out.grow hB)
                replace HUC := Lib.hid (HUC.out.grow hB)
                replace HUA := Lib.hid (HUA.out.grow hB)
                replace HRA := Lib.hid (HRA.out.grow hB)
                replace HUT := Lib.hid (HUT.out.grow hB)
                rw [← HL3.out] at hrt
                have HRT := Lib.hid (show Its W21 (fun _ => True) rt L3 from hrt.wide (fun _ _ _ => trivial))
                obtain ⟨_, _, rfl, _⟩ := hrt.len
                clear hrt
                clear hB
                refine hK.out _ _ ?_ (fun hHeld => ?_)
                · exact ⟨HA.out.2.1, HA.out.2.2.1, HA.out.2.2.2.1, HVW.out.2.1⟩
                clear hK K
                refine wpAnyH_ready (rs := [33]) (by kernel_rfl) (by simp) ?_
                refine AllReadyH.cons (o := _) rfl (fun K hK => ?_) ?_
                · clear hHeld
                  go_simp
                  refine (shows8_calls _ (T) _ L3 p.f _ HUT.out HG3.out HC3.out HRT.out HE3.out HT.out).mono ?_
                  rintro e W22 ⟨rfl, hB⟩
                  replace HA := Lib.hid (HA.out.below hB)
                  replace HB := Lib.hid (HB.out.trans (hB.mono HB.out.size))
                  replace HI := Lib.hid (HI.out.grow hB)
                  replace HT := Lib.hid (fun j hj => keep_below hB _ _ (HT.out j hj))
                  replace HUO := Lib.hid (HUO.out.grow hB)
                  replace HTI := Lib.hid (HTI.out.grow hB)
                  replace HVW := Lib.hid (HVW.out.below hB)
                  replace HPT := Lib.hid (HPT.out.grow hB)
                  replace HUC := Lib.hid (HUC.out.grow hB)
                  replace HUA := Lib.hid (HUA.out.grow hB)
                  replace HRA := Lib.hid (HRA.out.grow hB)
                  replace HUT := Lib.hid (HUT.out.grow hB)
                  replace HRT := Lib.hid (HRT.out.grow hB)
                  clear hB
                  refine hK.out _ _ ?_ (fun hHeld => ?_)
                  · exact ⟨HA.out.2.1, HA.out.2.2.1, HA.out.2.2.2.1, HVW.out.2.1⟩
                  clear hK K
                  refine wpAnyH_take (i := 34) (v := ?_) rfl (by kernel_rfl) (by kernel_rfl) (by kernel_rfl) (fun _ _ _ h => h) (Or.inl ⟨by rfl, ?_⟩) (by assumption) ?_
                  rotate_left
                  · (intro w hSw; (try dsimp only at hSw); go_simp; try with_reducible rfl)
                  simp only [Act.put, List.getElem_toArray, List.getElem_cons_succ, List.getElem_cons_zero, List.setIfInBounds_toArray, List.set_cons_zero, List.set_cons_succ]
                  refine wpAnyH_take (i := 35) (v := ?_) rfl (by kernel_rfl) (by kernel_rfl) (by kernel_rfl) (fun _ _ _ h => h) (Or.inl ⟨by rfl, ?_⟩) (by assumption) ?_
                  rotate_left
                  · (intro w hSw; (try dsimp only at hSw); go_simp; try with_reducible rfl)
                  simp only [Act.put, List.getElem_toArray, List.getElem_cons_succ, List.getElem_cons_zero, List.setIfInBounds_toArray, List.set_cons_zero, List.set_cons_succ]
                  refine wpAnyH_take (i := 36) (v := ?_) rfl (by kernel_rfl) (by kernel_rfl) (by kernel_rfl) (fun _ _ _ h => h) (Or.inl ⟨by rfl, ?_⟩) (by assumption) ?_
                  rotate_left
                  · (intro w hSw; (try dsimp only at hSw); go_simp; try with_reducible rfl)
                  simp only [Act.put, List.getElem_toArray, List.getElem_cons_succ, List.getElem_cons_zero, List.setIfInBounds_toArray, List.set_cons_zero, List.set_cons_succ]
                  refine wpAnyH_take (i := 37) (v := ?_) rfl (by kernel_rfl) (by kernel_rfl) (by kernel_rfl) (fun _ _ _ h => h) (Or.inl ⟨by rfl, ?_⟩) (by assumption) ?_
                  rotate_left
                  · (intro w hSw; (try dsimp only at hSw); go_simp; try with_reducible rfl)
                  simp only [Act.put, List.getElem_toArray, List.getElem_cons_succ, List.getElem_cons_zero, List.setIfInBounds_toArray, List.set_cons_zero, List.set_cons_succ]
                  refine wpAnyH_take (i := 40) (v := ?_) rfl (by kernel_rfl) (by kernel_rfl) (by kernel_rfl) (fun _ _ _ h => h) (Or.inl ⟨by rfl, ?_⟩) (by assumption) ?_
                  rotate_left
                  · (intro w hSw; (try dsimp only at hSw); go_simp; try with_reducible rfl)
                  simp only [Act.put, List.getElem_toArray, List.getElem_cons_succ, List.getElem_cons_zero, List.setIfInBounds_toArray, List.set_cons_zero, List.set_cons_succ]
                  refine wpAnyH_take (i := 41) (v := ?_) rfl (by kernel_rfl) (by kernel_rfl) (by kernel_rfl) (fun _ _ _ h => h) (Or.inl ⟨by rfl, ?_⟩) (by assumption) ?_
                  rotate_left
                  · (intro w hSw; (try dsimp only at hSw); go_simp; try with_reducible rfl)
                  simp only [Act.put, List.getElem_toArray, List.getElem_cons_succ, List.getElem_cons_zero, List.setIfInBounds_toArray, List.set_cons_zero, List.set_cons_succ]
                  refine wpAnyH_take (i := 42) (v := ?_) rfl (by kernel_rfl) (by kernel_rfl) (by kernel_rfl) (fun _ _ _ h => h) (Or.inl ⟨by rfl, ?_⟩) (by assumption) ?_
                  rotate_left
                  · (intro w hSw; (try dsimp only at hSw); go_simp; try with_reducible rfl)
                  simp only [Act.put, List.getElem_toArray, List.getElem_cons_succ, List.getElem_cons_zero, List.setIfInBounds_toArray, List.set_cons_zero, List.set_cons_succ]
                  refine wpAnyH_ready (rs := [38]) (by kernel_rfl) (by simp) ?_
                  refine AllReadyH.cons (o := _) rfl (fun K hK => ?_) ?_
                  · clear hHeld
                    go_simp
                    refine (fturn_calls _ V _ HUO.out HGV.out.1 HGV.out.2.1 (gV_box HGV.out) HT.out).mono ?_
                    rintro e W23 ⟨uv, rfl, huv, hB⟩
                    replace HA := Lib.hid (HA.out.below hB)
                    replace HB := Lib.hid (HB.out.trans (hB.mono HB.out.size))
                    replace HI := Lib.hid (HI.out.grow hB)
                    replace HT := Lib.hid (fun j hj => keep_below hB _ _ (HT.out j hj))
                    replace HUO := Lib.hid (HUO.out.grow hB)
                    replace HTI := Lib.hid (HTI.out.grow hB)
                    replace HVW := Lib.hid (HVW.out.below hB)
                    replace HPT := Lib.hid (HPT.out.grow hB)
                    replace HUC := Lib.hid (HUC.out.grow hB)
                    replace HUA := Lib.hid (HUA.out.grow hB)
                    replace HRA := Lib.hid (HRA.out.grow hB)
                    replace HUT := Lib.hid (HUT.out.grow hB)
                    replace HRT := Lib.hid (HRT.out.grow hB)
                    rw [← HT1.out] at huv
                    have HUV2 := Lib.hid (show IsV W23 (fun _ => True) uv (T) from IsV.any huv)
                    clear huv
                    clear hB
                    refine hK.out _ _ ?_ (fun hHeld => ?_)
                    · exact ⟨HA.out.2.1, HA.out.2.2.1, HA.out.2.2.2.1, HVW.out.2.1⟩
                    clear hK K
                    refine wpAnyH_ready (rs := [39]) (by kernel_rfl) (by simp) ?_
                    refine AllReadyH.cons (o := _) rfl (fun K hK => ?_) ?_
                    · clear hHeld
                      go_simp
                      refine (fturn_calls _ T _ HUV2.out HG3.out.1 HG3.out.2.1 (gV_box HG3.out) HT.out).mono ?_
                      rintro e W24 ⟨uw, rfl, huw, hB⟩
                      replace HA := Lib.hid (HA.out.below hB)
                      replace HB := Lib.hid (HB.out.trans (hB.mono HB.out.size))
                      replace HI := Lib.hid (HI.out.grow hB)
                      replace HT := Lib.hid (fun j hj => keep_below hB _ _ (HT.out j hj))
                      replace HUO := Lib.hid (HUO.out.grow hB)
                      replace HTI := Lib.hid (HTI.out.grow hB)
                      replace HVW := Lib.hid (HVW.out.below hB)
                      replace HPT := Lib.hid (HPT.out.grow hB)
                      replace HUC := Lib.hid (HUC.out.grow hB)
                      replace HUA := Lib.hid (HUA.out.grow hB)
                      replace HRA := Lib.hid (HRA.out.grow hB)
                      replace HUT := Lib.hid (HUT.out.grow hB)
                      replace HRT := Lib.hid (HRT.out.grow hB)
                      replace HUV2 := Lib.hid (HUV2.out.grow hB)
                      have HUW := Lib.hid (show IsV W24 (fun _ => True) uw (T.sel (turnL T.len)) from IsV.any huw)
                      clear huw
                      clear hB
                      refine hK.out _ _ ?_ (fun hHeld => ?_)
                      · exact ⟨HA.out.2.1, HA.out.2.2.1, HA.out.2.2.2.1, HVW.out.2.1⟩
                      clear hK K
                      refine wpAnyH_ready (rs := [43]) (by kernel_rfl) (by simp) ?_
                      refine AllReadyH.cons (o := _) rfl (fun K hK => ?_) ?_
                      · clear hHeld
                        go_simp
                        refine (shows8_calls _ (T.sel (turnL T.len)) _ l p.f _ HUW.out HG4.out HC4.out HTI.out HE4.out HT.out).mono ?_
                        rintro e W25 ⟨rfl, hB⟩
                        replace HA := Lib.hid (HA.out.below hB)
                        replace HB := Lib.hid (HB.out.trans (hB.mono HB.out.size))
                        replace HI := Lib.hid (HI.out.grow hB)
                        replace HT := Lib.hid (fun j hj => keep_below hB _ _ (HT.out j hj))
                        replace HUO := Lib.hid (HUO.out.grow hB)
                        replace HTI := Lib.hid (HTI.out.grow hB)
                        replace HVW := Lib.hid (HVW.out.below hB)
                        replace HPT := Lib.hid (HPT.out.grow hB)
                        replace HUC := Lib.hid (HUC.out.grow hB)
                        replace HUA := Lib.hid (HUA.out.grow hB)
                        replace HRA := Lib.hid (HRA.out.grow hB)
                        replace HUT := Lib.hid (HUT.out.grow hB)
                        replace HRT := Lib.hid (HRT.out.grow hB)
                        replace HUV2 := Lib.hid (HUV2.out.grow hB)
                        replace HUW := Lib.hid (HUW.out.grow hB)
                        clear hB
                        refine hK.out _ _ ?_ (fun hHeld => ?_)
                        · exact ⟨HA.out.2.1, HA.out.2.2.1, HA.out.2.2.2.1, HVW.out.2.1⟩
                        clear hK K
                        refine wpAnyH_take (i := 44) (v := ?_) rfl (by kernel_rfl) (by kernel_rfl) (by kernel_rfl) (fun _ _ _ h => h) (Or.inl ⟨by rfl, ?_⟩) (by assumption) ?_
                        rotate_left
                        · (intro w hSw; (try dsimp only at hSw); go_simp; try with_reducible rfl)
                        simp only [Act.put, List.getElem_toArray, List.getElem_cons_succ, List.getElem_cons_zero, List.setIfInBounds_toArray, List.set_cons_zero, List.set_cons_succ]
                        refine wpAnyH_take (i := 45) (v := ?_) rfl (by kernel_rfl) (by kernel_rfl) (by kernel_rfl) (fun _ _ _ h => h) (Or.inl ⟨by rfl, ?_⟩) (by assumption) ?_
                        rotate_left
                        · (intro w hSw; (try dsimp only at hSw); go_simp; try with_reducible rfl)
                        simp only [Act.put, List.getElem_toArray, List.getElem_cons_succ, List.getElem_cons_zero, List.setIfInBounds_toArray, List.set_cons_zero, List.set_cons_succ]
                        refine wpAnyH_done (by kernel_rfl) ?_ _
                        clear hHeld
                        have cHA0 := HA.out.2.1
                        have cHA1 := HA.out.2.2.1
                        have cHA2 := HA.out.2.2.2.1
                        have cHVW0 := HVW.out.2.1
                        go_wp2_with fail
                        clear cHA0 cHA1 cHA2 cHVW0
                        have hnv := HNV.out
                        have HJ3 := Lib.hid (show ∀ u1 u2 u3 : Value, joinB [(u1, V.cut 0 (x : Int)), (u2, V.cut (x : Int) (y : Int)), (u3, V.cut (y : Int) (N : Int))] = true ∧ gV 39 (joinZ [(u1, V.cut 0 (x : Int)), (u2, V.cut (x : Int) (y : Int)), (u3, V.cut (y : Int) (N : Int))]) ∧ (joinZ [(u1, V.cut 0 (x : Int)), (u2, V.cut (x : Int) (y : Int)), (u3, V.cut (y : Int) (N : Int))]).cls = p.f ∧ itsA 39 (joinZ [(u1, V.cut 0 (x : Int)), (u2, V.cut (x : Int) (y : Int)), (u3, V.cut (y : Int) (N : Int))]) = l from fun u1 u2 u3 => by
                          have := join_three HGV.out HYB.out.1 (show y ≤ V.len by rw [hnv]; exact HYB.out.2.1) u1 u2 u3
                          rw [hnv, HCL.out, HTL.out] at this
                          exact this)
                        have HG8 := Lib.hid (show ∀ a b : Int, gV 39 (V.cut a b) from fun a b => gV_cut (d := 38) HGV.out)
                        clear hnv
                        refine wp_mid (fun a a' w' => ∃ (u1 u2 u3 uj : Value) (bl bw : Nat) (VJ : VV), a' = (((((((((((((((((((a.put (some 85) (.agg #[uo])).put (some 86) (.int .i64 (x : Int))).put (some 87) (.agg #[u1])).put (some 88) (.agg #[uo])).put (some 89) (.int .i64 (x : Int))).put (some 90) (.int .i64 (y : Int))).put (some 91) (.agg #[u2])).put (some 92) (.agg #[uo])).put (some 93) (.int .i64 (y : Int))).put (some 94) (.slice tio N tic)).put (some 95) (.int .i64 (N : Int))).put (some 96) (.agg #[u3])).put (some 97) (.slice (some ⟨bl, 0, none⟩) 3 3)).put (some 98) (.tuple #[.agg #[uj], .bool true])).put (some 84) (.tuple #[.agg #[uj], .bool true])).put (some 99) (.agg #[uj])).put (some 100) (.bool true)).put (some 13) (.pointer (some ⟨bw, 0, none⟩))).put (some 14) (.bool true)) ∧ gV 39 VJ ∧ VJ.cls = p.f ∧ itsA 39 VJ = l ∧ IsV w' (fun _ => True) uj VJ ∧ At1 w' bw uj ∧ Below W25.heap.size W25 w') ?_ ?_
                        · have HW0 := Lib.hid (Below.refl W25.heap.size W25)
                          replace HUO := Lib.hid (show IsV W25 (fun b => b < W25.heap.size) uo V from HUO.out.lt.wide (fun b _ h => h.2))
                          have HVL := Lib.hid (show bv < W25.heap.size from HVW.out.1)
                          obtain ⟨W26, hWD⟩ : ∃ xw9, W25.drew = xw9 := ⟨_, rfl⟩
                          have hB : Below W25.heap.size W25 W26 := by rw [← hWD]; exact Below.drewN' (Below.refl _ _) 1
                          replace HA := Lib.hid (HA.out.below hB)
                          replace HB := Lib.hid (HB.out.trans (hB.mono HB.out.size))
                          replace HI := Lib.hid (HI.out.grow hB)
                          replace HT := Lib.hid (fun j hj => keep_below hB _ _ (HT.out j hj))
                          replace HUO := Lib.hid (HUO.out.grow hB)
                          replace HTI := Lib.hid (HTI.out.grow hB)
                          replace HVW := Lib.hid (HVW.out.below hB)
                          replace HW0 := Lib.hid (HW0.out.trans (hB.mono HW0.out.size))
                          clear hB
                          refine wp_region_held_drew (S := fun w' => w'.cell? ⟨bv, 0, none⟩ = some uo) (by kernel_rfl) (by rw [hWD]; exact HVW.out.2.1) (fun hHeld => ?_)
                          rw [hWD] at hHeld ⊢
                          clear hWD
                          refine wpAnyH_take (i := 0) (v := ?_) rfl (by kernel_rfl) (by kernel_rfl) (by kernel_rfl) (fun _ _ _ h => absurd h.1 (by simp)) (Or.inl ⟨by rfl, ?_⟩) (by assumption) ?_
                          rotate_left
                          · (intro w hSw; (try dsimp only at hSw); go_simp; try with_reducible rfl)
                          simp only [Act.put, List.getElem_toArray, List.getElem_cons_zero, List.setIfInBounds_toArray, List.set_cons_zero, List.set_cons_succ]
                          refine wpAnyH_take (i := 1) (v := ?_) rfl (by kernel_rfl) (by kernel_rfl) (by kernel_rfl) (fun _ _ _ h => absurd h.1 (by simp)) (Or.inl ⟨by rfl, ?_⟩) (by assumption) ?_
                          rotate_left
                          · (intro w hSw; (try dsimp only at hSw); go_simp; try with_reducible rfl)
                          simp only [Act.put, List.getElem_toArray, List.getElem_cons_succ, List.getElem_cons_zero, List.setIfInBounds_toArray, List.set_cons_zero, List.set_cons_succ]
                          refine wpAnyH_take (i := 3) (v := ?_) rfl (by kernel_rfl) (by kernel_rfl) (by kernel_rfl) (fun _ _ _ h => absurd h.1 (by simp)) (Or.inl ⟨by rfl, ?_⟩) (by assumption) ?_
                          rotate_left
                          · (intro w hSw; (try dsimp only at hSw); go_simp; try with_reducible rfl)
                          simp only [Act.put, List.getElem_toArray, List.getElem_cons_succ, List.getElem_cons_zero, List.setIfInBounds_toArray, List.set_cons_zero, List.set_cons_succ]
                          refine wpAnyH_take (i := 4) (v := ?_) rfl (by kernel_rfl) (by kernel_rfl) (by kernel_rfl) (fun _ _ _ h => absurd h.1 (by simp)) (Or.inl ⟨by rfl, ?_⟩) (by assumption) ?_
                          rotate_left
                          · (intro w hSw; (try dsimp only at hSw); go_simp; try with_reducible rfl)
                          simp only [Act.put, List.getElem_toArray, List.getElem_cons_succ, List.getElem_cons_zero, List.setIfInBounds_toArray, List.set_cons_zero, List.set_cons_succ]
                          refine wpAnyH_take (i := 5) (v := ?_) rfl (by kernel_rfl) (by kernel_rfl) (by kernel_rfl) (fun _ _ _ h => absurd h.1 (by simp)) (Or.inl ⟨by rfl, ?_⟩) (by assumption) ?_
                          rotate_left
                          · (intro w hSw; (try dsimp only at hSw); go_simp; try with_reducible rfl)
                          simp only [Act.put, List.getElem_toArray, List.getElem_cons_succ, List.getElem_cons_zero, List.setIfInBounds_toArray, List.set_cons_zero, List.set_cons_succ]
                          refine wpAnyH_take (i := 7) (v := ?_) rfl (by kernel_rfl) (by kernel_rfl) (by kernel_rfl) (fun _ _ _ h => absurd h.1 (by simp)) (Or.inl ⟨by rfl, ?_⟩) (by assumption) ?_
                          rotate_left
                          · (intro w hSw; (try dsimp only at hSw); go_simp; try with_reducible rfl)
                          simp only [Act.put, List.getElem_toArray, List.getElem_cons_succ, List.getElem_cons_zero, List.setIfInBounds_toArray, List.set_cons_zero, List.set_cons_succ]
                          refine wpAnyH_take (i := 8) (v := ?_) rfl (by kernel_rfl) (by kernel_rfl) (by kernel_rfl) (fun _ _ _ h => absurd h.1 (by simp)) (Or.inl ⟨by rfl, ?_⟩) (by assumption) ?_
                          rotate_left
                          · (intro w hSw; (try dsimp only at hSw); go_simp; try with_reducible rfl)
                          simp only [Act.put, List.getElem_toArray, List.getElem_cons_succ, List.getElem_cons_zero, List.setIfInBounds_toArray, List.set_cons_zero, List.set_cons_succ]
                          refine wpAnyH_take (i := 9) (v := ?_) rfl (by kernel_rfl) (by kernel_rfl) (by kernel_rfl) (fun _ _ _ h => absurd h.1 (by simp)) (Or.inl ⟨by rfl, ?_⟩) (by assumption) ?_
                          rotate_left
                          · (intro w hSw; (try dsimp only at hSw); go_simp; try with_reducible rfl)
                          simp only [Act.put, List.getElem_toArray, List.getElem_cons_succ, List.getElem_cons_zero, List.setIfInBounds_toArray, List.set_cons_zero, List.set_cons_succ]
                          refine wpAnyH_take (i := 10) (v := ?_) rfl (by kernel_rfl) (by kernel_rfl) (by kernel_rfl) (fun _ _ _ h => absurd h.1 (by simp)) (Or.inl ⟨by rfl, ?_⟩) (by assumption) ?_
                          rotate_left
                          · (intro w hSw; (try dsimp only at hSw); go_simp; try with_reducible rfl)
                          simp only [Act.put, List.getElem_toArray, List.getElem_cons_succ, List.getElem_cons_zero, List.setIfInBounds_toArray, List.set_cons_zero, List.set_cons_succ]
                          refine wpAnyH_ready (rs := [2, 17]) (by kernel_rfl) (by simp) ?_
                          refine AllReadyH.cons (o := _) rfl (fun K hK => ?_) ?_
                          · clear hHeld
                            go_simp
                            refine (fcut_calls _ V 0 (x : Int) _ HUO.out HGV.out.1 HGV.out.2.1 (gV_box HGV.out) HT.out).mono ?_
                            rintro e W27 ⟨u1, rfl, hu1, hB⟩
                            replace HA := Lib.hid (HA.out.below hB)
                            replace HB := Lib.hid (HB.out.trans (hB.mono HB.out.size))
                            replace HI := Lib.hid (HI.out.grow hB)
                            replace HT := Lib.hid (fun j hj => keep_below hB _ _ (HT.out j hj))
                            replace HUO := Lib.hid (HUO.out.grow hB)
                            replace HTI := Lib.hid (HTI.out.grow hB)
                            replace HVW := Lib.hid (HVW.out.below hB)
                            replace HW0 := Lib.hid (HW0.out.trans (hB.mono HW0.out.size))
                            have hsu1 := hu1.store
                            have HU1 := Lib.hid (show IsV W27 (fun _ => True) u1 (V.cut 0 (x : Int)) from IsV.any hu1)
                            clear hu1
                            clear hB
                            refine hK.out _ _ ?_ (fun hHeld => ?_)
                            · exact HVW.out.2.1
                            clear hK K
                            refine wpAnyH_ready (rs := [6, 17]) (by kernel_rfl) (by simp) ?_
                            refine AllReadyH.cons (o := _) rfl (fun K hK => ?_) ?_
                            · clear hHeld
                              go_simp
                              refine (fcut_calls _ V (x : Int) (y : Int) _ HUO.out HGV.out.1 HGV.out.2.1 (gV_box HGV.out) HT.out).mono ?_
                              rintro e W28 ⟨u2, rfl, hu2, hB⟩
                              replace HA := Lib.hid (HA.out.below hB)
                              replace HB := Lib.hid (HB.out.trans (hB.mono HB.out.size))
                              replace HI := Lib.hid (HI.out.grow hB)
                              replace HT := Lib.hid (fun j hj => keep_below hB _ _ (HT.out j hj))
                              replace HUO := Lib.hid (HUO.out.grow hB)
                              replace HTI := Lib.hid (HTI.out.grow hB)
                              replace HVW := Lib.hid (HVW.out.below hB)
                              replace HW0 := Lib.hid (HW0.out.trans (hB.mono HW0.out.size))
                              replace HU1 := Lib.hid (HU1.out.grow hB)
                              have hsu2 := hu2.store
                              have HU2 := Lib.hid (show IsV W28 (fun _ => True) u2 (V.cut (x : Int) (y : Int)) from IsV.any hu2)
                              clear hu2
                              clear hB
                              refine hK.out _ _ ?_ (fun hHeld => ?_)
                              · exact HVW.out.2.1
                              clear hK K
                              refine wpAnyH_ready (rs := [11, 17]) (by kernel_rfl) (by simp) ?_
                              refine AllReadyH.cons (o := _) rfl (fun K hK => ?_) ?_
                              · clear hHeld
                                go_simp
                                refine (fcut_calls _ V (y : Int) (N : Int) _ HUO.out HGV.out.1 HGV.out.2.1 (gV_box HGV.out) HT.out).mono ?_
                                rintro e W29 ⟨u3, rfl, hu3, hB⟩
                                replace HA := Lib.hid (HA.out.below hB)
                                replace HB := Lib.hid (HB.out.trans (hB.mono HB.out.size))
                                replace HI := Lib.hid (HI.out.grow hB)
                                replace HT := Lib.hid (fun j hj => keep_below hB _ _ (HT.out j hj))
                                replace HUO := Lib.hid (HUO.out.grow hB)
                                replace HTI := Lib.hid (HTI.out.grow hB)
                                replace HVW := Lib.hid (HVW.out.below hB)
                                replace HW0 := Lib.hid (HW0.out.trans (hB.mono HW0.out.size))
                                replace HU1 := Lib.hid (HU1.out.grow hB)
                                replace HU2 := Lib.hid (HU2.out.grow hB)
                                have hsu3 := hu3.store
                                have HU3 := Lib.hid (show IsV W29 (fun _ => True) u3 (V.cut (y : Int) (N : Int)) from IsV.any hu3)
                                clear hu3
                                clear hB
                                refine hK.out _ _ ?_ (fun hHeld => ?_)
                                · exact HVW.out.2.1
                                clear hK K
                                refine wpAnyH_ready (rs := [12, 17]) (by kernel_rfl) (by simp) ?_
                                refine AllReadyH.cons (o := _) rfl (fun K hK => ?_) ?_
                                · clear hHeld
                                  go_simp
                                  obtain ⟨W30, hWn⟩ : ∃ xw9, W29.alloc (.cells #[u1, u2, u3] 32) = xw9 := ⟨_, rfl⟩
                                  have hB : Below W29.heap.size W29 W30 := by rw [← hWn]; exact below_new _ _
                                  have hNB : Slc W30 (fun _ => True) (.slice (some ⟨W29.heap.size, 0, none⟩) 3 3) 3 [u1, u2, u3] := by
                                    rw [← hWn]; exact (Slc.owned (World.ownsRow_lit (base := W29.heap.size) (e := 32) (size := 1) W29 #[u1, u2, u3] 3 (Nat.le_refl _) (by unfold maxLen; omega) rfl)).keep (Kept.refl _ _) (fun b _ (h : _ ≤ b) => trivial)
                                  rw [hWn]
                                  clear hWn
                                  obtain ⟨bl, hnm⟩ : ∃ x, W29.heap.size = x := ⟨_, rfl⟩
                                  replace HA := Lib.hid (HA.out.below hB)
                                  replace HB := Lib.hid (HB.out.trans (hB.mono HB.out.size))
                                  replace HI := Lib.hid (HI.out.grow hB)
                                  replace HT := Lib.hid (fun j hj => keep_below hB _ _ (HT.out j hj))
                                  replace HUO := Lib.hid (HUO.out.grow hB)
                                  replace HTI := Lib.hid (HTI.out.grow hB)
                                  replace HVW := Lib.hid (HVW.out.below hB)
                                  replace HW0 := Lib.hid (HW0.out.trans (hB.mono HW0.out.size))
                                  replace HU1 := Lib.hid (HU1.out.grow hB)
                                  replace HU2 := Lib.hid (HU2.out.grow hB)
                                  replace HU3 := Lib.hid (HU3.out.grow hB)
                                  rw [hnm] at hNB ⊢
                                  have HSL := Lib.hid hNB
                                  clear hNB hB hnm
                                  refine hK.out _ _ ?_ (fun hHeld => ?_)
                                  · exact HVW.out.2.1
                                  clear hK K
                                  refine wpAnyH_ready (rs := [13, 17]) (by kernel_rfl) (by simp) ?_
                                  refine AllReadyH.cons (o := _) rfl (fun K hK => ?_) ?_
                                  · clear hHeld
                                    go_simp
                                    refine (fjoin_calls (ok := (fun _ => True)) _ [(u1, V.cut 0 (x : Int)), (u2, V.cut (x : Int) (y : Int)), (u3, V.cut (y : Int) (N : Int))] _ ⟨HSL.out, fun p hp => by simp only [List.mem_cons, List.not_mem_nil, or_false] at hp; rcases hp with rfl | rfl | rfl; exact HU1.out; exact HU2.out; exact HU3.out⟩ (by simp) (fun p hp => by simp only [List.mem_cons, List.not_mem_nil, or_false] at hp; rcases hp with rfl | rfl | rfl <;> exact ⟨(HG8.out _ _).1, (HG8.out _ _).2.1, gV_box (HG8.out _ _)⟩) HT.out).mono ?_
                                    rintro e W31 ⟨uj, rfl, huj, hB⟩
                                    replace HA := Lib.hid (HA.out.below hB)
                                    replace HB := Lib.hid (HB.out.trans (hB.mono HB.out.size))
                                    replace HI := Lib.hid (HI.out.grow hB)
                                    replace HT := Lib.hid (fun j hj => keep_below hB _ _ (HT.out j hj))
                                    replace HUO := Lib.hid (HUO.out.grow hB)
                                    replace HTI := Lib.hid (HTI.out.grow hB)
                                    replace HVW := Lib.hid (HVW.out.below hB)
                                    replace HW0 := Lib.hid (HW0.out.trans (hB.mono HW0.out.size))
                                    replace HU1 := Lib.hid (HU1.out.grow hB)
                                    replace HU2 := Lib.hid (HU2.out.grow hB)
                                    replace HU3 := Lib.hid (HU3.out.grow hB)
                                    replace HSL := Lib.hid (HSL.out.below hB)
                                    rw [(HJ3.out u1 u2 u3).1]
                                    have hsuj := huj.store
                                    have HUJ := Lib.hid (show IsV W31 (fun _ => True) uj (joinZ [(u1, V.cut 0 (x : Int)), (u2, V.cut (x : Int) (y : Int)), (u3, V.cut (y : Int) (N : Int))]) from IsV.any huj)
                                    clear huj
                                    clear hB
                                    refine hK.out _ _ ?_ (fun hHeld => ?_)
                                    · exact HVW.out.2.1
                                    clear hK K
                                    refine wpAnyH_take (i := 14) (v := ?_) rfl (by kernel_rfl) (by kernel_rfl) (by kernel_rfl) (fun _ _ _ h => absurd h.1 (by simp)) (Or.inl ⟨by rfl, ?_⟩) (by assumption) ?_
                                    rotate_left
                                    · (intro w hSw; (try dsimp only at hSw); go_simp; try with_reducible rfl)
                                    simp only [Act.put, List.getElem_toArray, List.getElem_cons_succ, List.getElem_cons_zero, List.setIfInBounds_toArray, List.set_cons_zero, List.set_cons_succ]
                                    refine wpAnyH_take (i := 15) (v := ?_) rfl (by kernel_rfl) (by kernel_rfl) (by kernel_rfl) (fun _ _ _ h => absurd h.1 (by simp)) (Or.inl ⟨by rfl, ?_⟩) (by assumption) ?_
                                    rotate_left
                                    · (intro w hSw; (try dsimp only at hSw); go_simp; try with_reducible rfl)
                                    simp only [Act.put, List.getElem_toArray, List.getElem_cons_succ, List.getElem_cons_zero, List.setIfInBounds_toArray, List.set_cons_zero, List.set_cons_succ]
                                    refine wpAnyH_take (i := 16) (v := ?_) rfl (by kernel_rfl) (by kernel_rfl) (by kernel_rfl) (fun _ _ _ h => absurd h.1 (by simp)) (Or.inl ⟨by rfl, ?_⟩) (by assumption) ?_
                                    rotate_left
                                    · (intro w hSw; (try dsimp only at hSw); go_simp; try with_reducible rfl)
                                    simp only [Act.put, List.getElem_toArray, List.getElem_cons_succ, List.getElem_cons_zero, List.setIfInBounds_toArray, List.set_cons_zero, List.set_cons_succ]
                                    refine wpAnyH_ready (rs := [17]) (by kernel_rfl) (by simp) ?_
                                    refine AllReadyH.cons (o := _) rfl (fun K hK => ?_) ?_
                                    · clear hHeld
                                      go_simp
                                      replace HU1 := Lib.hid (show IsV W31 (fun b => b ≠ W31.heap.size) u1 (V.cut 0 (x : Int)) from HU1.out.lt.wide (fun b _ h => by have := h.2; omega))
                                      replace HU2 := Lib.hid (show IsV W31 (fun b => b ≠ W31.heap.size) u2 (V.cut (x : Int) (y : Int)) from HU2.out.lt.wide (fun b _ h => by have := h.2; omega))
                                      replace HU3 := Lib.hid (show IsV W31 (fun b => b ≠ W31.heap.size) u3 (V.cut (y : Int) (N : Int)) from HU3.out.lt.wide (fun b _ h => by have := h.2; omega))
                                      replace HUJ := Lib.hid (show IsV W31 (fun b => b ≠ W31.heap.size) uj (joinZ [(u1, V.cut 0 (x : Int)), (u2, V.cut (x : Int) (y : Int)), (u3, V.cut (y : Int) (N : Int))]) from HUJ.out.lt.wide (fun b _ h => by have := h.2; omega))
                                      replace HSL := Lib.hid (show Slc W31 (fun b => b ≠ W31.heap.size) (.slice (some ⟨bl, 0, none⟩) 3 3) 3 [u1, u2, u3] from HSL.out.ltw.keep (Kept.refl _ _) (fun b _ h => by have := h.2; omega))
                                      obtain ⟨W32, hWn⟩ : ∃ xw9, W31.alloc (.cells #[.nilIface] 32) = xw9 := ⟨_, rfl⟩
                                      have hB : Below W31.heap.size W31 W32 := by rw [← hWn]; exact below_new _ _
                                      have hNB : At1 W32 W31.heap.size .nilIface := by rw [← hWn]; exact At1.new _ _ _
                                      have hbx : W25.heap.size ≤ W31.heap.size := HW0.out.size
                                      rw [hWn]
                                      clear hWn
                                      obtain ⟨bw, hnm⟩ : ∃ x, W31.heap.size = x := ⟨_, rfl⟩
                                      replace HA := Lib.hid (HA.out.below hB)
                                      replace HB := Lib.hid (HB.out.trans (hB.mono HB.out.size))
                                      replace HI := Lib.hid (HI.out.grow hB)
                                      replace HT := Lib.hid (fun j hj => keep_below hB _ _ (HT.out j hj))
                                      replace HUO := Lib.hid (HUO.out.grow hB)
                                      replace HTI := Lib.hid (HTI.out.grow hB)
                                      replace HVW := Lib.hid (HVW.out.below hB)
                                      replace HW0 := Lib.hid (HW0.out.trans (hB.mono HW0.out.size))
                                      replace HU1 := Lib.hid (HU1.out.grow hB)
                                      replace HU2 := Lib.hid (HU2.out.grow hB)
                                      replace HU3 := Lib.hid (HU3.out.grow hB)
                                      replace HSL := Lib.hid (HSL.out.below hB)
                                      replace HUJ := Lib.hid (HUJ.out.grow hB)
                                      rw [hnm] at HU1 HU2 HU3 HUJ HSL hNB hbx ⊢
                                      have HVX := Lib.hid hNB
                                      have HBX := Lib.hid hbx
                                      clear hNB hB hnm hbx
                                      refine hK.out _ _ ?_ (fun hHeld => ?_)
                                      · exact HVW.out.2.1
                                      clear hK K
                                      refine wpAnyH_ready (rs := [18]) (by kernel_rfl) (by simp) ?_
                                      refine AllReadyH.cons (o := _) rfl (fun K hK => ?_) ?_
                                      · clear hHeld
                                        have s0 := HVX.out.2.1
                                        have t0 := HVX.out.2.2 0
                                        go_simp
                                        clear s0 t0
                                        obtain ⟨W33, hWn⟩ : ∃ xw9, W32.setCell ⟨bw, 0, none⟩ uj = xw9 := ⟨_, rfl⟩
                                        rw [hWn]
                                        replace HVX := Lib.hid (show At1 W33 bw uj by rw [← hWn]; exact At1.put1 HVX.out _)
                                        replace HUJ := Lib.hid (show IsV W33 (fun b => b ≠ bw) uj (joinZ [(u1, V.cut 0 (x : Int)), (u2, V.cut (x : Int) (y : Int)), (u3, V.cut (y : Int) (N : Int))]) by rw [← hWn]; exact HUJ.out.keep (Kept.setCell _ _ _ (by simp)) (fun _ _ h => h))
                                        replace HVW := Lib.hid (show At1 W33 bv uo by rw [← hWn]; exact HVW.out.grown (grown_setCell _ ⟨bw, 0, none⟩ _) (by have := HBX.out; have := HVL.out; simp; omega))
                                        replace HW0 := Lib.hid (show Below W25.heap.size W25 W33 by rw [← hWn]; exact HW0.out.setCell HBX.out _)
                                        clear hWn
                                        refine hK.out _ _ ?_ (fun hHeld => ?_)
                                        · exact HVW.out.2.1
                                        clear hK K
                                        refine wpAnyH_take (i := 19) (v := ?_) rfl (by kernel_rfl) (by kernel_rfl) (by kernel_rfl) (fun _ _ _ h => absurd h.1 (by simp)) (Or.inl ⟨by rfl, ?_⟩) (by assumption) ?_
                                        rotate_left
                                        · (intro w hSw; (try dsimp only at hSw); go_simp; try with_reducible rfl)
                                        simp only [Act.put, List.getElem_toArray, List.getElem_cons_succ, List.getElem_cons_zero, List.setIfInBounds_toArray, List.set_cons_zero, List.set_cons_succ]
                                        refine wpAnyH_done (by kernel_rfl) ?_ _
                                        clear hHeld
                                        have HJJ := HJ3.out u1 u2 u3
                                        refine ⟨rfl, u1, u2, u3, uj, bl, bw, joinZ [(u1, V.cut 0 (x : Int)), (u2, V.cut (x : Int) (y : Int)), (u3, V.cut (y : Int) (N : Int))], ?_, HJJ.2.1, HJJ.2.2.1, HJJ.2.2.2, HUJ.out.any, HVX.out, HW0.out⟩
                                        first | rfl | kernel_rfl
                                      exact AllReadyH.nil
                                    exact AllReadyH.nil
                                  refine AllReadyH.cons (o := _) rfl (fun K hK => ?_) ?_
                                  · clear hHeld
                                    go_simp
                                    replace HU1 := Lib.hid (show IsV W30 (fun b => b ≠ W30.heap.size) u1 (V.cut 0 (x : Int)) from HU1.out.lt.wide (fun b _ h => by have := h.2; omega))
                                    replace HU2 := Lib.hid (show IsV W30 (fun b => b ≠ W30.heap.size) u2 (V.cut (x : Int) (y : Int)) from HU2.out.lt.wide (fun b _ h => by have := h.2; omega))
                                    replace HU3 := Lib.hid (show IsV W30 (fun b => b ≠ W30.heap.size) u3 (V.cut (y : Int) (N : Int)) from HU3.out.lt.wide (fun b _ h => by have := h.2; omega))
                                    replace HSL := Lib.hid (show Slc W30 (fun b => b ≠ W30.heap.size) (.slice (some ⟨bl, 0, none⟩) 3 3) 3 [u1, u2, u3] from HSL.out.ltw.keep (Kept.refl _ _) (fun b _ h => by have := h.2; omega))
                                    obtain ⟨W31, hWn⟩ : ∃ xw9, W30.alloc (.cells #[.nilIface] 32) = xw9 := ⟨_, rfl⟩
                                    have hB : Below W30.heap.size W30 W31 := by rw [← hWn]; exact below_new _ _
                                    have hNB : At1 W31 W30.heap.size .nilIface := by rw [← hWn]; exact At1.new _ _ _
                                    have hbx : W25.heap.size ≤ W30.heap.size := HW0.out.size
                                    rw [hWn]
                                    clear hWn
                                    obtain ⟨bw, hnm⟩ : ∃ x, W30.heap.size = x := ⟨_, rfl⟩
                                    replace HA := Lib.hid (HA.out.below hB)
                                    replace HB := Lib.hid (HB.out.trans (hB.mono HB.out.size))
                                    replace HI := Lib.hid (HI.out.grow hB)
                                    replace HT := Lib.hid (fun j hj => keep_below hB _ _ (HT.out j hj))
                                    replace HUO := Lib.hid (HUO.out.grow hB)
                                    replace HTI := Lib.hid (HTI.out.grow hB)
                                    replace HVW := Lib.hid (HVW.out.below hB)
                                    replace HW0 := Lib.hid (HW0.out.trans (hB.mono HW0.out.size))
                                    replace HU1 := Lib.hid (HU1.out.grow hB)
                                    replace HU2 := Lib.hid (HU2.out.grow hB)
                                    replace HU3 := Lib.hid (HU3.out.grow hB)
                                    replace HSL := Lib.hid (HSL.out.below hB)
                                    rw [hnm] at HU1 HU2 HU3 HSL hNB hbx ⊢
                                    have HVX := Lib.hid hNB
                                    have HBX := Lib.hid hbx
                                    clear hNB hB hnm hbx
                                    refine hK.out _ _ ?_ (fun hHeld => ?_)
                                    · exact HVW.out.2.1
                                    clear hK K
                                    refine wpAnyH_ready (rs := [13]) (by kernel_rfl) (by simp) ?_
                                    refine AllReadyH.cons (o := _) rfl (fun K hK => ?_) ?_
                                    · clear hHeld
                                      go_simp
                                      have HO := HVX.out.1
                                      refine (fjoin_calls (ok := (fun b => b ≠ bw)) _ [(u1, V.cut 0 (x : Int)), (u2, V.cut (x : Int) (y : Int)), (u3, V.cut (y : Int) (N : Int))] _ ⟨HSL.out, fun p hp => by simp only [List.mem_cons, List.not_mem_nil, or_false] at hp; rcases hp with rfl | rfl | rfl; exact HU1.out; exact HU2.out; exact HU3.out⟩ (by simp) (fun p hp => by simp only [List.mem_cons, List.not_mem_nil, or_false] at hp; rcases hp with rfl | rfl | rfl <;> exact ⟨(HG8.out _ _).1, (HG8.out _ _).2.1, gV_box (HG8.out _ _)⟩) HT.out).mono ?_
                                      rintro e W32 ⟨uj, rfl, huj, hB⟩
                                      replace HA := Lib.hid (HA.out.below hB)
                                      replace HB := Lib.hid (HB.out.trans (hB.mono HB.out.size))
                                      replace HI := Lib.hid (HI.out.grow hB)
                                      replace HT := Lib.hid (fun j hj => keep_below hB _ _ (HT.out j hj))
                                      replace HUO := Lib.hid (HUO.out.grow hB)
                                      replace HTI := Lib.hid (HTI.out.grow hB)
                                      replace HVW := Lib.hid (HVW.out.below hB)
                                      replace HW0 := Lib.hid (HW0.out.trans (hB.mono HW0.out.size))
                                      replace HU1 := Lib.hid (HU1.out.grow hB)
                                      replace HU2 := Lib.hid (HU2.out.grow hB)
                                      replace HU3 := Lib.hid (HU3.out.grow hB)
                                      replace HSL := Lib.hid (HSL.out.below hB)
                                      replace HVX := Lib.hid (HVX.out.below hB)
                                      rw [(HJ3.out u1 u2 u3).1]
                                      have hsuj := huj.store
                                      have HUJ := Lib.hid (show IsV W32 (fun b => b ≠ bw) uj (joinZ [(u1, V.cut 0 (x : Int)), (u2, V.cut (x : Int) (y : Int)), (u3, V.cut (y : Int) (N : Int))]) from huj.wide (fun b _ h => by omega))
                                      clear huj HO
                                      clear hB
                                      refine hK.out _ _ ?_ (fun hHeld => ?_)
                                      · exact HVW.out.2.1
                                      clear hK K
                                      refine wpAnyH_take (i := 14) (v := ?_) rfl (by kernel_rfl) (by kernel_rfl) (by kernel_rfl) (fun _ _ _ h => absurd h.1 (by simp)) (Or.inl ⟨by rfl, ?_⟩) (by assumption) ?_
                                      rotate_left
                                      · (intro w hSw; (try dsimp only at hSw); go_simp; try with_reducible rfl)
                                      simp only [Act.put, List.getElem_toArray, List.getElem_cons_succ, List.getElem_cons_zero, List.setIfInBounds_toArray, List.set_cons_zero, List.set_cons_succ]
                                      refine wpAnyH_take (i := 15) (v := ?_) rfl (by kernel_rfl) (by kernel_rfl) (by kernel_rfl) (fun _ _ _ h => absurd h.1 (by simp)) (Or.inl ⟨by rfl, ?_⟩) (by assumption) ?_
                                      rotate_left
                                      · (intro w hSw; (try dsimp only at hSw); go_simp; try with_reducible rfl)
                                      simp only [Act.put, List.getElem_toArray, List.getElem_cons_succ, List.getElem_cons_zero, List.setIfInBounds_toArray, List.set_cons_zero, List.set_cons_succ]
                                      refine wpAnyH_take (i := 16) (v := ?_) rfl (by kernel_rfl) (by kernel_rfl) (by kernel_rfl) (fun _ _ _ h => absurd h.1 (by simp)) (Or.inl ⟨by rfl, ?_⟩) (by assumption) ?_
                                      rotate_left
                                      · (intro w hSw; (try dsimp only at hSw); go_simp; try with_reducible rfl)
                                      simp only [Act.put, List.getElem_toArray, List.getElem_cons_succ, List.getElem_cons_zero, List.setIfInBounds_toArray, List.set_cons_zero, List.set_cons_succ]
                                      refine wpAnyH_ready (rs := [18]) (by kernel_rfl) (by simp) ?_
                                      refine AllReadyH.cons (o := _) rfl (fun K hK => ?_) ?_
                                      · clear hHeld
                                        have s0 := HVX.out.2.1
                                        have t0 := HVX.out.2.2 0
                                        go_simp
                                        clear s0 t0
                                        obtain ⟨W33, hWn⟩ : ∃ xw9, W32.setCell ⟨bw, 0, none⟩ uj = xw9 := ⟨_, rfl⟩
                                        rw [hWn]
                                        replace HVX := Lib.hid (show At1 W33 bw uj by rw [← hWn]; exact At1.put1 HVX.out _)
                                        replace HUJ := Lib.hid (show IsV W33 (fun b => b ≠ bw) uj (joinZ [(u1, V.cut 0 (x : Int)), (u2, V.cut (x : Int) (y : Int)), (u3, V.cut (y : Int) (N : Int))]) by rw [← hWn]; exact HUJ.out.keep (Kept.setCell _ _ _ (by simp)) (fun _ _ h => h))
                                        replace HVW := Lib.hid (show At1 W33 bv uo by rw [← hWn]; exact HVW.out.grown (grown_setCell _ ⟨bw, 0, none⟩ _) (by have := HBX.out; have := HVL.out; simp; omega))
                                        replace HW0 := Lib.hid (show Below W25.heap.size W25 W33 by rw [← hWn]; exact HW0.out.setCell HBX.out _)
                                        clear hWn
                                        refine hK.out _ _ ?_ (fun hHeld => ?_)
                                        · exact HVW.out.2.1
                                        clear hK K
                                        refine wpAnyH_take (i := 19) (v := ?_) rfl (by kernel_rfl) (by kernel_rfl) (by kernel_rfl) (fun _ _ _ h => absurd h.1 (by simp)) (Or.inl ⟨by rfl, ?_⟩) (by assumption) ?_
                                        rotate_left
                                        · (intro w hSw; (try dsimp only at hSw); go_simp; try with_reducible rfl)
                                        simp only [Act.put, List.getElem_toArray, List.getElem_cons_succ, List.getElem_cons_zero, List.setIfInBounds_toArray, List.set_cons_zero, List.set_cons_succ]
                                        refine wpAnyH_done (by kernel_rfl) ?_ _
                                        clear hHeld
                                        have HJJ := HJ3.out u1 u2 u3
                                        refine ⟨rfl, u1, u2, u3, uj, bl, bw, joinZ [(u1, V.cut 0 (x : Int)), (u2, V.cut (x : Int) (y : Int)), (u3, V.cut (y : Int) (N : Int))], ?_, HJJ.2.1, HJJ.2.2.1, HJJ.2.2.2, HUJ.out.any, HVX.out, HW0.out⟩
                                        first | rfl | kernel_rfl
                                      exact AllReadyH.nil
                                    exact AllReadyH.nil
                                  exact AllReadyH.nil
                                refine AllReadyH.cons (o := _) rfl (fun K hK => ?_) ?_
                                · clear hHeld
                                  go_simp
                                  replace HU1 := Lib.hid (show IsV W29 (fun b => b ≠ W29.heap.size) u1 (V.cut 0 (x : Int)) from HU1.out.lt.wide (fun b _ h => by have := h.2; omega))
                                  replace HU2 := Lib.hid (show IsV W29 (fun b => b ≠ W29.heap.size) u2 (V.cut (x : Int) (y : Int)) from HU2.out.lt.wide (fun b _ h => by have := h.2; omega))
                                  replace HU3 := Lib.hid (show IsV W29 (fun b => b ≠ W29.heap.size) u3 (V.cut (y : Int) (N : Int)) from HU3.out.lt.wide (fun b _ h => by have := h.2; omega))
                                  obtain ⟨W30, hWn⟩ : ∃ xw9, W29.alloc (.cells #[.nilIface] 32) = xw9 := ⟨_, rfl⟩
                                  have hB : Below W29.heap.size W29 W30 := by rw [← hWn]; exact below_new _ _
                                  have hNB : At1 W30 W29.heap.size .nilIface := by rw [← hWn]; exact At1.new _ _ _
                                  have hbx : W25.heap.size ≤ W29.heap.size := HW0.out.size
                                  rw [hWn]
                                  clear hWn
                                  obtain ⟨bw, hnm⟩ : ∃ x, W29.heap.size = x := ⟨_, rfl⟩
                                  replace HA := Lib.hid (HA.out.below hB)
                                  replace HB := Lib.hid (HB.out.trans (hB.mono HB.out.size))
                                  replace HI := Lib.hid (HI.out.grow hB)
                                  replace HT := Lib.hid (fun j hj => keep_below hB _ _ (HT.out j hj))
                                  replace HUO := Lib.hid (HUO.out.grow hB)
                                  replace HTI := Lib.hid (HTI.out.grow hB)
                                  replace HVW := Lib.hid (HVW.out.below hB)
                                  replace HW0 := Lib.hid (HW0.out.trans (hB.mono HW0.out.size))
                                  replace HU1 := Lib.hid (HU1.out.grow hB)
                                  replace HU2 := Lib.hid (HU2.out.grow hB)
                                  replace HU3 := Lib.hid (HU3.out.grow hB)
                                  rw [hnm] at HU1 HU2 HU3 hNB hbx ⊢
                                  have HVX := Lib.hid hNB
                                  have HBX := Lib.hid hbx
                                  clear hNB hB hnm hbx
                                  refine hK.out _ _ ?_ (fun hHeld => ?_)
                                  · exact HVW.out.2.1
                                  clear hK K
                                  refine wpAnyH_ready (rs := [12]) (by kernel_rfl) (by simp) ?_
                                  refine AllReadyH.cons (o := _) rfl (fun K hK => ?_) ?_
                                  · clear hHeld
                                    go_simp
                                    obtain ⟨W31, hWn⟩ : ∃ xw9, W30.alloc (.cells #[u1, u2, u3] 32) = xw9 := ⟨_, rfl⟩
                                    have hB : Below W30.heap.size W30 W31 := by rw [← hWn]; exact below_new _ _
                                    have hNB : Slc W31 (fun b => b ≠ bw) (.slice (some ⟨W30.heap.size, 0, none⟩) 3 3) 3 [u1, u2, u3] := by
                                      rw [← hWn]; exact (Slc.owned (World.ownsRow_lit (base := W30.heap.size) (e := 32) (size := 1) W30 #[u1, u2, u3] 3 (Nat.le_refl _) (by unfold maxLen; omega) rfl)).keep (Kept.refl _ _) (fun b _ (h : _ ≤ b) => by have := HVX.out.1; omega)
                                    rw [hWn]
                                    clear hWn
                                    obtain ⟨bl, hnm⟩ : ∃ x, W30.heap.size = x := ⟨_, rfl⟩
                                    replace HA := Lib.hid (HA.out.below hB)
                                    replace HB := Lib.hid (HB.out.trans (hB.mono HB.out.size))
                                    replace HI := Lib.hid (HI.out.grow hB)
                                    replace HT := Lib.hid (fun j hj => keep_below hB _ _ (HT.out j hj))
                                    replace HUO := Lib.hid (HUO.out.grow hB)
                                    replace HTI := Lib.hid (HTI.out.grow hB)
                                    replace HVW := Lib.hid (HVW.out.below hB)
                                    replace HW0 := Lib.hid (HW0.out.trans (hB.mono HW0.out.size))
                                    replace HU1 := Lib.hid (HU1.out.grow hB)
                                    replace HU2 := Lib.hid (HU2.out.grow hB)
                                    replace HU3 := Lib.hid (HU3.out.grow hB)
                                    replace HVX := Lib.hid (HVX.out.below hB)
                                    rw [hnm] at hNB ⊢
                                    have HSL := Lib.hid hNB
                                    clear hNB hB hnm
                                    refine hK.out _ _ ?_ (fun hHeld => ?_)
                                    · exact HVW.out.2.1
                                    clear hK K
                                    refine wpAnyH_ready (rs := [13]) (by kernel_rfl) (by simp) ?_
                                    refine AllReadyH.cons (o := _) rfl (fun K hK => ?_) ?_
                                    · clear hHeld
                                      go_simp
                                      have HO := HVX.out.1
                                      refine (fjoin_calls (ok := (fun b => b ≠ bw)) _ [(u1, V.cut 0 (x : Int)), (u2, V.cut (x : Int) (y : Int)), (u3, V.cut (y : Int) (N : Int))] _ ⟨HSL.out, fun p hp => by simp only [List.mem_cons, List.not_mem_nil, or_false] at hp; rcases hp with rfl | rfl | rfl; exact HU1.out; exact HU2.out; exact HU3.out⟩ (by simp) (fun p hp => by simp only [List.mem_cons, List.not_mem_nil, or_false] at hp; rcases hp with rfl | rfl | rfl <;> exact ⟨(HG8.out _ _).1, (HG8.out _ _).2.1, gV_box (HG8.out _ _)⟩) HT.out).mono ?_
                                      rintro e W32 ⟨uj, rfl, huj, hB⟩
                                      replace HA := Lib.hid (HA.out.below hB)
                                      replace HB := Lib.hid (HB.out.trans (hB.mono HB.out.size))
                                      replace HI := Lib.hid (HI.out.grow hB)
                                      replace HT := Lib.hid (fun j hj => keep_below hB _ _ (HT.out j hj))
                                      replace HUO := Lib.hid (HUO.out.grow hB)
                                      replace HTI := Lib.hid (HTI.out.grow hB)
                                      replace HVW := Lib.hid (HVW.out.below hB)
                                      replace HW0 := Lib.hid (HW0.out.trans (hB.mono HW0.out.size))
                                      replace HU1 := Lib.hid (HU1.out.grow hB)
                                      replace HU2 := Lib.hid (HU2.out.grow hB)
                                      replace HU3 := Lib.hid (HU3.out.grow hB)
                                      replace HVX := Lib.hid (HVX.out.below hB)
                                      replace HSL := Lib.hid (HSL.out.below hB)
                                      rw [(HJ3.out u1 u2 u3).1]
                                      have hsuj := huj.store
                                      have HUJ := Lib.hid (show IsV W32 (fun b => b ≠ bw) uj (joinZ [(u1, V.cut 0 (x : Int)), (u2, V.cut (x : Int) (y : Int)), (u3, V.cut (y : Int) (N : Int))]) from huj.wide (fun b _ h => by omega))
                                      clear huj HO
                                      clear hB
                                      refine hK.out _ _ ?_ (fun hHeld => ?_)
                                      · exact HVW.out.2.1
                                      clear hK K
                                      refine wpAnyH_take (i := 14) (v := ?_) rfl (by kernel_rfl) (by kernel_rfl) (by kernel_rfl) (fun _ _ _ h => absurd h.1 (by simp)) (Or.inl ⟨by rfl, ?_⟩) (by assumption) ?_
                                      rotate_left
                                      · (intro w hSw; (try dsimp only at hSw); go_simp; try with_reducible rfl)
                                      simp only [Act.put, List.getElem_toArray, List.getElem_cons_succ, List.getElem_cons_zero, List.setIfInBounds_toArray, List.set_cons_zero, List.set_cons_succ]
                                      refine wpAnyH_take (i := 15) (v := ?_) rfl (by kernel_rfl) (by kernel_rfl) (by kernel_rfl) (fun _ _ _ h => absurd h.1 (by simp)) (Or.inl ⟨by rfl, ?_⟩) (by assumption) ?_
                                      rotate_left
                                      · (intro w hSw; (try dsimp only at hSw); go_simp; try with_reducible rfl)
                                      simp only [Act.put, List.getElem_toArray, List.getElem_cons_succ, List.getElem_cons_zero, List.setIfInBounds_toArray, List.set_cons_zero, List.set_cons_succ]
                                      refine wpAnyH_take (i := 16) (v := ?_) rfl (by kernel_rfl) (by kernel_rfl) (by kernel_rfl) (fun _ _ _ h => absurd h.1 (by simp)) (Or.inl ⟨by rfl, ?_⟩) (by assumption) ?_
                                      rotate_left
                                      · (intro w hSw; (try dsimp only at hSw); go_simp; try with_reducible rfl)
                                      simp only [Act.put, List.getElem_toArray, List.getElem_cons_succ, List.getElem_cons_zero, List.setIfInBounds_toArray, List.set_cons_zero, List.set_cons_succ]
                                      refine wpAnyH_ready (rs := [18]) (by kernel_rfl) (by simp) ?_
                                      refine AllReadyH.cons (o := _) rfl (fun K hK => ?_) ?_
                                      · clear hHeld
                                        have s0 := HVX.out.2.1
                                        have t0 := HVX.out.2.2 0
                                        go_simp
                                        clear s0 t0
                                        obtain ⟨W33, hWn⟩ : ∃ xw9, W32.setCell ⟨bw, 0, none⟩ uj = xw9 := ⟨_, rfl⟩
                                        rw [hWn]
                                        replace HVX := Lib.hid (show At1 W33 bw uj by rw [← hWn]; exact At1.put1 HVX.out _)
                                        replace HUJ := Lib.hid (show IsV W33 (fun b => b ≠ bw) uj (joinZ [(u1, V.cut 0 (x : Int)), (u2, V.cut (x : Int) (y : Int)), (u3, V.cut (y : Int) (N : Int))]) by rw [← hWn]; exact HUJ.out.keep (Kept.setCell _ _ _ (by simp)) (fun _ _ h => h))
                                        replace HVW := Lib.hid (show At1 W33 bv uo by rw [← hWn]; exact HVW.out.grown (grown_setCell _ ⟨bw, 0, none⟩ _) (by have := HBX.out; have := HVL.out; simp; omega))
                                        replace HW0 := Lib.hid (show Below W25.heap.size W25 W33 by rw [← hWn]; exact HW0.out.setCell HBX.out _)
                                        clear hWn
                                        refine hK.out _ _ ?_ (fun hHeld => ?_)
                                        · exact HVW.out.2.1
                                        clear hK K
                                        refine wpAnyH_take (i := 19) (v := ?_) rfl (by kernel_rfl) (by kernel_rfl) (by kernel_rfl) (fun _ _ _ h => absurd h.1 (by simp)) (Or.inl ⟨by rfl, ?_⟩) (by assumption) ?_
                                        rotate_left
                                        · (intro w hSw; (try dsimp only at hSw); go_simp; try with_reducible rfl)
                                        simp only [Act.put, List.getElem_toArray, List.getElem_cons_succ, List.getElem_cons_zero, List.setIfInBounds_toArray, List.set_cons_zero, List.set_cons_succ]
                                        refine wpAnyH_done (by kernel_rfl) ?_ _
                                        clear hHeld
                                        have HJJ := HJ3.out u1 u2 u3
                                        refine ⟨rfl, u1, u2, u3, uj, bl, bw, joinZ [(u1, V.cut 0 (x : Int)), (u2, V.cut (x : Int) (y : Int)), (u3, V.cut (y : Int) (N : Int))], ?_, HJJ.2.1, HJJ.2.2.1, HJJ.2.2.2, HUJ.out.any, HVX.out, HW0.out⟩
                                        first | rfl | kernel_rfl
                                      exact AllReadyH.nil
                                    exact AllReadyH.nil
                                  exact AllReadyH.nil
                                exact AllReadyH.nil
                              refine AllReadyH.cons (o := _) rfl (fun K hK => ?_) ?_
                              · clear hHeld
                                go_simp
                                replace HU1 := Lib.hid (show IsV W28 (fun b => b ≠ W28.heap.size) u1 (V.cut 0 (x : Int)) from HU1.out.lt.wide (fun b _ h => by have := h.2; omega))
                                replace HU2 := Lib.hid (show IsV W28 (fun b => b ≠ W28.heap.size) u2 (V.cut (x : Int) (y : Int)) from HU2.out.lt.wide (fun b _ h => by have := h.2; omega))
                                obtain ⟨W29, hWn⟩ : ∃ xw9, W28.alloc (.cells #[.nilIface] 32) = xw9 := ⟨_, rfl⟩
                                have hB : Below W28.heap.size W28 W29 := by rw [← hWn]; exact below_new _ _
                                have hNB : At1 W29 W28.heap.size .nilIface := by rw [← hWn]; exact At1.new _ _ _
                                have hbx : W25.heap.size ≤ W28.heap.size := HW0.out.size
                                rw [hWn]
                                clear hWn
                                obtain ⟨bw, hnm⟩ : ∃ x, W28.heap.size = x := ⟨_, rfl⟩
                                replace HA := Lib.hid (HA.out.below hB)
                                replace HB := Lib.hid (HB.out.trans (hB.mono HB.out.size))
                                replace HI := Lib.hid (HI.out.grow hB)
                                replace HT := Lib.hid (fun j hj => keep_below hB _ _ (HT.out j hj))
                                replace HUO := Lib.hid (HUO.out.grow hB)
                                replace HTI := Lib.hid (HTI.out.grow hB)
                                replace HVW := Lib.hid (HVW.out.below hB)
                                replace HW0 := Lib.hid (HW0.out.trans (hB.mono HW0.out.size))
                                replace HU1 := Lib.hid (HU1.out.grow hB)
                                replace HU2 := Lib.hid (HU2.out.grow hB)
                                rw [hnm] at HU1 HU2 hNB hbx ⊢
                                have HVX := Lib.hid hNB
                                have HBX := Lib.hid hbx
                                clear hNB hB hnm hbx
                                refine hK.out _ _ ?_ (fun hHeld => ?_)
                                · exact HVW.out.2.1
                                clear hK K
                                refine wpAnyH_ready (rs := [11]) (by kernel_rfl) (by simp) ?_
                                refine AllReadyH.cons (o := _) rfl (fun K hK => ?_) ?_
                                · clear hHeld
                                  go_simp
                                  have HO := HVX.out.1
                                  refine (fcut_calls _ V (y : Int) (N : Int) _ HUO.out HGV.out.1 HGV.out.2.1 (gV_box HGV.out) HT.out).mono ?_
                                  rintro e W30 ⟨u3, rfl, hu3, hB⟩
                                  replace HA := Lib.hid (HA.out.below hB)
                                  replace HB := Lib.hid (HB.out.trans (hB.mono HB.out.size))
                                  replace HI := Lib.hid (HI.out.grow hB)
                                  replace HT := Lib.hid (fun j hj => keep_below hB _ _ (HT.out j hj))
                                  replace HUO := Lib.hid (HUO.out.grow hB)
                                  replace HTI := Lib.hid (HTI.out.grow hB)
                                  replace HVW := Lib.hid (HVW.out.below hB)
                                  replace HW0 := Lib.hid (HW0.out.trans (hB.mono HW0.out.size))
                                  replace HU1 := Lib.hid (HU1.out.grow hB)
                                  replace HU2 := Lib.hid (HU2.out.grow hB)
                                  replace HVX := Lib.hid (HVX.out.below hB)
                                  have hsu3 := hu3.store
                                  have HU3 := Lib.hid (show IsV W30 (fun b => b ≠ bw) u3 (V.cut (y : Int) (N : Int)) from hu3.wide (fun b _ h => by have := HBX.out; omega))
                                  clear hu3 HO
                                  clear hB
                                  refine hK.out _ _ ?_ (fun hHeld => ?_)
                                  · exact HVW.out.2.1
                                  clear hK K
                                  refine wpAnyH_ready (rs := [12]) (by kernel_rfl) (by simp) ?_
                                  refine AllReadyH.cons (o := _) rfl (fun K hK => ?_) ?_
                                  · clear hHeld
                                    go_simp
                                    obtain ⟨W31, hWn⟩ : ∃ xw9, W30.alloc (.cells #[u1, u2, u3] 32) = xw9 := ⟨_, rfl⟩
                                    have hB : Below W30.heap.size W30 W31 := by rw [← hWn]; exact below_new _ _
                                    have hNB : Slc W31 (fun b => b ≠ bw) (.slice (some ⟨W30.heap.size, 0, none⟩) 3 3) 3 [u1, u2, u3] := by
                                      rw [← hWn]; exact (Slc.owned (World.ownsRow_lit (base := W30.heap.size) (e := 32) (size := 1) W30 #[u1, u2, u3] 3 (Nat.le_refl _) (by unfold maxLen; omega) rfl)).keep (Kept.refl _ _) (fun b _ (h : _ ≤ b) => by have := HVX.out.1; omega)
                                    rw [hWn]
                                    clear hWn
                                    obtain ⟨bl, hnm⟩ : ∃ x, W30.heap.size = x := ⟨_, rfl⟩
                                    replace HA := Lib.hid (HA.out.below hB)
                                    replace HB := Lib.hid (HB.out.trans (hB.mono HB.out.size))
                                    replace HI := Lib.hid (HI.out.grow hB)
                                    replace HT := Lib.hid (fun j hj => keep_below hB _ _ (HT.out j hj))
                                    replace HUO := Lib.hid (HUO.out.grow hB)
                                    replace HTI := Lib.hid (HTI.out.grow hB)
                                    replace HVW := Lib.hid (HVW.out.below hB)
                                    replace HW0 := Lib.hid (HW0.out.trans (hB.mono HW0.out.size))
                                    replace HU1 := Lib.hid (HU1.out.grow hB)
                                    replace HU2 := Lib.hid (HU2.out.grow hB)
                                    replace HVX := Lib.hid (HVX.out.below hB)
                                    replace HU3 := Lib.hid (HU3.out.grow hB)
                                    rw [hnm] at hNB ⊢
                                    have HSL := Lib.hid hNB
                                    clear hNB hB hnm
                                    refine hK.out _ _ ?_ (fun hHeld => ?_)
                                    · exact HVW.out.2.1
                                    clear hK K
                                    refine wpAnyH_ready (rs := [13]) (by kernel_rfl) (by simp) ?_
                                    refine AllReadyH.cons (o := _) rfl (fun K hK => ?_) ?_
                                    · clear hHeld
                                      go_simp
                                      have HO := HVX.out.1
                                      refine (fjoin_calls (ok := (fun b => b ≠ bw)) _ [(u1, V.cut 0 (x : Int)), (u2, V.cut (x : Int) (y : Int)), (u3, V.cut (y : Int) (N : Int))] _ ⟨HSL.out, fun p hp => by simp only [List.mem_cons, List.not_mem_nil, or_false] at hp; rcases hp with rfl | rfl | rfl; exact HU1.out; exact HU2.out; exact HU3.out⟩ (by simp) (fun p hp => by simp only [List.mem_cons, List.not_mem_nil, or_false] at hp; rcases hp with rfl | rfl | rfl <;> exact ⟨(HG8.out _ _).1, (HG8.out _ _).2.1, gV_box (HG8.out _ _)⟩) HT.out).mono ?_
                                      rintro e W32 ⟨uj, rfl, huj, hB⟩
                                      replace HA := Lib.hid (HA.out.below hB)
                                      replace HB := Lib.hid (HB.out.trans (hB.mono HB.out.size))
                                      replace HI := Lib.hid (HI.out.grow hB)
                                      replace HT := Lib.hid (fun j hj => keep_below hB _ _ (HT.out j hj))
                                      replace HUO := Lib.hid (HUO.out.grow hB)
                                      replace HTI := Lib.hid (HTI.out.grow hB)
                                      replace HVW := Lib.hid (HVW.out.below hB)
                                      replace HW0 := Lib.hid (HW0.out.trans (hB.mono HW0.out.size))
                                      replace HU1 := Lib.hid (HU1.out.grow hB)
                                      replace HU2 := Lib.hid (HU2.out.grow hB)
                                      replace HVX := Lib.hid (HVX.out.below hB)
                                      replace HU3 := Lib.hid (HU3.out.grow hB)
                                      replace HSL := Lib.hid (HSL.out.below hB)
                                      rw [(HJ3.out u1 u2 u3).1]
                                      have hsuj := huj.store
                                      have HUJ := Lib.hid (show IsV W32 (fun b => b ≠ bw) uj (joinZ [(u1, V.cut 0 (x : Int)), (u2, V.cut (x : Int) (y : Int)), (u3, V.cut (y : Int) (N : Int))]) from huj.wide (fun b _ h => by omega))
                                      clear huj HO
                                      clear hB
                                      refine hK.out _ _ ?_ (fun hHeld => ?_)
                                      · exact HVW.out.2.1
                                      clear hK K
                                      refine wpAnyH_take (i := 14) (v := ?_) rfl (by kernel_rfl) (by kernel_rfl) (by kernel_rfl) (fun _ _ _ h => absurd h.1 (by simp)) (Or.inl ⟨by rfl, ?_⟩) (by assumption) ?_
                                      rotate_left
                                      · (intro w hSw; (try dsimp only at hSw); go_simp; try with_reducible rfl)
                                      simp only [Act.put, List.getElem_toArray, List.getElem_cons_succ, List.getElem_cons_zero, List.setIfInBounds_toArray, List.set_cons_zero, List.set_cons_succ]
                                      refine wpAnyH_take (i := 15) (v := ?_) rfl (by kernel_rfl) (by kernel_rfl) (by kernel_rfl) (fun _ _ _ h => absurd h.1 (by simp)) (Or.inl ⟨by rfl, ?_⟩) (by assumption) ?_
                                      rotate_left
                                      · (intro w hSw; (try dsimp only at hSw); go_simp; try with_reducible rfl)
                                      simp only [Act.put, List.getElem_toArray, List.getElem_cons_succ, List.getElem_cons_zero, List.setIfInBounds_toArray, List.set_cons_zero, List.set_cons_succ]
                                      refine wpAnyH_take (i := 16) (v := ?_) rfl (by kernel_rfl) (by kernel_rfl) (by kernel_rfl) (fun _ _ _ h => absurd h.1 (by simp)) (Or.inl ⟨by rfl, ?_⟩) (by assumption) ?_
                                      rotate_left
                                      · (intro w hSw; (try dsimp only at hSw); go_simp; try with_reducible rfl)
                                      simp only [Act.put, List.getElem_toArray, List.getElem_cons_succ, List.getElem_cons_zero, List.setIfInBounds_toArray, List.set_cons_zero, List.set_cons_succ]
                                      refine wpAnyH_ready (rs := [18]) (by kernel_rfl) (by simp) ?_
                                      refine AllReadyH.cons (o := _) rfl (fun K hK => ?_) ?_
                                      · clear hHeld
                                        have s0 := HVX.out.2.1
                                        have t0 := HVX.out.2.2 0
                                        go_simp
                                        clear s0 t0
                                        obtain ⟨W33, hWn⟩ : ∃ xw9, W32.setCell ⟨bw, 0, none⟩ uj = xw9 := ⟨_, rfl⟩
                                        rw [hWn]
                                        replace HVX := Lib.hid (show At1 W33 bw uj by rw [← hWn]; exact At1.put1 HVX.out _)
                                        replace HUJ := Lib.hid (show IsV W33 (fun b => b ≠ bw) uj (joinZ [(u1, V.cut 0 (x : Int)), (u2, V.cut (x : Int) (y : Int)), (u3, V.cut (y : Int) (N : Int))]) by rw [← hWn]; exact HUJ.out.keep (Kept.setCell _ _ _ (by simp)) (fun _ _ h => h))
                                        replace HVW := Lib.hid (show At1 W33 bv uo by rw [← hWn]; exact HVW.out.grown (grown_setCell _ ⟨bw, 0, none⟩ _) (by have := HBX.out; have := HVL.out; simp; omega))
                                        replace HW0 := Lib.hid (show Below W25.heap.size W25 W33 by rw [← hWn]; exact HW0.out.setCell HBX.out _)
                                        clear hWn
                                        refine hK.out _ _ ?_ (fun hHeld => ?_)
                                        · exact HVW.out.2.1
                                        clear hK K
                                        refine wpAnyH_take (i := 19) (v := ?_) rfl (by kernel_rfl) (by kernel_rfl) (by kernel_rfl) (fun _ _ _ h => absurd h.1 (by simp)) (Or.inl ⟨by rfl, ?_⟩) (by assumption) ?_
                                        rotate_left
                                        · (intro w hSw; (try dsimp only at hSw); go_simp; try with_reducible rfl)
                                        simp only [Act.put, List.getElem_toArray, List.getElem_cons_succ, List.getElem_cons_zero, List.setIfInBounds_toArray, List.set_cons_zero, List.set_cons_succ]
                                        refine wpAnyH_done (by kernel_rfl) ?_ _
                                        clear hHeld
                                        have HJJ := HJ3.out u1 u2 u3
                                        refine ⟨rfl, u1, u2, u3, uj, bl, bw, joinZ [(u1, V.cut 0 (x : Int)), (u2, V.cut (x : Int) (y : Int)), (u3, V.cut (y : Int) (N : Int))], ?_, HJJ.2.1, HJJ.2.2.1, HJJ.2.2.2, HUJ.out.any, HVX.out, HW0.out⟩
                                        first | rfl | kernel_rfl
                                      exact AllReadyH.nil
                                    exact AllReadyH.nil
                                  exact AllReadyH.nil
                                exact AllReadyH.nil
                              exact AllReadyH.nil
                            refine AllReadyH.cons (o := _) rfl (fun K hK => ?_) ?_
                            · clear hHeld
                              go_simp
                              replace HU1 := Lib.hid (show IsV W27 (fun b => b ≠ W27.heap.size) u1 (V.cut 0 (x : Int)) from HU1.out.lt.wide (fun b _ h => by have := h.2; omega))
                              obtain ⟨W28, hWn⟩ : ∃ xw9, W27.alloc (.cells #[.nilIface] 32) = xw9 := ⟨_, rfl⟩
                              have hB : Below W27.heap.size W27 W28 := by rw [← hWn]; exact below_new _ _
                              have hNB : At1 W28 W27.heap.size .nilIface := by rw [← hWn]; exact At1.new _ _ _
                              have hbx : W25.heap.size ≤ W27.heap.size := HW0.out.size
                              rw [hWn]
                              clear hWn
                              obtain ⟨bw, hnm⟩ : ∃ x, W27.heap.size = x := ⟨_, rfl⟩
                              replace HA := Lib.hid (HA.out.below hB)
                              replace HB := Lib.hid (HB.out.trans (hB.mono HB.out.size))
                              replace HI := Lib.hid (HI.out.grow hB)
                              replace HT := Lib.hid (fun j hj => keep_below hB _ _ (HT.out j hj))
                              replace HUO := Lib.hid (HUO.out.grow hB)
                              replace HTI := Lib.hid (HTI.out.grow hB)
                              replace HVW := Lib.hid (HVW.out.below hB)
                              replace HW0 := Lib.hid (HW0.out.trans (hB.mono HW0.out.size))
                              replace HU1 := Lib.hid (HU1.out.grow hB)
                              rw [hnm] at HU1 hNB hbx ⊢
                              have HVX := Lib.hid hNB
                              have HBX := Lib.hid hbx
                              clear hNB hB hnm hbx
                              refine hK.out _ _ ?_ (fun hHeld => ?_)
                              · exact HVW.out.2.1
                              clear hK K
                              refine wpAnyH_ready (rs := [6]) (by kernel_rfl) (by simp) ?_
                              refine AllReadyH.cons (o := _) rfl (fun K hK => ?_) ?_
                              · clear hHeld
                                go_simp
                                have HO := HVX.out.1
                                refine (fcut_calls _ V (x : Int) (y : Int) _ HUO.out HGV.out.1 HGV.out.2.1 (gV_box HGV.out) HT.out).mono ?_
                                rintro e W29 ⟨u2, rfl, hu2, hB⟩
                                replace HA := Lib.hid (HA.out.below hB)
                                replace HB := Lib.hid (HB.out.trans (hB.mono HB.out.size))
                                replace HI := Lib.hid (HI.out.grow hB)
                                replace HT := Lib.hid (fun j hj => keep_below hB _ _ (HT.out j hj))
                                replace HUO := Lib.hid (HUO.out.grow hB)
                                replace HTI := Lib.hid (HTI.out.grow hB)
                                replace HVW := Lib.hid (HVW.out.below hB)
                                replace HW0 := Lib.hid (HW0.out.trans (hB.mono HW0.out.size))
                                replace HU1 := Lib.hid (HU1.out.grow hB)
                                replace HVX := Lib.hid (HVX.out.below hB)
                                have hsu2 := hu2.store
                                have HU2 := Lib.hid (show IsV W29 (fun b => b ≠ bw) u2 (V.cut (x : Int) (y : Int)) from hu2.wide (fun b _ h => by have := HBX.out; omega))
                                clear hu2 HO
                                clear hB
                                refine hK.out _ _ ?_ (fun hHeld => ?_)
                                · exact HVW.out.2.1
                                clear hK K
                                refine wpAnyH_ready (rs := [11]) (by kernel_rfl) (by simp) ?_
                                refine AllReadyH.cons (o := _) rfl (fun K hK => ?_) ?_
                                · clear hHeld
                                  go_simp
                                  have HO := HVX.out.1
                                  refine (fcut_calls _ V (y : Int) (N : Int) _ HUO.out HGV.out.1 HGV.out.2.1 (gV_box HGV.out) HT.out).mono ?_
                                  rintro e W30 ⟨u3, rfl, hu3, hB⟩
                                  replace HA := Lib.hid (HA.out.below hB)
                                  replace HB := Lib.hid (HB.out.trans (hB.mono HB.out.size))
                                  replace HI := Lib.hid (HI.out.grow hB)
                                  replace HT := Lib.hid (fun j hj => keep_below hB _ _ (HT.out j hj))
                                  replace HUO := Lib.hid (HUO.out.grow hB)
                                  replace HTI := Lib.hid (HTI.out.grow hB)
                                  replace HVW := Lib.hid (HVW.out.below hB)
                                  replace HW0 := Lib.hid (HW0.out.trans (hB.mono HW0.out.size))
                                  replace HU1 := Lib.hid (HU1.out.grow hB)
                                  replace HVX := Lib.hid (HVX.out.below hB)
                                  replace HU2 := Lib.hid (HU2.out.grow hB)
                                  have hsu3 := hu3.store
                                  have HU3 := Lib.hid (show IsV W30 (fun b => b ≠ bw) u3 (V.cut (y : Int) (N : Int)) from hu3.wide (fun b _ h => by have := HBX.out; omega))
                                  clear hu3 HO
                                  clear hB
                                  refine hK.out _ _ ?_ (fun hHeld => ?_)
                                  · exact HVW.out.2.1
                                  clear hK K
                                  refine wpAnyH_ready (rs := [12]) (by kernel_rfl) (by simp) ?_
                                  refine AllReadyH.cons (o := _) rfl (fun K hK => ?_) ?_
                                  · clear hHeld
                                    go_simp
                                    obtain ⟨W31, hWn⟩ : ∃ xw9, W30.alloc (.cells #[u1, u2, u3] 32) = xw9 := ⟨_, rfl⟩
                                    have hB : Below W30.heap.size W30 W31 := by rw [← hWn]; exact below_new _ _
                                    have hNB : Slc W31 (fun b => b ≠ bw) (.slice (some ⟨W30.heap.size, 0, none⟩) 3 3) 3 [u1, u2, u3] := by
                                      rw [← hWn]; exact (Slc.owned (World.ownsRow_lit (base := W30.heap.size) (e := 32) (size := 1) W30 #[u1, u2, u3] 3 (Nat.le_refl _) (by unfold maxLen; omega) rfl)).keep (Kept.refl _ _) (fun b _ (h : _ ≤ b) => by have := HVX.out.1; omega)
                                    rw [hWn]
                                    clear hWn
                                    obtain ⟨bl, hnm⟩ : ∃ x, W30.heap.size = x := ⟨_, rfl⟩
                                    replace HA := Lib.hid (HA.out.below hB)
                                    replace HB := Lib.hid (HB.out.trans (hB.mono HB.out.size))
                                    replace HI := Lib.hid (HI.out.grow hB)
                                    replace HT := Lib.hid (fun j hj => keep_below hB _ _ (HT.out j hj))
                                    replace HUO := Lib.hid (HUO.out.grow hB)
                                    replace HTI := Lib.hid (HTI.out.grow hB)
                                    replace HVW := Lib.hid (HVW.out.below hB)
                                    replace HW0 := Lib.hid (HW0.out.trans (hB.mono HW0.out.size))
                                    replace HU1 := Lib.hid (HU1.out.grow hB)
                                    replace HVX := Lib.hid (HVX.out.below hB)
                                    replace HU2 := Lib.hid (HU2.out.grow hB)
                                    replace HU3 := Lib.hid (HU3.out.grow hB)
                                    rw [hnm] at hNB ⊢
                                    have HSL := Lib.hid hNB
                                    clear hNB hB hnm
                                    refine hK.out _ _ ?_ (fun hHeld => ?_)
                                    · exact HVW.out.2.1
                                    clear hK K
                                    refine wpAnyH_ready (rs := [13]) (by kernel_rfl) (by simp) ?_
                                    refine AllReadyH.cons (o := _) rfl (fun K hK => ?_) ?_
                                    · clear hHeld
                                      go_simp
                                      have HO := HVX.out.1
                                      refine (fjoin_calls (ok := (fun b => b ≠ bw)) _ [(u1, V.cut 0 (x : Int)), (u2, V.cut (x : Int) (y : Int)), (u3, V.cut (y : Int) (N : Int))] _ ⟨HSL.out, fun p hp => by simp only [List.mem_cons, List.not_mem_nil, or_false] at hp; rcases hp with rfl | rfl | rfl; exact HU1.out; exact HU2.out; exact HU3.out⟩ (by simp) (fun p hp => by simp only [List.mem_cons, List.not_mem_nil, or_false] at hp; rcases hp with rfl | rfl | rfl <;> exact ⟨(HG8.out _ _).1, (HG8.out _ _).2.1, gV_box (HG8.out _ _)⟩) HT.out).mono ?_
                                      rintro e W32 ⟨uj, rfl, huj, hB⟩
                                      replace HA := Lib.hid (HA.out.below hB)
                                      replace HB := Lib.hid (HB.out.trans (hB.mono HB.out.size))
                                      replace HI := Lib.hid (HI.out.grow hB)
                                      replace HT := Lib.hid (fun j hj => keep_below hB _ _ (HT.out j hj))
                                      replace HUO := Lib.hid (HUO.out.grow hB)
                                      replace HTI := Lib.hid (HTI.out.grow hB)
                                      replace HVW := Lib.hid (HVW.out.below hB)
                                      replace HW0 := Lib.hid (HW0.out.trans (hB.mono HW0.out.size))
                                      replace HU1 := Lib.hid (HU1.out.grow hB)
                                      replace HVX := Lib.hid (HVX.out.below hB)
                                      replace HU2 := Lib.hid (HU2.out.grow hB)
                                      replace HU3 := Lib.hid (HU3.out.grow hB)
                                      replace HSL := Lib.hid (HSL.out.below hB)
                                      rw [(HJ3.out u1 u2 u3).1]
                                      have hsuj := huj.store
                                      have HUJ := Lib.hid (show IsV W32 (fun b => b ≠ bw) uj (joinZ [(u1, V.cut 0 (x : Int)), (u2, V.cut (x : Int) (y : Int)), (u3, V.cut (y : Int) (N : Int))]) from huj.wide (fun b _ h => by omega))
                                      clear huj HO
                                      clear hB
                                      refine hK.out _ _ ?_ (fun hHeld => ?_)
                                      · exact HVW.out.2.1
                                      clear hK K
                                      refine wpAnyH_take (i := 14) (v := ?_) rfl (by kernel_rfl) (by kernel_rfl) (by kernel_rfl) (fun _ _ _ h => absurd h.1 (by simp)) (Or.inl ⟨by rfl, ?_⟩) (by assumption) ?_
                                      rotate_left
                                      · (intro w hSw; (try dsimp only at hSw); go_simp; try with_reducible rfl)
                                      simp only [Act.put, List.getElem_toArray, List.getElem_cons_succ, List.getElem_cons_zero, List.setIfInBounds_toArray, List.set_cons_zero, List.set_cons_succ]
                                      refine wpAnyH_take (i := 15) (v := ?_) rfl (by kernel_rfl) (by kernel_rfl) (by kernel_rfl) (fun _ _ _ h => absurd h.1 (by simp)) (Or.inl ⟨by rfl, ?_⟩) (by assumption) ?_
                                      rotate_left
                                      · (intro w hSw; (try dsimp only at hSw); go_simp; try with_reducible rfl)
                                      simp only [Act.put, List.getElem_toArray, List.getElem_cons_succ, List.getElem_cons_zero, List.setIfInBounds_toArray, List.set_cons_zero, List.set_cons_succ]
                                      refine wpAnyH_take (i := 16) (v := ?_) rfl (by kernel_rfl) (by kernel_rfl) (by kernel_rfl) (fun _ _ _ h => absurd h.1 (by simp)) (Or.inl ⟨by rfl, ?_⟩) (by assumption) ?_
                                      rotate_left
                                      · (intro w hSw; (try dsimp only at hSw); go_simp; try with_reducible rfl)
                                      simp only [Act.put, List.getElem_toArray, List.getElem_cons_succ, List.getElem_cons_zero, List.setIfInBounds_toArray, List.set_cons_zero, List.set_cons_succ]
                                      refine wpAnyH_ready (rs := [18]) (by kernel_rfl) (by simp) ?_
                                      refine AllReadyH.cons (o := _) rfl (fun K hK => ?_) ?_
                                      · clear hHeld
                                        have s0 := HVX.out.2.1
                                        have t0 := HVX.out.2.2 0
                                        go_simp
                                        clear s0 t0
                                        obtain ⟨W33, hWn⟩ : ∃ xw9, W32.setCell ⟨bw, 0, none⟩ uj = xw9 := ⟨_, rfl⟩
                                        rw [hWn]
                                        replace HVX := Lib.hid (show At1 W33 bw uj by rw [← hWn]; exact At1.put1 HVX.out _)
                                        replace HUJ := Lib.hid (show IsV W33 (fun b => b ≠ bw) uj (joinZ [(u1, V.cut 0 (x : Int)), (u2, V.cut (x : Int) (y : Int)), (u3, V.cut (y : Int) (N : Int))]) by rw [← hWn]; exact HUJ.out.keep (Kept.setCell _ _ _ (by simp)) (fun _ _ h => h))
                                        replace HVW := Lib.hid (show At1 W33 bv uo by rw [← hWn]; exact HVW.out.grown (grown_setCell _ ⟨bw, 0, none⟩ _) (by have := HBX.out; have := HVL.out; simp; omega))
                                        replace HW0 := Lib.hid (show Below W25.heap.size W25 W33 by rw [← hWn]; exact HW0.out.setCell HBX.out _)
                                        clear hWn
                                        refine hK.out _ _ ?_ (fun hHeld => ?_)
                                        · exact HVW.out.2.1
                                        clear hK K
                                        refine wpAnyH_take (i := 19) (v := ?_) rfl (by kernel_rfl) (by kernel_rfl) (by kernel_rfl) (fun _ _ _ h => absurd h.1 (by simp)) (Or.inl ⟨by rfl, ?_⟩) (by assumption) ?_
                                        rotate_left
                                        · (intro w hSw; (try dsimp only at hSw); go_simp; try with_reducible rfl)
                                        simp only [Act.put, List.getElem_toArray, List.getElem_cons_succ, List.getElem_cons_zero, List.setIfInBounds_toArray, List.set_cons_zero, List.set_cons_succ]
                                        refine wpAnyH_done (by kernel_rfl) ?_ _
                                        clear hHeld
                                        have HJJ := HJ3.out u1 u2 u3
                                        refine ⟨rfl, u1, u2, u3, uj, bl, bw, joinZ [(u1, V.cut 0 (x : Int)), (u2, V.cut (x : Int) (y : Int)), (u3, V.cut (y : Int) (N : Int))], ?_, HJJ.2.1, HJJ.2.2.1, HJJ.2.2.2, HUJ.out.any, HVX.out, HW0.out⟩
                                        first | rfl | kernel_rfl
                                      exact AllReadyH.nil
                                    exact AllReadyH.nil
                                  exact AllReadyH.nil
                                exact AllReadyH.nil
                              exact AllReadyH.nil
                            exact AllReadyH.nil
                          refine AllReadyH.cons (o := _) rfl (fun K hK => ?_) ?_
                          · clear hHeld
                            go_simp
                            obtain ⟨W27, hWn⟩ : ∃ xw9, W26.alloc (.cells #[.nilIface] 32) = xw9 := ⟨_, rfl⟩
                            have hB : Below W26.heap.size W26 W27 := by rw [← hWn]; exact below_new _ _
                            have hNB : At1 W27 W26.heap.size .nilIface := by rw [← hWn]; exact At1.new _ _ _
                            have hbx : W25.heap.size ≤ W26.heap.size := HW0.out.size
                            rw [hWn]
                            clear hWn
                            obtain ⟨bw, hnm⟩ : ∃ x, W26.heap.size = x := ⟨_, rfl⟩
                            replace HA := Lib.hid (HA.out.below hB)
                            replace HB := Lib.hid (HB.out.trans (hB.mono HB.out.size))
                            replace HI := Lib.hid (HI.out.grow hB)
                            replace HT := Lib.hid (fun j hj => keep_below hB _ _ (HT.out j hj))
                            replace HUO := Lib.hid (HUO.out.grow hB)
                            replace HTI := Lib.hid (HTI.out.grow hB)
                            replace HVW := Lib.hid (HVW.out.below hB)
                            replace HW0 := Lib.hid (HW0.out.trans (hB.mono HW0.out.size))
                            rw [hnm] at  hNB hbx ⊢
                            have HVX := Lib.hid hNB
                            have HBX := Lib.hid hbx
                            clear hNB hB hnm hbx
                            refine hK.out _ _ ?_ (fun hHeld => ?_)
                            · exact HVW.out.2.1
                            clear hK K
                            refine wpAnyH_ready (rs := [2]) (by kernel_rfl) (by simp) ?_
                            refine AllReadyH.cons (o := _) rfl (fun K hK => ?_) ?_
                            · clear hHeld
                              go_simp
                              have HO := HVX.out.1
                              refine (fcut_calls _ V 0 (x : Int) _ HUO.out HGV.out.1 HGV.out.2.1 (gV_box HGV.out) HT.out).mono ?_
                              rintro e W28 ⟨u1, rfl, hu1, hB⟩
                              replace HA := Lib.hid (HA.out.below hB)
                              replace HB := Lib.hid (HB.out.trans (hB.mono HB.out.size))
                              replace HI := Lib.hid (HI.out.grow hB)
                              replace HT := Lib.hid (fun j hj => keep_below hB _ _ (HT.out j hj))
                              replace HUO := Lib.hid (HUO.out.grow hB)
                              replace HTI := Lib.hid (HTI.out.grow hB)
                              replace HVW := Lib.hid (HVW.out.below hB)
                              replace HW0 := Lib.hid (HW0.out.trans (hB.mono HW0.out.size))
                              replace HVX := Lib.hid (HVX.out.below hB)
                              have hsu1 := hu1.store
                              have HU1 := Lib.hid (show IsV W28 (fun b => b ≠ bw) u1 (V.cut 0 (x : Int)) from hu1.wide (fun b _ h => by have := HBX.out; omega))
                              clear hu1 HO
                              clear hB
                              refine hK.out _ _ ?_ (fun hHeld => ?_)
                              · exact HVW.out.2.1
                              clear hK K
                              refine wpAnyH_ready (rs := [6]) (by kernel_rfl) (by simp) ?_
                              refine AllReadyH.cons (o := _) rfl (fun K hK => ?_) ?_
                              · clear hHeld
                                go_simp
                                have HO := HVX.out.1
                                refine (fcut_calls _ V (x : Int) (y : Int) _ HUO.out HGV.out.1 HGV.out.2.1 (gV_box HGV.out) HT.out).mono ?_
                                rintro e W29 ⟨u2, rfl, hu2, hB⟩
                                replace HA := Lib.hid (HA.out.below hB)
                                replace HB := Lib.hid (HB.out.trans (hB.mono HB.out.size))
                                replace HI := Lib.hid (HI.out.grow hB)
                                replace HT := Lib.hid (fun j hj => keep_below hB _ _ (HT.out j hj))
                                replace HUO := Lib.hid (HUO.out.grow hB)
                                replace HTI := Lib.hid (HTI.out.grow hB)
                                replace HVW := Lib.hid (HVW.out.below hB)
                                replace HW0 := Lib.hid (HW0.out.trans (hB.mono HW0.out.size))
                                replace HVX := Lib.hid (HVX.out.below hB)
                                replace HU1 := Lib.hid (HU1.out.grow hB)
                                have hsu2 := hu2.store
                                have HU2 := Lib.hid (show IsV W29 (fun b => b ≠ bw) u2 (V.cut (x : Int) (y : Int)) from hu2.wide (fun b _ h => by have := HBX.out; omega))
                                clear hu2 HO
                                clear hB
                                refine hK.out _ _ ?_ (fun hHeld => ?_)
                                · exact HVW.out.2.1
                                clear hK K
                                refine wpAnyH_ready (rs := [11]) (by kernel_rfl) (by simp) ?_
                                refine AllReadyH.cons (o := _) rfl (fun K hK => ?_) ?_
                                · clear hHeld
                                  go_simp
                                  have HO := HVX.out.1
                                  refine (fcut_calls _ V (y : Int) (N : Int) _ HUO.out HGV.out.1 HGV.out.2.1 (gV_box HGV.out) HT.out).mono ?_
                                  rintro e W30 ⟨u3, rfl, hu3, hB⟩
                                  replace HA := Lib.hid (HA.out.below hB)
                                  replace HB := Lib.hid (HB.out.trans (hB.mono HB.out.size))
                                  replace HI := Lib.hid (HI.out.grow hB)
                                  replace HT := Lib.hid (fun j hj => keep_below hB _ _ (HT.out j hj))
                                  replace HUO := Lib.hid (HUO.out.grow hB)
                                  replace HTI := Lib.hid (HTI.out.grow hB)
                                  replace HVW := Lib.hid (HVW.out.below hB)
                                  replace HW0 := Lib.hid (HW0.out.trans (hB.mono HW0.out.size))
                                  replace HVX := Lib.hid (HVX.out.below hB)
                                  replace HU1 := Lib.hid (HU1.out.grow hB)
                                  replace HU2 := Lib.hid (HU2.out.grow hB)
                                  have hsu3 := hu3.store
                                  have HU3 := Lib.hid (show IsV W30 (fun b => b ≠ bw) u3 (V.cut (y : Int) (N : Int)) from hu3.wide (fun b _ h => by have := HBX.out; omega))
                                  clear hu3 HO
                                  clear hB
                                  refine hK.out _ _ ?_ (fun hHeld => ?_)
                                  · exact HVW.out.2.1
                                  clear hK K
                                  refine wpAnyH_ready (rs := [12]) (by kernel_rfl) (by simp) ?_
                                  refine AllReadyH.cons (o := _) rfl (fun K hK => ?_) ?_
                                  · clear hHeld
                                    go_simp
                                    obtain ⟨W31, hWn⟩ : ∃ xw9, W30.alloc (.cells #[u1, u2, u3] 32) = xw9 := ⟨_, rfl⟩
                                    have hB : Below W30.heap.size W30 W31 := by rw [← hWn]; exact below_new _ _
                                    have hNB : Slc W31 (fun b => b ≠ bw) (.slice (some ⟨W30.heap.size, 0, none⟩) 3 3) 3 [u1, u2, u3] := by
                                      rw [← hWn]; exact (Slc.owned (World.ownsRow_lit (base := W30.heap.size) (e := 32) (size := 1) W30 #[u1, u2, u3] 3 (Nat.le_refl _) (by unfold maxLen; omega) rfl)).keep (Kept.refl _ _) (fun b _ (h : _ ≤ b) => by have := HVX.out.1; omega)
                                    rw [hWn]
                                    clear hWn
                                    obtain ⟨bl, hnm⟩ : ∃ x, W30.heap.size = x := ⟨_, rfl⟩
                                    replace HA := Lib.hid (HA.out.below hB)
                                    replace HB := Lib.hid (HB.out.trans (hB.mono HB.out.size))
                                    replace HI := Lib.hid (HI.out.grow hB)
                                    replace HT := Lib.hid (fun j hj => keep_below hB _ _ (HT.out j hj))
                                    replace HUO := Lib.hid (HUO.out.grow hB)
                                    replace HTI := Lib.hid (HTI.out.grow hB)
                                    replace HVW := Lib.hid (HVW.out.below hB)
                                    replace HW0 := Lib.hid (HW0.out.trans (hB.mono HW0.out.size))
                                    replace HVX := Lib.hid (HVX.out.below hB)
                                    replace HU1 := Lib.hid (HU1.out.grow hB)
                                    replace HU2 := Lib.hid (HU2.out.grow hB)
                                    replace HU3 := Lib.hid (HU3.out.grow hB)
                                    rw [hnm] at hNB ⊢
                                    have HSL := Lib.hid hNB
                                    clear hNB hB hnm
                                    refine hK.out _ _ ?_ (fun hHeld => ?_)
                                    · exact HVW.out.2.1
                                    clear hK K
                                    refine wpAnyH_ready (rs := [13]) (by kernel_rfl) (by simp) ?_
                                    refine AllReadyH.cons (o := _) rfl (fun K hK => ?_) ?_
                                    · clear hHeld
                                      go_simp
                                      have HO := HVX.out.1
                                      refine (fjoin_calls (ok := (fun b => b ≠ bw)) _ [(u1, V.cut 0 (x : Int)), (u2, V.cut (x : Int) (y : Int)), (u3, V.cut (y : Int) (N : Int))] _ ⟨HSL.out, fun p hp => by simp only [List.mem_cons, List.not_mem_nil, or_false] at hp; rcases hp with rfl | rfl | rfl; exact HU1.out; exact HU2.out; exact HU3.out⟩ (by simp) (fun p hp => by simp only [List.mem_cons, List.not_mem_nil, or_false] at hp; rcases hp with rfl | rfl | rfl <;> exact ⟨(HG8.out _ _).1, (HG8.out _ _).2.1, gV_box (HG8.out _ _)⟩) HT.out).mono ?_
                                      rintro e W32 ⟨uj, rfl, huj, hB⟩
                                      replace HA := Lib.hid (HA.out.below hB)
                                      replace HB := Lib.hid (HB.out.trans (hB.mono HB.out.size))
                                      replace HI := Lib.hid (HI.out.grow hB)
                                      replace HT := Lib.hid (fun j hj => keep_below hB _ _ (HT.out j hj))
                                      replace HUO := Lib.hid (HUO.out.grow hB)
                                      replace HTI := Lib.hid (HTI.out.grow hB)
                                      replace HVW := Lib.hid (HVW.out.below hB)
                                      replace HW0 := Lib.hid (HW0.out.trans (hB.mono HW0.out.size))
                                      replace HVX := Lib.hid (HVX.out.below hB)
                                      replace HU1 := Lib.hid (HU1.out.grow hB)
                                      replace HU2 := Lib.hid (HU2.out.grow hB)
                                      replace HU3 := Lib.hid (HU3.out.grow hB)
                                      replace HSL := Lib.hid (HSL.out.below hB)
                                      rw [(HJ3.out u1 u2 u3).1]
                                      have hsuj := huj.store
                                      have HUJ := Lib.hid (show IsV W32 (fun b => b ≠ bw) uj (joinZ [(u1, V.cut 0 (x : Int)), (u2, V.cut (x : Int) (y : Int)), (u3, V.cut (y : Int) (N : Int))]) from huj.wide (fun b _ h => by omega))
                                      clear huj HO
                                      clear hB
                                      refine hK.out _ _ ?_ (fun hHeld => ?_)
                                      · exact HVW.out.2.1
                                      clear hK K
                                      refine wpAnyH_take (i := 14) (v := ?_) rfl (by kernel_rfl) (by kernel_rfl) (by kernel_rfl) (fun _ _ _ h => absurd h.1 (by simp)) (Or.inl ⟨by rfl, ?_⟩) (by assumption) ?_
                                      rotate_left
                                      · (intro w hSw; (try dsimp only at hSw); go_simp; try with_reducible rfl)
                                      simp only [Act.put, List.getElem_toArray, List.getElem_cons_succ, List.getElem_cons_zero, List.setIfInBounds_toArray, List.set_cons_zero, List.set_cons_succ]
                                      refine wpAnyH_take (i := 15) (v := ?_) rfl (by kernel_rfl) (by kernel_rfl) (by kernel_rfl) (fun _ _ _ h => absurd h.1 (by simp)) (Or.inl ⟨by rfl, ?_⟩) (by assumption) ?_
                                      rotate_left
                                      · (intro w hSw; (try dsimp only at hSw); go_simp; try with_reducible rfl)
                                      simp only [Act.put, List.getElem_toArray, List.getElem_cons_succ, List.getElem_cons_zero, List.setIfInBounds_toArray, List.set_cons_zero, List.set_cons_succ]
                                      refine wpAnyH_take (i := 16) (v := ?_) rfl (by kernel_rfl) (by kernel_rfl) (by kernel_rfl) (fun _ _ _ h => absurd h.1 (by simp)) (Or.inl ⟨by rfl, ?_⟩) (by assumption) ?_
                                      rotate_left
                                      · (intro w hSw; (try dsimp only at hSw); go_simp; try with_reducible rfl)
                                      simp only [Act.put, List.getElem_toArray, List.getElem_cons_succ, List.getElem_cons_zero, List.setIfInBounds_toArray, List.set_cons_zero, List.set_cons_succ]
                                      refine wpAnyH_ready (rs := [18]) (by kernel_rfl) (by simp) ?_
                                      refine AllReadyH.cons (o := _) rfl (fun K hK => ?_) ?_
                                      · clear hHeld
                                        have s0 := HVX.out.2.1
                                        have t0 := HVX.out.2.2 0
                                        go_simp
                                        clear s0 t0
                                        obtain ⟨W33, hWn⟩ : ∃ xw9, W32.setCell ⟨bw, 0, none⟩ uj = xw9 := ⟨_, rfl⟩
                                        rw [hWn]
                                        replace HVX := Lib.hid (show At1 W33 bw uj by rw [← hWn]; exact At1.put1 HVX.out _)
                                        replace HUJ := Lib.hid (show IsV W33 (fun b => b ≠ bw) uj (joinZ [(u1, V.cut 0 (x : Int)), (u2, V.cut (x : Int) (y : Int)), (u3, V.cut (y : Int) (N : Int))]) by rw [← hWn]; exact HUJ.out.keep (Kept.setCell _ _ _ (by simp)) (fun _ _ h => h))
                                        replace HVW := Lib.hid (show At1 W33 bv uo by rw [← hWn]; exact HVW.out.grown (grown_setCell _ ⟨bw, 0, none⟩ _) (by have := HBX.out; have := HVL.out; simp; omega))
                                        replace HW0 := Lib.hid (show Below W25.heap.size W25 W33 by rw [← hWn]; exact HW0.out.setCell HBX.out _)
                                        clear hWn
                                        refine hK.out _ _ ?_ (fun hHeld => ?_)
                                        · exact HVW.out.2.1
                                        clear hK K
                                        refine wpAnyH_take (i := 19) (v := ?_) rfl (by kernel_rfl) (by kernel_rfl) (by kernel_rfl) (fun _ _ _ h => absurd h.1 (by simp)) (Or.inl ⟨by rfl, ?_⟩) (by assumption) ?_
                                        rotate_left
                                        · (intro w hSw; (try dsimp only at hSw); go_simp; try with_reducible rfl)
                                        simp only [Act.put, List.getElem_toArray, List.getElem_cons_succ, List.getElem_cons_zero, List.setIfInBounds_toArray, List.set_cons_zero, List.set_cons_succ]
                                        refine wpAnyH_done (by kernel_rfl) ?_ _
                                        clear hHeld
                                        have HJJ := HJ3.out u1 u2 u3
                                        refine ⟨rfl, u1, u2, u3, uj, bl, bw, joinZ [(u1, V.cut 0 (x : Int)), (u2, V.cut (x : Int) (y : Int)), (u3, V.cut (y : Int) (N : Int))], ?_, HJJ.2.1, HJJ.2.2.1, HJJ.2.2.2, HUJ.out.any, HVX.out, HW0.out⟩
                                        first | rfl | kernel_rfl
                                      exact AllReadyH.nil
                                    exact AllReadyH.nil
                                  exact AllReadyH.nil
                                exact AllReadyH.nil
                              exact AllReadyH.nil
                            exact AllReadyH.nil
                          exact AllReadyH.nil
                        rintro _ w3 ⟨u1, u2, u3, uj, bl, bw, VJ, rfl, hG9, hC9, hI9, hUJ, hAX, hB⟩
                        have HUJ := Lib.hid hUJ
                        have HVX := Lib.hid hAX
                        have hsuj := hUJ.store
                        have HG9 := Lib.hid hG9
                        have HC9 := Lib.hid hC9
                        have HI9 := Lib.hid hI9
                        clear hUJ hAX hG9 hC9 hI9
                        replace HA := Lib.hid (HA.out.below hB)
                        replace HB := Lib.hid (HB.out.trans (hB.mono HB.out.size))
                        replace HI := Lib.hid (HI.out.grow hB)
                        replace HT := Lib.hid (fun j hj => keep_below hB _ _ (HT.out j hj))
                        replace HUO := Lib.hid (HUO.out.grow hB)
                        replace HTI := Lib.hid (HTI.out.grow hB)
                        replace HVW := Lib.hid (HVW.out.below hB)
                        clear hB
                        simp only [Act.put, List.setIfInBounds_toArray, List.set_cons_zero, List.set_cons_succ]
                        have cHA0 := HA.out.2.1
                        have cHA1 := HA.out.2.2.1
                        have cHA2 := HA.out.2.2.2.1
                        have cHVW0 := HVW.out.2.1
                        have cHVX0 := HVX.out.2.1
                        go_wp2_with fail
                        refine (shows8_calls _ VJ _ l p.f _ HUJ.out HG9.out HC9.out HTI.out HI9.out.symm HT.out).mono ?_
                        rintro e W26 ⟨rfl, hB⟩
                        clear cHA0 cHA1 cHA2 cHVW0 cHVX0
                        replace HA := Lib.hid (HA.out.below hB)
                        replace HB := Lib.hid (HB.out.trans (hB.mono HB.out.size))
                        replace HI := Lib.hid (HI.out.grow hB)
                        replace HT := Lib.hid (fun j hj => keep_below hB _ _ (HT.out j hj))
                        replace HUO := Lib.hid (HUO.out.grow hB)
                        replace HTI := Lib.hid (HTI.out.grow hB)
                        replace HVW := Lib.hid (HVW.out.below hB)
                        replace HUJ := Lib.hid (HUJ.out.grow hB)
                        replace HVX := Lib.hid (HVX.out.below hB)
                        clear hB
                        have cHA0 := HA.out.2.1
                        have cHA1 := HA.out.2.2.1
                        have cHA2 := HA.out.2.2.2.1
                        have cHVW0 := HVW.out.2.1
                        have cHVX0 := HVX.out.2.1
                        go_wp2_with fail
                        refine (awake8_calls _ HT.out).mono ?_
                        rintro e W27 ⟨rfl, hB⟩
                        clear cHA0 cHA1 cHA2 cHVW0 cHVX0
                        replace HA := Lib.hid (HA.out.below hB)
                        replace HB := Lib.hid (HB.out.trans (hB.mono HB.out.size))
                        replace HI := Lib.hid (HI.out.grow hB)
                        replace HT := Lib.hid (fun j hj => keep_below hB _ _ (HT.out j hj))
                        replace HUO := Lib.hid (HUO.out.grow hB)
                        replace HTI := Lib.hid (HTI.out.grow hB)
                        replace HVW := Lib.hid (HVW.out.below hB)
                        replace HUJ := Lib.hid (HUJ.out.grow hB)
                        replace HVX := Lib.hid (HVX.out.below hB)
                        clear hB
                        have cHA0 := HA.out.2.1
                        have cHA1 := HA.out.2.2.1
                        have cHA2 := HA.out.2.2.2.1
                        have cHVW0 := HVW.out.2.1
                        have cHVX0 := HVX.out.2.1
                        go_wp2_with fail
                        go_ret
                        exact BoolIs.mk rfl HB.out
                      exact AllReadyH.nil
                    exact AllReadyH.nil
                  exact AllReadyH.nil
                exact AllReadyH.nil
              exact AllReadyH.nil
            exact AllReadyH.nil
          exact AllReadyH.nil
        exact AllReadyH.nil
      exact AllReadyH.nil
    exact AllReadyH.nil
  exact AllReadyH.nil

theorem wf_i64c {a : Int} (h : (Lit.int .i64 a).wf = true) : -9223372036854775808 ≤ a ∧ a ≤ 9223372036854775807 := by
  have hm : IntKind.i64.min = -9223372036854775808 ∧ IntKind.i64.max = 9223372036854775807 := by decide
  simp only [Lit.wf, decide_eq_true_eq, Bool.and_eq_true] at h
  rw [hm.1, hm.2] at h; exact h
theorem flatCuts_frame (w : World) (u : Value) (p : PA) (m : Nat) (hl : lo m p) (hp : IsP w (fun _ => True) u p) (a : Int) (ha : (Lit.int .i64 a).wf = true) (b : Int) (hb : (Lit.int .i64 b).wf = true) (n : Int) (_ : (Lit.int .i64 n).wf = true) (hT : TabAt w) :
    Calls Tryz.prog 5 #[u, .int .i64 a, .int .i64 b, .int .i64 n] w fun e w' => e = .returned (.bool true) ∧ Below w.heap.size w w' :=
  flatCuts_walk p u m a b n w hl hp (wf_i64c ha) (wf_i64c hb) hT
end Go.Proofs.YtohjomhiibkobaaGreatDoor

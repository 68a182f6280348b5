/- Package squeeze, walked: Squeeze, Numbers. -/
import Derived.Test.YtbdhibcbpgjbmaaGreatDoorSqD
import Derived.Test.YtbdhibcbpgjbmaaGreatDoorWalk2
namespace Go.Proofs.YtbdhibcbpgjbmaaGreatDoor
open Go.RowKit Fl
set_option linter.unusedVariables false
set_option maxRecDepth 100000

/-- .. in the least kind. -/
noncomputable def VV.sq (V : VV) : VV := V.into (V.least : Int)
theorem least_bd (V : VV) (h : V.cls = 0) : 1 ≤ V.least ∧ V.least ≤ 4 := by
 cases V with
 | bits l => exact ⟨Nat.le_refl _, by show 1 ≤ 4; decide⟩
 | chars l => simp [VV.cls] at h
 | boxes l => simp [VV.cls] at h
 | none => exact _root_.Go.Proofs.YtbdhibcbpgjbmaaGreatDoor.leastW_le _
 | smalls l => exact _root_.Go.Proofs.YtbdhibcbpgjbmaaGreatDoor.leastW_le _
 | ints l => exact _root_.Go.Proofs.YtbdhibcbpgjbmaaGreatDoor.leastW_le _
 | floats l => exact _root_.Go.Proofs.YtbdhibcbpgjbmaaGreatDoor.leastW_le _
theorem VV.fit_least {V : VV} (h : V.cls = 0 ∨ V.kind = V.least) : V.fit (V.least : Int) = true := by
 unfold VV.fit
 rcases h with h | h
 ·have h1 := least_bd V h
  rw [decide_eq_true h, decide_eq_true (show 1 ≤ (V.least : Int) ∧ (V.least : Int) ≤ 4 by omega), decide_eq_true (Int.le_refl _)]; simp
 ·rw [decide_eq_true h]; simp
theorem VV.fit_least' (V : VV) : V.fit (V.least : Int) = true := by
 by_cases h : V.cls = 0
 ·exact VV.fit_least (.inl h)
 ·exact VV.fit_least (.inr (VV.least_oth (.inr h)).symm)
theorem VV.sq_spec {V : VV} (hok : V.ok) (hn : V.nm) : V.sq.kind = V.least ∧ V.sq.nums = V.nums ∧ V.sq.cls = V.cls ∧ V.sq.ok ∧ V.sq.nm ∧ V.sq.len = V.len := VV.into_spec hok hn (VV.fit_least' V)


set_option maxHeartbeats 4000000 in
theorem squeeze_calls {ok : Nat → Prop} (u : Value) (V : VV) (w : World) (h : IsV w (V.nb ok) u V) (hok : V.ok) (hn : V.nm) (hT : TabAt w) :
  Calls Tryz.prog 42 #[.agg #[u]] w fun e w' => ∃ u', e = .returned (.agg #[u']) ∧ IsV w' (V.sq.nb (fun b => ok b ∨ w.heap.size ≤ b)) u' V.sq ∧ Below w.heap.size w w' := by
 have HOK := Lib.hid hok; have HN := Lib.hid hn; have HT := Lib.hid hT
 have HB := Lib.hid (Below.refl w.heap.size w)
 have hst := h.store
 have hsh := h.shape
 obtain ⟨L, hL⟩ : ∃ L : Int, (V.least : Int) = L := ⟨_, rfl⟩
 have HF := Lib.hid (VV.fit_least' V)
 have HS := Lib.hid (show V.into L = V.sq by rw [← hL]; rfl)
 rw [hL] at HF
 have HL := Lib.hid hL; clear hL
 obtain ⟨ok0, hok0⟩ : ∃ o : Nat → Prop, o = fun b => ok b ∧ b < w.heap.size ∨ w.heap.size ≤ b := ⟨_, rfl⟩
 have HOKP := Lib.hid (show ∀ b, ok0 b → ok b ∨ w.heap.size ≤ b by rw [hok0]; exact fun b h => h.imp (fun h => h.1) id)
 have HFR := Lib.hid (show ∀ b, w.heap.size ≤ b → ok0 b by rw [hok0]; exact fun b h => .inr h)
 have H := Lib.hid (h.nbw (ok' := ok0) (fun b hb ho => by rw [hok0]; exact .inl ⟨ho, hb⟩))
 clear hok0; clear h hok hn hT
 obtain ⟨W1, hWn⟩ : ∃ X, (w.alloc (.cells #[u] 36)) = X := ⟨_, rfl⟩
 have hB : Below w.heap.size w W1 := by rw [← hWn]; exact below_new _ _
 have hla : w.heap.size ≤ w.heap.size := by omega
 have hlb : w.heap.size < W1.heap.size := by rw [← hWn]; simp; try omega
 have HA := Lib.hid (show At1 W1 w.heap.size (u) by rw [← hWn]; exact At1.new _ (u) 36)
 have GEHA := Lib.hid (show w.heap.size ≤ w.heap.size from Nat.le_trans HB.out.size hla)
 obtain ⟨ok1, o1, o2, o3, o4⟩ := ok_step ok0 w.heap.size w.heap.size W1.heap.size HFR.out hla hlb
 replace HOKP := Lib.hid (fun b h => HOKP.out b (o1 b h))
 replace HFR := Lib.hid o3
 replace H := Lib.hid ((H.out.nbw (fun b hb h => o2 b hb h)).grow hB)
 replace HT := HT.go hB; replace HB := cb hB HB; have NOHA := Lib.hid o4; clear o1 o2 o3 o4; clear hla hlb hB
 have IOHA : Hid (IsIface (u)) := Lib.hid (hsh)
 have cHA := HA.out.2.1
 
 have hE0 := hWn
 clear hWn
 obtain ⟨W2, hWn⟩ : ∃ X, (W1.alloc (.cells #[.nilIface] 36)) = X := ⟨_, rfl⟩
 have hB : Below W1.heap.size W1 W2 := by rw [← hWn]; exact below_new _ _
 have hla : W1.heap.size ≤ W1.heap.size := by omega
 have hlb : W1.heap.size < W2.heap.size := by rw [← hWn]; simp; try omega
 have HR := Lib.hid (show At1 W2 W1.heap.size (.nilIface) by rw [← hWn]; exact At1.new _ (.nilIface) 36)
 clear cHA
 have NEHAHR := Lib.hid (show w.heap.size ≠ W1.heap.size by have := HA.out.1; omega)
 have GEHR := Lib.hid (show w.heap.size ≤ W1.heap.size from Nat.le_trans HB.out.size hla)
 obtain ⟨ok2, o1, o2, o3, o4⟩ := ok_step ok1 W1.heap.size W1.heap.size W2.heap.size HFR.out hla hlb
 replace HOKP := Lib.hid (fun b h => HOKP.out b (o1 b h))
 replace HFR := Lib.hid o3
 replace NOHA := Lib.hid (fun h => NOHA.out (o1 _ h))
 replace H := Lib.hid ((H.out.nbw (fun b hb h => o2 b hb h)).grow hB)
 replace HT := HT.go hB; replace HA := HA.go hB; replace HB := cb hB HB; have NOHR := Lib.hid o4; clear o1 o2 o3 o4; clear hla hlb hB
 have IOHR : Hid (IsIface (.nilIface)) := Lib.hid (.inl rfl)
 have cHA := HA.out.2.1; have cHR := HR.out.2.1
 
 have hE1 := hWn
 clear hWn
 go_enter Tryz.func42, Tryz.ntmps42
 go_wp2_with fail
 clear hE0 hE1
 have hcz : True := trivial
 refine wp_region_held_drew (S := fun w' => w'.cell? ⟨w.heap.size, 0, none⟩ = some (u) ∧ w'.cell? ⟨W1.heap.size, 0, none⟩ = some (.nilIface)) (by kernel_rfl) ⟨cHA, cHR⟩ (fun hHeld => ?_)
 obtain ⟨W3, hWn⟩ : ∃ X, W2.drew = X := ⟨_, rfl⟩
 have hB : Below W2.heap.size W2 W3 := by rw [← hWn]; exact Below.drewN' (Below.refl _ _) 1
 clear cHA cHR; replace H := H.go hB; replace HT := HT.go hB; replace HA := HA.go hB; replace HR := HR.go hB; replace HB := cb hB HB
 replace HFR := Lib.hid (fun b h => HFR.out b (Nat.le_trans hB.size h))
 rw [hWn] at hHeld ⊢
 clear hB hWn hcz; have cHA := HA.out.2.1; have cHR := HR.out.2.1; apply tk 0; apply tk 1
 refine wpAnyH_ready (rs := [2, 7]) (by kernel_rfl) (by simp) ?_
 refine AllReadyH.cons (o := _) rfl (fun K hK => ?_) ?_
 ·clear hHeld; go_simp
  refine (least_calls _ _ _ H.out HOK.out HN.out HT.out).mono ?_
  clear cHA cHR
  rintro e W4 ⟨rfl, hB⟩
  replace H := H.go hB; replace HT := HT.go hB; replace HA := HA.go hB; replace HR := HR.go hB; replace HB := cb hB HB
  replace HFR := Lib.hid (fun b h => HFR.out b (Nat.le_trans hB.size h))
  rw [HL.out]; clear hB; have cHA := HA.out.2.1; have cHR := HR.out.2.1
  refine hK.out _ _ ⟨cHA, cHR⟩ (fun hHeld => ?_)
  clear hK K
  refine wpAnyH_ready (rs := [3, 7]) (by kernel_rfl) (by simp) ?_
  refine AllReadyH.cons (o := _) rfl (fun K hK => ?_) ?_
  ·clear hHeld; go_simp
   refine (sinto_calls _ _ _ _ H.out HOK.out HN.out HT.out).mono ?_
   clear cHA cHR
   rintro e W5 ⟨x, rfl, hu, hB⟩
   have stx := hu.store
   have shx := Lib.hid hu.shape
   have HX := Lib.hid (hu.nbw (ok' := ok2) (fun b _ h => h.elim id (HFR.out b)))
   clear hu; replace H := H.go hB; replace HT := HT.go hB; replace HA := HA.go hB; replace HR := HR.go hB; replace HB := cb hB HB
   replace HFR := Lib.hid (fun b h => HFR.out b (Nat.le_trans hB.size h))
   rw [HF.out]
   rw [HS.out] at HX
   clear hB; have cHA := HA.out.2.1; have cHR := HR.out.2.1
   refine hK.out _ _ ⟨cHA, cHR⟩ (fun hHeld => ?_)
   clear hK K; apply tk 4; apply tk 5; apply tk 6
   apply rdy 7; intro K hK; clear hHeld; go_simp
   obtain ⟨W6, hWn⟩ : ∃ X, (W5.alloc (.cells #[.nilIface] 36)) = X := ⟨_, rfl⟩
   have hB : Below W5.heap.size W5 W6 := by rw [← hWn]; exact below_new _ _
   obtain ⟨bHZ, hbHZ⟩ : ∃ x, W5.heap.size = x := ⟨_, rfl⟩
   have hla : W5.heap.size ≤ bHZ := by omega
   have hlb : bHZ < W6.heap.size := by rw [← hWn]; simp; try omega
   have HZ := Lib.hid (show At1 W6 bHZ (.nilIface) by rw [← hWn, ← hbHZ]; exact At1.new _ (.nilIface) 36)
   clear cHA cHR
   have NEHAHZ := Lib.hid (show w.heap.size ≠ bHZ by have := HA.out.1; omega)
   have NEHRHZ := Lib.hid (show W1.heap.size ≠ bHZ by have := HR.out.1; omega)
   have GEHZ := Lib.hid (show w.heap.size ≤ bHZ from Nat.le_trans HB.out.size hla)
   obtain ⟨ok3, o1, o2, o3, o4⟩ := ok_step ok2 W5.heap.size bHZ W6.heap.size HFR.out hla hlb
   replace HOKP := Lib.hid (fun b h => HOKP.out b (o1 b h))
   replace HFR := Lib.hid o3
   replace NOHA := Lib.hid (fun h => NOHA.out (o1 _ h))
   replace NOHR := Lib.hid (fun h => NOHR.out (o1 _ h))
   replace H := Lib.hid ((H.out.nbw (fun b hb h => o2 b hb h)).grow hB)
   replace HT := HT.go hB; replace HA := HA.go hB; replace HR := HR.go hB
   replace HX := Lib.hid ((HX.out.nbw (fun b hb h => o2 b hb h)).grow hB)
   replace HB := cb hB HB; have NOHZ := Lib.hid o4; clear o1 o2 o3 o4; clear hla hlb hB
   have IOHZ : Hid (IsIface (.nilIface)) := Lib.hid (.inl rfl)
   have cHA := HA.out.2.1; have cHR := HR.out.2.1; have cHZ := HZ.out.2.1
   rw [hWn, hbHZ]
   clear hWn hbHZ
   refine hK.out _ _ ⟨cHA, cHR⟩ (fun hHeld => ?_)
   clear hK K
   apply rdy 8; intro K hK; clear hHeld; have fHZ := HZ.out.2.2 0; go_simp; clear fHZ
   obtain ⟨W7, hWn⟩ : ∃ X, W6.setCell ⟨bHZ, 0, none⟩ (x) = X := ⟨_, rfl⟩
   have cHZ0 := HZ.out.2.1; clear cHA cHR cHZ
   have hg : W6.grownBy W7 (some bHZ) := by rw [← hWn]; exact grown_setCell _ _ _
   have hz : W7.heap.size = W6.heap.size := by rw [← hWn]; simp
   replace H := Lib.hid (show IsV W7 _ _ _ by rw [← hWn]; exact H.out.setw cHZ0 IOHZ.out NOHZ.out _)
   replace HT := Lib.hid (show TabAt W7 by rw [← hWn]; exact TabAt.setc HT.out cHZ0 IOHZ.out _)
   replace HA := Lib.hid (HA.out.grown hg (fun e => NEHAHZ.out (Option.some.inj e)))
   replace HR := Lib.hid (HR.out.grown hg (fun e => NEHRHZ.out (Option.some.inj e)))
   replace HX := Lib.hid (show IsV W7 _ _ _ by rw [← hWn]; exact HX.out.setw cHZ0 IOHZ.out NOHZ.out _)
   replace HZ := Lib.hid (show At1 W7 bHZ (x) by rw [← hWn]; exact HZ.out.set _)
   replace IOHZ : Hid (IsIface (x)) := Lib.hid (shx.out)
   replace HB := Lib.hid (show Below w.heap.size w W7 by rw [← hWn]; exact HB.out.setCell GEHZ.out _)
   replace HFR := Lib.hid (fun b h => HFR.out b (by rw [← hz]; exact h))
   have cHA := HA.out.2.1; have cHR := HR.out.2.1; have cHZ := HZ.out.2.1; rw [hWn]; clear hWn hg hz cHZ0
   refine hK.out _ _ ⟨cHA, cHR⟩ (fun hHeld => ?_)
   clear hK K; apply tk 9
   refine wpAnyH_done (by kernel_rfl) ?_ _
   clear hHeld; have fHR := HR.out.2.2 0
   go_wp2
   refine bodyPost_ret (v := .agg #[x]) (by simp [results, Tryz.results42, go_sem, cHR]) rfl ⟨x, rfl, (HX.out.setw cHR IOHR.out NOHR.out _).nbw (fun b _ h => HOKP.out b h), HB.out.setCell GEHR.out _⟩
  refine AllReadyH.cons (o := _) rfl (fun K hK => ?_) ?_
  ·clear hHeld; go_simp
   obtain ⟨W5, hWn⟩ : ∃ X, (W4.alloc (.cells #[.nilIface] 36)) = X := ⟨_, rfl⟩
   have hB : Below W4.heap.size W4 W5 := by rw [← hWn]; exact below_new _ _
   obtain ⟨bHZ, hbHZ⟩ : ∃ x, W4.heap.size = x := ⟨_, rfl⟩
   have hla : W4.heap.size ≤ bHZ := by omega
   have hlb : bHZ < W5.heap.size := by rw [← hWn]; simp; try omega
   have HZ := Lib.hid (show At1 W5 bHZ (.nilIface) by rw [← hWn, ← hbHZ]; exact At1.new _ (.nilIface) 36)
   clear cHA cHR
   have NEHAHZ := Lib.hid (show w.heap.size ≠ bHZ by have := HA.out.1; omega)
   have NEHRHZ := Lib.hid (show W1.heap.size ≠ bHZ by have := HR.out.1; omega)
   have GEHZ := Lib.hid (show w.heap.size ≤ bHZ from Nat.le_trans HB.out.size hla)
   obtain ⟨ok3, o1, o2, o3, o4⟩ := ok_step ok2 W4.heap.size bHZ W5.heap.size HFR.out hla hlb
   replace HOKP := Lib.hid (fun b h => HOKP.out b (o1 b h))
   replace HFR := Lib.hid o3
   replace NOHA := Lib.hid (fun h => NOHA.out (o1 _ h))
   replace NOHR := Lib.hid (fun h => NOHR.out (o1 _ h))
   replace H := Lib.hid ((H.out.nbw (fun b hb h => o2 b hb h)).grow hB)
   replace HT := HT.go hB; replace HA := HA.go hB; replace HR := HR.go hB; replace HB := cb hB HB; have NOHZ := Lib.hid o4; clear o1 o2 o3 o4; clear hla hlb hB
   have IOHZ : Hid (IsIface (.nilIface)) := Lib.hid (.inl rfl)
   have cHA := HA.out.2.1; have cHR := HR.out.2.1; have cHZ := HZ.out.2.1
   rw [hWn, hbHZ]
   clear hWn hbHZ
   refine hK.out _ _ ⟨cHA, cHR⟩ (fun hHeld => ?_)
   clear hK K
   apply rdy 3; intro K hK; clear hHeld; go_simp
   refine (sinto_calls _ _ _ _ H.out HOK.out HN.out HT.out).mono ?_
   clear cHA cHR cHZ
   rintro e W6 ⟨x, rfl, hu, hB⟩
   have stx := hu.store
   have shx := Lib.hid hu.shape
   have HX := Lib.hid (hu.nbw (ok' := ok3) (fun b _ h => h.elim id (HFR.out b)))
   clear hu; replace H := H.go hB; replace HT := HT.go hB; replace HA := HA.go hB; replace HR := HR.go hB; replace HZ := HZ.go hB; replace HB := cb hB HB
   replace HFR := Lib.hid (fun b h => HFR.out b (Nat.le_trans hB.size h))
   rw [HF.out]
   rw [HS.out] at HX
   clear hB; have cHA := HA.out.2.1; have cHR := HR.out.2.1; have cHZ := HZ.out.2.1
   refine hK.out _ _ ⟨cHA, cHR⟩ (fun hHeld => ?_)
   clear hK K; apply tk 4; apply tk 5; apply tk 6
   apply rdy 8; intro K hK; clear hHeld; have fHZ := HZ.out.2.2 0; go_simp; clear fHZ
   obtain ⟨W7, hWn⟩ : ∃ X, W6.setCell ⟨bHZ, 0, none⟩ (x) = X := ⟨_, rfl⟩
   have cHZ0 := HZ.out.2.1; clear cHA cHR cHZ
   have hg : W6.grownBy W7 (some bHZ) := by rw [← hWn]; exact grown_setCell _ _ _
   have hz : W7.heap.size = W6.heap.size := by rw [← hWn]; simp
   replace H := Lib.hid (show IsV W7 _ _ _ by rw [← hWn]; exact H.out.setw cHZ0 IOHZ.out NOHZ.out _)
   replace HT := Lib.hid (show TabAt W7 by rw [← hWn]; exact TabAt.setc HT.out cHZ0 IOHZ.out _)
   replace HA := Lib.hid (HA.out.grown hg (fun e => NEHAHZ.out (Option.some.inj e)))
   replace HR := Lib.hid (HR.out.grown hg (fun e => NEHRHZ.out (Option.some.inj e)))
   replace HX := Lib.hid (show IsV W7 _ _ _ by rw [← hWn]; exact HX.out.setw cHZ0 IOHZ.out NOHZ.out _)
   replace HZ := Lib.hid (show At1 W7 bHZ (x) by rw [← hWn]; exact HZ.out.set _)
   replace IOHZ : Hid (IsIface (x)) := Lib.hid (shx.out)
   replace HB := Lib.hid (show Below w.heap.size w W7 by rw [← hWn]; exact HB.out.setCell GEHZ.out _)
   replace HFR := Lib.hid (fun b h => HFR.out b (by rw [← hz]; exact h))
   have cHA := HA.out.2.1; have cHR := HR.out.2.1; have cHZ := HZ.out.2.1; rw [hWn]; clear hWn hg hz cHZ0
   refine hK.out _ _ ⟨cHA, cHR⟩ (fun hHeld => ?_)
   clear hK K; apply tk 9
   refine wpAnyH_done (by kernel_rfl) ?_ _
   clear hHeld; have fHR := HR.out.2.2 0
   go_wp2
   refine bodyPost_ret (v := .agg #[x]) (by simp [results, Tryz.results42, go_sem, cHR]) rfl ⟨x, rfl, (HX.out.setw cHR IOHR.out NOHR.out _).nbw (fun b _ h => HOKP.out b h), HB.out.setCell GEHR.out _⟩
  exact AllReadyH.nil
 refine AllReadyH.cons (o := _) rfl (fun K hK => ?_) ?_
 ·clear hHeld; go_simp
  obtain ⟨W4, hWn⟩ : ∃ X, (W3.alloc (.cells #[.nilIface] 36)) = X := ⟨_, rfl⟩
  have hB : Below W3.heap.size W3 W4 := by rw [← hWn]; exact below_new _ _
  obtain ⟨bHZ, hbHZ⟩ : ∃ x, W3.heap.size = x := ⟨_, rfl⟩
  have hla : W3.heap.size ≤ bHZ := by omega
  have hlb : bHZ < W4.heap.size := by rw [← hWn]; simp; try omega
  have HZ := Lib.hid (show At1 W4 bHZ (.nilIface) by rw [← hWn, ← hbHZ]; exact At1.new _ (.nilIface) 36)
  clear cHA cHR
  have NEHAHZ := Lib.hid (show w.heap.size ≠ bHZ by have := HA.out.1; omega)
  have NEHRHZ := Lib.hid (show W1.heap.size ≠ bHZ by have := HR.out.1; omega)
  have GEHZ := Lib.hid (show w.heap.size ≤ bHZ from Nat.le_trans HB.out.size hla)
  obtain ⟨ok3, o1, o2, o3, o4⟩ := ok_step ok2 W3.heap.size bHZ W4.heap.size HFR.out hla hlb
  replace HOKP := Lib.hid (fun b h => HOKP.out b (o1 b h))
  replace HFR := Lib.hid o3
  replace NOHA := Lib.hid (fun h => NOHA.out (o1 _ h))
  replace NOHR := Lib.hid (fun h => NOHR.out (o1 _ h))
  replace H := Lib.hid ((H.out.nbw (fun b hb h => o2 b hb h)).grow hB)
  replace HT := HT.go hB; replace HA := HA.go hB; replace HR := HR.go hB; replace HB := cb hB HB; have NOHZ := Lib.hid o4; clear o1 o2 o3 o4; clear hla hlb hB
  have IOHZ : Hid (IsIface (.nilIface)) := Lib.hid (.inl rfl)
  have cHA := HA.out.2.1; have cHR := HR.out.2.1; have cHZ := HZ.out.2.1
  rw [hWn, hbHZ]
  clear hWn hbHZ
  refine hK.out _ _ ⟨cHA, cHR⟩ (fun hHeld => ?_)
  clear hK K
  apply rdy 2; intro K hK; clear hHeld; go_simp
  refine (least_calls _ _ _ H.out HOK.out HN.out HT.out).mono ?_
  clear cHA cHR cHZ
  rintro e W5 ⟨rfl, hB⟩
  replace H := H.go hB; replace HT := HT.go hB; replace HA := HA.go hB; replace HR := HR.go hB; replace HZ := HZ.go hB; replace HB := cb hB HB
  replace HFR := Lib.hid (fun b h => HFR.out b (Nat.le_trans hB.size h))
  rw [HL.out]; clear hB; have cHA := HA.out.2.1; have cHR := HR.out.2.1; have cHZ := HZ.out.2.1
  refine hK.out _ _ ⟨cHA, cHR⟩ (fun hHeld => ?_)
  clear hK K
  apply rdy 3; intro K hK; clear hHeld; go_simp
  refine (sinto_calls _ _ _ _ H.out HOK.out HN.out HT.out).mono ?_
  clear cHA cHR cHZ
  rintro e W6 ⟨x, rfl, hu, hB⟩
  have stx := hu.store
  have shx := Lib.hid hu.shape
  have HX := Lib.hid (hu.nbw (ok' := ok3) (fun b _ h => h.elim id (HFR.out b)))
  clear hu; replace H := H.go hB; replace HT := HT.go hB; replace HA := HA.go hB; replace HR := HR.go hB; replace HZ := HZ.go hB; replace HB := cb hB HB
  replace HFR := Lib.hid (fun b h => HFR.out b (Nat.le_trans hB.size h))
  rw [HF.out]
  rw [HS.out] at HX
  clear hB; have cHA := HA.out.2.1; have cHR := HR.out.2.1; have cHZ := HZ.out.2.1
  refine hK.out _ _ ⟨cHA, cHR⟩ (fun hHeld => ?_)
  clear hK K; apply tk 4; apply tk 5; apply tk 6
  apply rdy 8; intro K hK; clear hHeld; have fHZ := HZ.out.2.2 0; go_simp; clear fHZ
  obtain ⟨W7, hWn⟩ : ∃ X, W6.setCell ⟨bHZ, 0, none⟩ (x) = X := ⟨_, rfl⟩
  have cHZ0 := HZ.out.2.1; clear cHA cHR cHZ
  have hg : W6.grownBy W7 (some bHZ) := by rw [← hWn]; exact grown_setCell _ _ _
  have hz : W7.heap.size = W6.heap.size := by rw [← hWn]; simp
  replace H := Lib.hid (show IsV W7 _ _ _ by rw [← hWn]; exact H.out.setw cHZ0 IOHZ.out NOHZ.out _)
  replace HT := Lib.hid (show TabAt W7 by rw [← hWn]; exact TabAt.setc HT.out cHZ0 IOHZ.out _)
  replace HA := Lib.hid (HA.out.grown hg (fun e => NEHAHZ.out (Option.some.inj e)))
  replace HR := Lib.hid (HR.out.grown hg (fun e => NEHRHZ.out (Option.some.inj e)))
  replace HX := Lib.hid (show IsV W7 _ _ _ by rw [← hWn]; exact HX.out.setw cHZ0 IOHZ.out NOHZ.out _)
  replace HZ := Lib.hid (show At1 W7 bHZ (x) by rw [← hWn]; exact HZ.out.set _)
  replace IOHZ : Hid (IsIface (x)) := Lib.hid (shx.out)
  replace HB := Lib.hid (show Below w.heap.size w W7 by rw [← hWn]; exact HB.out.setCell GEHZ.out _)
  replace HFR := Lib.hid (fun b h => HFR.out b (by rw [← hz]; exact h))
  have cHA := HA.out.2.1; have cHR := HR.out.2.1; have cHZ := HZ.out.2.1; rw [hWn]; clear hWn hg hz cHZ0
  refine hK.out _ _ ⟨cHA, cHR⟩ (fun hHeld => ?_)
  clear hK K; apply tk 9
  refine wpAnyH_done (by kernel_rfl) ?_ _
  clear hHeld; have fHR := HR.out.2.2 0
  go_wp2
  refine bodyPost_ret (v := .agg #[x]) (by simp [results, Tryz.results42, go_sem, cHR]) rfl ⟨x, rfl, (HX.out.setw cHR IOHR.out NOHR.out _).nbw (fun b _ h => HOKP.out b h), HB.out.setCell GEHR.out _⟩
 exact AllReadyH.nil

set_option maxHeartbeats 4000000 in
theorem numbers_yes {ok : Nat → Prop} (v : Value) (l : List Nat) (w : World) (hv : Slc w ok v l.length (f64s l)) (hm : l.length ≤ 1048576) (hf : ∀ x ∈ l, Fnt x) (hT : TabAt w) :
  Calls Tryz.prog 22 #[v] w fun e w' => ∃ u', e = .returned (.tuple #[.agg #[u'], .bool true]) ∧ IsV w' ((VV.floats (l.map ze)).sq.nb (fun b => w.heap.size ≤ b)) u' (VV.floats (l.map ze)).sq ∧ Below w.heap.size w w' := by
 have HV := Lib.hid hv
 have HM := Lib.hid (show l.length ≤ 2000000 by omega)
 have HF := Lib.hid hf; have HT := Lib.hid hT
 have HOK : Hid ((VV.floats (l.map ze)).ok) := Lib.hid (show (l.map ze).length ≤ 1048576 by rw [List.length_map]; omega)
 have HN : Hid ((VV.floats (l.map ze)).nm) := Lib.hid (fun x hx => by obtain ⟨y, hy, rfl⟩ := List.mem_map.1 hx; exact Fl.ze_num (hf y hy))
 have HB := Lib.hid (Below.refl w.heap.size w)
 obtain ⟨ao, cap, rfl, _⟩ := hv.opened
 clear hv hm hf hT
 obtain ⟨ok0, hok0⟩ : ∃ o : Nat → Prop, o = fun b => w.heap.size ≤ b := ⟨_, rfl⟩
 have HOKP := Lib.hid (show ∀ b, ok0 b → w.heap.size ≤ b by rw [hok0]; exact fun b h => h)
 have HFR := Lib.hid (show ∀ b, w.heap.size ≤ b → ok0 b by rw [hok0]; exact fun b h => h)
 clear hok0
 obtain ⟨W1, hWn⟩ : ∃ X, (w.alloc (.cells #[.nilIface] 36)) = X := ⟨_, rfl⟩
 have hB : Below w.heap.size w W1 := by rw [← hWn]; exact below_new _ _
 have hla : w.heap.size ≤ w.heap.size := by omega
 have hlb : w.heap.size < W1.heap.size := by rw [← hWn]; simp; try omega
 have HR := Lib.hid (show At1 W1 w.heap.size (.nilIface) by rw [← hWn]; exact At1.new _ (.nilIface) 36)
 have GEHR := Lib.hid (show w.heap.size ≤ w.heap.size from Nat.le_trans HB.out.size hla)
 obtain ⟨ok1, o1, o2, o3, o4⟩ := ok_step ok0 w.heap.size w.heap.size W1.heap.size HFR.out hla hlb
 replace HOKP := Lib.hid (fun b h => HOKP.out b (o1 b h))
 replace HFR := Lib.hid o3
 replace HT := HT.go hB; replace HV := HV.go hB; replace HB := cb hB HB; have NOHR := Lib.hid o4; clear o1 o2 o3 o4; clear hla hlb hB
 have IOHR : Hid (IsIface (.nilIface)) := Lib.hid (.inl rfl)
 have cHR := HR.out.2.1
 
 have hE0 := hWn
 clear hWn
 go_enter Tryz.func22, Tryz.ntmps22
 go_wp2_with fail
 clear hE0
 refine (vfloats_yes _ l _ HV.out HM.out HF.out).mono ?_
 clear cHR
 rintro e W2 ⟨u, rfl, hu0, hB⟩
 have hu := hu0.nbk (ok' := fun b => ok1 b ∨ W1.heap.size ≤ b) (fun b _ h => .inr h)
 clear hu0
 have stu := hu.store
 have shu := Lib.hid hu.shape
 have HU := Lib.hid (hu.nbw (ok' := ok1) (fun b _ h => h.elim id (HFR.out b)))
 clear hu; replace HT := HT.go hB; replace HV := HV.go hB; replace HR := HR.go hB; replace HB := cb hB HB
 replace HFR := Lib.hid (fun b h => HFR.out b (Nat.le_trans hB.size h))
 clear hB; have cHR := HR.out.2.1
 obtain ⟨W3, hWn⟩ : ∃ X, (W2.alloc (.cells #[u] 36)) = X := ⟨_, rfl⟩
 have hB : Below W2.heap.size W2 W3 := by rw [← hWn]; exact below_new _ _
 have hla : W2.heap.size ≤ W2.heap.size := by omega
 have hlb : W2.heap.size < W3.heap.size := by rw [← hWn]; simp; try omega
 have HZ := Lib.hid (show At1 W3 W2.heap.size (u) by rw [← hWn]; exact At1.new _ (u) 36)
 clear cHR
 have NEHRHZ := Lib.hid (show w.heap.size ≠ W2.heap.size by have := HR.out.1; omega)
 have GEHZ := Lib.hid (show w.heap.size ≤ W2.heap.size from Nat.le_trans HB.out.size hla)
 obtain ⟨ok2, o1, o2, o3, o4⟩ := ok_step ok1 W2.heap.size W2.heap.size W3.heap.size HFR.out hla hlb
 replace HOKP := Lib.hid (fun b h => HOKP.out b (o1 b h))
 replace HFR := Lib.hid o3
 replace NOHR := Lib.hid (fun h => NOHR.out (o1 _ h))
 replace HT := HT.go hB; replace HV := HV.go hB; replace HR := HR.go hB
 replace HU := Lib.hid ((HU.out.nbw (fun b hb h => o2 b hb h)).grow hB)
 replace HB := cb hB HB; have NOHZ := Lib.hid o4; clear o1 o2 o3 o4; clear hla hlb hB
 have IOHZ : Hid (IsIface (u)) := Lib.hid (shu.out)
 have cHR := HR.out.2.1; have cHZ := HZ.out.2.1
 
 have hE1 := hWn
 clear hWn
 go_wp2_with fail
 clear hE1
 refine (squeeze_calls _ _ _ HU.out HOK.out HN.out HT.out).mono ?_
 clear cHR cHZ
 rintro e W4 ⟨x, rfl, hu, hB⟩
 have stx := hu.store
 have shx := Lib.hid hu.shape
 have HX := Lib.hid (hu.nbw (ok' := ok2) (fun b _ h => h.elim id (HFR.out b)))
 clear hu; replace HT := HT.go hB; replace HV := HV.go hB; replace HR := HR.go hB; replace HU := HU.go hB; replace HZ := HZ.go hB; replace HB := cb hB HB
 replace HFR := Lib.hid (fun b h => HFR.out b (Nat.le_trans hB.size h))
 clear hB; have cHR := HR.out.2.1; have cHZ := HZ.out.2.1; have fHR := HR.out.2.2 0
 go_wp2
 refine bodyPost_ret (v := .tuple #[.agg #[x], .bool true]) (by simp [results, Tryz.results22, go_sem, cHR]) rfl ⟨x, rfl, (HX.out.setw cHR IOHR.out NOHR.out _).nbw (fun b _ h => HOKP.out b h), HB.out.setCell GEHR.out _⟩

set_option maxHeartbeats 4000000 in
theorem numbers_no {ok : Nat → Prop} (v : Value) (l : List Nat) (w : World) (hv : Slc w ok v l.length (f64s l)) (hm : l.length ≤ 1048576) (hw : ∀ x ∈ l, x < 18446744073709551616) (hf : ∃ x ∈ l, ¬ Fnt x) :
  Calls Tryz.prog 22 #[v] w fun e w' => e = .returned (.tuple #[.agg #[.nilIface], .bool false]) ∧ Below w.heap.size w w' := by
 have HV := Lib.hid hv
 have HM := Lib.hid (show l.length ≤ 2000000 by omega)
 have HF := Lib.hid hf; have HW := Lib.hid hw
 have HB := Lib.hid (Below.refl w.heap.size w)
 obtain ⟨ao, cap, rfl, _⟩ := hv.opened
 clear hv hm hf hw
 obtain ⟨W1, hWn⟩ : ∃ X, (w.alloc (.cells #[.nilIface] 36)) = X := ⟨_, rfl⟩
 have hB : Below w.heap.size w W1 := by rw [← hWn]; exact below_new _ _
 have hla : w.heap.size ≤ w.heap.size := by omega
 have hlb : w.heap.size < W1.heap.size := by rw [← hWn]; simp; try omega
 have HR := Lib.hid (show At1 W1 w.heap.size (.nilIface) by rw [← hWn]; exact At1.new _ (.nilIface) 36)
 have GEHR := Lib.hid (show w.heap.size ≤ w.heap.size from Nat.le_trans HB.out.size hla)
 replace HV := HV.go hB; replace HB := cb hB HB; clear hla hlb hB
 have IOHR : Hid (IsIface (.nilIface)) := Lib.hid (.inl rfl)
 have cHR := HR.out.2.1
 
 have hE0 := hWn
 clear hWn
 go_enter Tryz.func22, Tryz.ntmps22
 go_wp2_with fail
 clear hE0
 refine (vfloats_no _ l _ HV.out HM.out HW.out HF.out).mono ?_
 clear cHR
 rintro e W2 ⟨u, rfl, hu, hB⟩
 replace HV := HV.go hB; replace HR := HR.go hB; replace HB := cb hB HB
 have stu := hu.store
 have shu := Lib.hid hu.shape; clear hu; clear hB; have cHR := HR.out.2.1
 obtain ⟨W3, hWn⟩ : ∃ X, (W2.alloc (.cells #[u] 36)) = X := ⟨_, rfl⟩
 have hB : Below W2.heap.size W2 W3 := by rw [← hWn]; exact below_new _ _
 have hla : W2.heap.size ≤ W2.heap.size := by omega
 have hlb : W2.heap.size < W3.heap.size := by rw [← hWn]; simp; try omega
 have HZ := Lib.hid (show At1 W3 W2.heap.size (u) by rw [← hWn]; exact At1.new _ (u) 36)
 clear cHR
 have NEHRHZ := Lib.hid (show w.heap.size ≠ W2.heap.size by have := HR.out.1; omega)
 have GEHZ := Lib.hid (show w.heap.size ≤ W2.heap.size from Nat.le_trans HB.out.size hla)
 replace HV := HV.go hB; replace HR := HR.go hB; replace HB := cb hB HB; clear hla hlb hB
 have IOHZ : Hid (IsIface (u)) := Lib.hid (shu.out)
 have cHR := HR.out.2.1; have cHZ := HZ.out.2.1
 
 have hE1 := hWn
 clear hWn; have fHR := HR.out.2.2 0
 go_wp2
 clear hE1
 refine bodyPost_ret (v := .tuple #[.agg #[.nilIface], .bool false]) (by simp [results, Tryz.results22, go_sem, cHR]) rfl ⟨rfl, HB.out.setCell GEHR.out _⟩
end Go.Proofs.YtbdhibcbpgjbmaaGreatDoor

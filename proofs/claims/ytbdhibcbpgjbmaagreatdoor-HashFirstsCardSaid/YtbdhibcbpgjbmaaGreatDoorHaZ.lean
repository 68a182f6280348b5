/- Layer 19: what package hash tells. Written by tools/gen_haz.py. -/
import Derived.Test.YtbdhibcbpgjbmaaGreatDoorHaM
import Derived.Test.YtbdhibcbpgjbmaaGreatDoorHaU
import Derived.Test.YtbdhibcbpgjbmaaGreatDoorHaV
namespace Go.Proofs.YtbdhibcbpgjbmaaGreatDoor
set_option maxRecDepth 100000
open Go.RowKit Fl
set_option linter.unusedVariables false

/-- A vector that the laws of layer 19 hand in. -/
def hG (A : VV) : Prop := gV 39 A ∧ (∀ z ∈ A.text, -2147483648 ≤ z ∧ z ≤ 2147483647)
/-- A vector whose elements have keys: in any kind that its numbers fit. -/
def hK (A : VV) : Prop := (A.ok ∧ A.nm) ∧ A.kind ≠ 0 ∧ (∀ a ∈ A.boxs, gA 39 a) ∧ (∀ z ∈ A.text, -2147483648 ≤ z ∧ z ≤ 2147483647)
theorem hG.key {A : VV} (h : hG A) : hK A := ⟨⟨h.1.1, h.1.2.1⟩, gV_kind h.1, h.1.2.2.2, h.2⟩
theorem hG.vec {A : VV} (h : hG A) : HV19 A := ⟨h.1.1, h.1.2.1, h.1.2.2.2⟩
noncomputable def hkF : PI → Nat := kH
theorem hkey_calls {ok : Nat → Prop} (u : Value) (A : VV) (i : Nat) (w : World) (h : IsV w ok u A) (hA : hK A) (hi : i < A.len) (hT : TabAt w) :
  Calls Tryz.prog 24 #[.agg #[u], .int .i64 (i : Int)] w fun e w' => e = .returned (.int .u64 (hkF (itA (plA 39) A i) : Int)) ∧ Below w.heap.size w w' :=
 hkey39 u A i w ⟨hA.1.1, hA.1.2, hA.2.2.1⟩ hi h
theorem hfind_calls {ok ok2 : Nat → Prop} (u u2 : Value) (A B : VV) (w : World) (h : IsV w ok u A) (hA : hG A) (h2 : IsV w ok2 u2 B) (hB : hG B) (hT : TabAt w) :
  Calls Tryz.prog 12 #[.agg #[u], .agg #[u2]] w fun e w' => ∃ v, e = .returned v ∧ Slc w' (fun b => w.heap.size ≤ b) v B.len (ints (zL ((itsA 39 B).map (fndI (itsA 39 A))))) ∧ Below w.heap.size w w' := hfind_of u u2 A B w h hA.vec h2 hB.vec
theorem hhas_calls {ok ok2 : Nat → Prop} (u u2 : Value) (A B : VV) (w : World) (h : IsV w ok u A) (hA : hG A) (h2 : IsV w ok2 u2 B) (hB : hG B) (hT : TabAt w) :
  Calls Tryz.prog 14 #[.agg #[u], .agg #[u2]] w fun e w' => ∃ v, e = .returned v ∧ Slc w' (fun b => w.heap.size ≤ b) v B.len (bools ((itsA 39 B).map (fun x => decide (fndI (itsA 39 A) x < A.len)))) ∧ Below w.heap.size w w' := hhas_of u u2 A B w h hA.vec h2 hB.vec
theorem hfirsts_calls {ok : Nat → Prop} (u : Value) (A : VV) (w : World) (h : IsV w ok u A) (hA : hG A) (hT : TabAt w) :
  Calls Tryz.prog 18 #[.agg #[u]] w fun e w' => ∃ v, e = .returned v ∧ Slc w' (fun b => w.heap.size ≤ b) v (frsL (itsA 39 A)).length (ints (zL (frsL (itsA 39 A)))) ∧ Below w.heap.size w w' := hfirsts_of u A w h hA.vec
theorem frsL_len19 (l : List PI) : (frsL l).length ≤ l.length := by
 have := fstL_len l l.length
 rw [fstL_all] at this
 exact this
set_option maxHeartbeats 8000000 in
theorem hunique_calls {ok : Nat → Prop} (u : Value) (A : VV) (w : World) (h : IsV w ok u A) (hA : hG A) (hT : TabAt w) :
  Calls Tryz.prog 20 #[.agg #[u]] w fun e w' => ∃ u', e = .returned (.agg #[u']) ∧ IsV w' (fun b => (ok b ∧ b < w.heap.size) ∨ w.heap.size ≤ b) u' (A.sel (zL (frsL (itsA 39 A)))) ∧ Below w.heap.size w w' := by
 have hsu := h.store
 obtain ⟨W1, hW1⟩ : ∃ W1, (w.alloc (.cells #[u] 36)).alloc (.cells #[.nilIface] 36) = W1 := ⟨_, rfl⟩
 have HV := Lib.hid (show At1 W1 w.heap.size u by rw [← hW1]; exact (At1.new _ _ _).below (below_new _ _))
 have HR := Lib.hid (show At1 W1 (w.heap.size + 1) .nilIface by rw [← hW1]; have := At1.new (w.alloc (.cells #[u] 36)) .nilIface 36; simpa using this)
 have HB := Lib.hid (show Below w.heap.size w W1 by rw [← hW1]; exact (below_new _ _).alloc (by simp) _)
 have HW1 := Lib.hid (Below.refl W1.heap.size W1)
 have HSZ := Lib.hid (show W1.heap.size = w.heap.size + 2 by rw [← hW1]; simp)
 have HU := Lib.hid (show IsV W1 (fun b => ok b ∧ b < w.heap.size) u A from h.lt.grow HB.out)
 have HT := Lib.hid (show TabAt W1 from fun j hj => keep_below HB.out _ _ (hT j hj))
 have HA := Lib.hid hA
 have HAL := Lib.hid (VV.ok_len hA.1.1)
 have HIL := Lib.hid (itsA_len 39 A)
 clear h hA hT
 go_enter Tryz.func20, Tryz.ntmps20
 go_wp2_with fail
 clear hW1
 obtain ⟨W11, hWD, hB⟩ := drwn W1
 replace HV := HV.go hB; replace HR := HR.go hB; replace HB := cb hB HB; replace HW1 := cb hB HW1; replace HU := HU.go hB; replace HT := HT.go hB; clear hB
 refine rgn (S := fun w' => w'.cell? ⟨w.heap.size, 0, none⟩ = some (u)) hWD HV.out.2.1 (fun hHeld => ?_)
 clear hWD; apply tk 0; apply tk 1
 apply rdy 2; intro K hK; clear hHeld; go_simp
 refine (hfirsts_calls _ A _ HU.out HA.out HT.out).mono ?_
 rintro e W12 ⟨vf, rfl, hvf, hB⟩
 replace HV := HV.go hB; replace HR := HR.go hB; replace HB := cb hB HB; replace HW1 := cb hB HW1; replace HU := HU.go hB; replace HT := HT.go hB; have HF := Lib.hid hvf; clear hvf; clear hB
 try go_simp
 refine hK.out _ _ HV.out.2.1 (fun hHeld => ?_)
 clear hK K
 apply rdy 3; intro K hK; clear hHeld; go_simp; have HW1B := Lib.hid HW1.out.size
 refine (hchosen_calls _ A _ (frsL (itsA 39 A)) _ HU.out ⟨HA.out.1.1, HA.out.1.2.1⟩ HF.out (by have h1 := frsL_len19 (itsA 39 A); have h2 := HAL.out; have h3 := HIL.out; omega) (fun x hx => by have h1 := frsL_lt x hx; have h3 := HIL.out; omega) HT.out).mono ?_
 rintro e W13 ⟨uq, rfl, huq, hB⟩
 replace HV := HV.go hB; replace HR := HR.go hB; replace HB := cb hB HB; replace HW1 := cb hB HW1; replace HU := HU.go hB; replace HT := HT.go hB; replace HF := HF.go hB
 obtain ⟨OKQ, hok⟩ : ∃ o : Nat → Prop, o = fun b => (ok b ∧ b < w.heap.size) ∨ w.heap.size + 1 < b := ⟨_, rfl⟩
 have HOQ := Lib.hid hok
 have HQ := Lib.hid (show IsV W13 OKQ uq (A.sel (zL (frsL (itsA 39 A)))) from huq.wide (fun b _ h => by
  have h1 := HW1B.out; have h3 := HSZ.out; rw [HOQ.out]
  rcases h with ⟨h, _⟩ | h
  ·exact Or.inl h
  ·exact Or.inr (by omega)))
 have hsq := huq.store; clear huq hok; clear hB; have s0 := HR.out.2.1; have t0 := HR.out.2.2 0
 try go_simp
 refine hK.out _ _ HV.out.2.1 (fun hHeld => ?_)
 clear hK K
 apply rdy 4; intro K hK; clear hHeld; go_simp; clear s0 t0
 obtain ⟨W70, hWn⟩ : ∃ xw9, W13.setCell ⟨w.heap.size + 1, 0, none⟩ uq = xw9 := ⟨_, rfl⟩
 rw [hWn]
 replace HR := Lib.hid (show At1 W70 (w.heap.size + 1) uq by rw [← hWn]; exact At1.put1 HR.out _)
 replace HB := Lib.hid (show Below w.heap.size w W70 by rw [← hWn]; exact HB.out.setCell (Nat.le_add_right _ _) _)
 replace HQ := Lib.hid (show IsV W70 OKQ uq (A.sel (zL (frsL (itsA 39 A)))) by rw [← hWn]; exact HQ.out.keep (Kept.setCell _ _ _ (by rw [HOQ.out]; simp)) (fun _ _ h => h))
 replace HV := Lib.hid (show At1 W70 w.heap.size u by rw [← hWn]; exact HV.out.grown (grown_setCell _ ⟨w.heap.size + 1, 0, none⟩ _) (by simp))
 clear hWn
 try go_simp
 refine hK.out _ _ HV.out.2.1 (fun hHeld => ?_)
 clear hK K
 refine wpAnyH_done (by kernel_rfl) ?_ _
 clear hHeld; have cHR0 := HR.out.2.1
 go_wp2
 refine bodyPost_ret (v := .agg #[uq]) (by simp [results, Tryz.results20, go_sem, cHR0]) rfl ⟨uq, rfl, ?_, HB.out⟩
 have := HQ.out
 rw [HOQ.out] at this
 exact this.wide (fun b _ h => h.imp id (fun h => by omega))
set_option maxHeartbeats 8000000 in
theorem hwithout_calls {ok ok2 : Nat → Prop} (u u2 : Value) (A B : VV) (keep : Bool) (w : World) (h : IsV w ok u A) (hA : hG A) (h2 : IsV w ok2 u2 B) (hB : hG B) (hT : TabAt w) :
  Calls Tryz.prog 21 #[.agg #[u], .agg #[u2], .bool keep] w fun e w' => ∃ u', e = .returned (.agg #[u']) ∧ IsV w' (fun b => (ok b ∧ b < w.heap.size) ∨ w.heap.size ≤ b) u' (A.sel (zL (witP (itsA 39 A) (itsA 39 B) keep))) ∧ Below w.heap.size w w' := by
 obtain ⟨i0, hi, hz0, hz1, hz2⟩ := info_parts info_int2
 have HI0 := Lib.hid (And.intro hi (And.intro hz0 (And.intro hz1 hz2)))
 have hsu := h.store; have hsu2 := h2.store
 obtain ⟨W1, hW1⟩ : ∃ W1, ((w.alloc (.cells #[u] 36)).alloc (.cells #[u2] 36)).alloc (.cells #[.nilIface] 36) = W1 := ⟨_, rfl⟩
 have hb1 : Below w.heap.size w (w.alloc (.cells #[u] 36)) := below_new _ _
 have hb2 : Below w.heap.size w ((w.alloc (.cells #[u] 36)).alloc (.cells #[u2] 36)) := hb1.alloc (by simp) _
 have HV := Lib.hid (show At1 W1 w.heap.size u by rw [← hW1]; exact ((At1.new _ _ _).below (below_new _ _)).below (below_new _ _))
 have HV2 := Lib.hid (show At1 W1 (w.heap.size + 1) u2 by rw [← hW1]; have := (At1.new (w.alloc (.cells #[u] 36)) u2 36).below (below_new _ (.cells #[.nilIface] 36)); simpa using this)
 have HR := Lib.hid (show At1 W1 (w.heap.size + 1 + 1) .nilIface by rw [← hW1]; have := At1.new ((w.alloc (.cells #[u] 36)).alloc (.cells #[u2] 36)) .nilIface 36; simpa using this)
 have HB := Lib.hid (show Below w.heap.size w W1 by rw [← hW1]; exact hb2.alloc (by simp; omega) _)
 have HSZ := Lib.hid (show W1.heap.size = w.heap.size + 3 by rw [← hW1]; simp)
 have HU := Lib.hid (show IsV W1 (fun b => ok b ∧ b < w.heap.size) u A from h.lt.grow HB.out)
 have HU2 := Lib.hid (h2.grow HB.out)
 have HT := Lib.hid (show TabAt W1 from fun j hj => keep_below HB.out _ _ (hT j hj))
 have HA := Lib.hid hA; have HBG := Lib.hid hB
 obtain ⟨n, hn⟩ : ∃ n, A.len = n := ⟨_, rfl⟩
 have HN := Lib.hid hn
 have HNM := Lib.hid (show n ≤ 1048576 by rw [← hn]; exact VV.ok_len hA.1.1)
 obtain ⟨bl, hbl⟩ : ∃ bl, (itsA 39 A).map (fun x => decide (fndI (itsA 39 B) x < B.len)) = bl := ⟨_, rfl⟩
 have HBL := Lib.hid hbl
 have HBN := Lib.hid (show bl.length = n by rw [← hbl, List.length_map, itsA_len, hn])
 obtain ⟨F, hF⟩ : ∃ F : Nat → List Nat, ∀ k, F k = (List.range k).filter (fun (i : Nat) => decide (fndI (itsA 39 B) (atI (itsA 39 A) (blankI 0) (i : Int)) < (itsA 39 B).length) == keep) := ⟨_, fun _ => rfl⟩
 have HF0 := Lib.hid (show F 0 = [] by rw [hF]; rfl)
 have HFN := Lib.hid (show F n = witP (itsA 39 A) (itsA 39 B) keep by rw [hF, ← hn, ← itsA_len 39 A]; rfl)
 have HFL := Lib.hid (show ∀ k, (F k).length ≤ k from fun k => by
  rw [hF]
  have := List.length_filter_le (fun (i : Nat) => decide (fndI (itsA 39 B) (atI (itsA 39 A) (blankI 0) (i : Int)) < (itsA 39 B).length) == keep) (List.range k)
  rwa [List.length_range] at this)
 have HFS := Lib.hid (show ∀ k b, bl[k]? = some b → F (k + 1) = F k ++ (if b == keep then [k] else []) from fun k b hb => by
  rw [hF, hF, filter_range_snoc]
  have hk : k < A.len := by
   have := (List.getElem?_eq_some_iff.1 hb).1
   rw [← hbl, List.length_map, itsA_len] at this
   exact this
  rw [← hbl, List.getElem?_map] at hb
  rw [itsA_at hk] at hb
  have e : decide (fndI (itsA 39 B) (atI (itsA 39 A) (blankI 0) (k : Int)) < (itsA 39 B).length) = b := by
   rw [itH_at hk, itsA_len]; exact Option.some.inj hb
  rw [e])
 have cHV0 := HV.out.2.1; have cHV20 := HV2.out.2.1; have cHR0 := HR.out.2.1; have zHR0 := HR.out.2.2 0; clear h hA h2 hB hT hn hbl hF hi hz0 hz1 hz2 hb1 hb2
 go_enter Tryz.func21, Tryz.ntmps21
 go_wp2_with fail
 clear hW1
 refine (hhas_calls _ _ B A _ HU2.out HBG.out HU.out HA.out HT.out).mono ?_
 rintro e W2 ⟨v, rfl, hv, hB⟩
 rw [HBL.out, HN.out] at hv
 have HH := Lib.hid hv
 obtain ⟨ho, hc, rfl, _⟩ := hv.opened
 clear cHV0 cHV20 cHR0 zHR0 hv; have HZ := Lib.hid hB.size; replace HV := HV.go hB; replace HR := HR.go hB; replace HU := HU.go hB; replace HT := HT.go hB; replace HB := cb hB HB; clear hB
 go_wp2_with fail
 go_loopw [7, 14] (fun ov iv wr => ∃ k : Nat, k ≤ n ∧ iv = .int .i64 k ∧ wr.ownsRow W2.heap.size 3 1 ov (F k).length (ints (zL (F k))) ∧ Below W2.heap.size W2 wr) (fun _ iv _ => n - (intOf iv).toNat)
 case atStart => exact ⟨0, by omega, rfl, by rw [HF0.out]; exact World.ownsRow_nil _ _ _ _, Below.refl _ _⟩
 case round =>
  obtain ⟨k, hk, rfl, hown, hBq⟩ := hrel
  obtain ⟨vo, vc, rfl⟩ := owns_form hown
  have HO := Lib.hid hown; have HBQ := Lib.hid hBq; clear hown hBq
  by_cases hlt : k < n
  ·have hn9 := HNM.out
   obtain ⟨b, off, cap2, z, e9, hz, hcx⟩ := Slc.at_map Value.bool (l := bl) (by rw [HBN.out]; exact HH.out.below HBQ.out) k (by rw [HBN.out]; exact hlt)
   rw [HBN.out] at e9
   cases e9
   have HSN := Lib.hid (HFS.out k z hz)
   obtain ⟨c, hc⟩ : ∃ c, (F k).length = c := ⟨_, rfl⟩
   have HC := Lib.hid hc
   have HCK := Lib.hid (show c ≤ k by rw [← hc]; exact HFL.out k)
   rw [hc] at HO ⊢
   clear hc hz
   by_cases hzk : z = keep
   ·subst hzk
    have hme : (z == z) = true := by simp
    rw [hme, if_pos rfl] at HSN
    obtain ⟨W4, hW4⟩ : ∃ W4, W4 = wr.alloc (.cells #[.int .i64 (k : Int)] 3) := ⟨_, rfl⟩
    have HB4 := Lib.hid (show Below W2.heap.size W2 W4 by rw [hW4]; exact HBQ.out.alloc HBQ.out.size _)
    have HO4 := Lib.hid (show W4.ownsRow W2.heap.size 3 1 (.slice vo c vc) c (ints (zL (F k))) by rw [hW4]; exact HO.out.alloc _)
    have HN4 := Lib.hid (show ∀ j u, ([.int .i64 (k : Int)] : List Value)[j]? = some u → W4.cell? ((⟨wr.heap.size, 0, none⟩ : Addr).add j) = some u by rw [hW4]; exact cell_one_new _ _ _)
    have HSZ4 := Lib.hid HB4.out.size
    have HM1 := Lib.hid (show c + 1 ≤ maxLen by have := HCK.out; unfold maxLen; omega)
    have HM2 := Lib.hid (show (c + 1) * 8 ≤ 140737488355328 by have := HCK.out; omega)
    have hfold4 := hW4.symm
    clear hW4
    go_wp2_with (at_builtin; refine wpList_append_own _ rfl _ _ 22 rfl W2.heap.size 3 i0 (.int .i64 0) 1 8 Tryz.underlying22 HI0.out.1 HI0.out.2.1 HI0.out.2.2.1 HI0.out.2.2.2 rfl (by decide) _ _ _ rfl HO4.out ⟨wr.heap.size, 0, none⟩ 1 1 [.int .i64 (k : Int)] rfl rfl HN4.out (one_intV _) HM1.out HM2.out HSZ4.out ?_)
    intro v' w1 hown' hgrow _
    have HO1 := Lib.hid hown'
    have HB1 := Lib.hid (grown_below HB4.out HO4.out (Nat.le_refl _) HSZ4.out hgrow)
    clear hown' hgrow hfold4
    go_wp2
    go_roundw
    case rel =>
     refine ⟨k + 1, by omega, by go_num, ?_, HB1.out⟩
     rw [HSN.out, List.length_append, HC.out, zL_app19, ints_append2]
     exact HO1.out
    case measure => simp [intOf]; omega
   ·have hme : (z == keep) = false := by simpa using hzk
    rw [hme] at HSN
    have HS2 := Lib.hid (show F (k + 1) = F k by rw [HSN.out]; simp)
    clear HSN hzk
    go_wp2
    go_roundw
    case rel =>
     refine ⟨k + 1, by omega, by go_num, ?_, HBQ.out⟩
     rw [HS2.out, HC.out]
     exact HO.out
    case measure => simp [intOf]; omega
  ·have hkn : k = n := by omega
   have HWL := Lib.hid (show Slc wr (fun b => W2.heap.size ≤ b) (.slice vo (F k).length vc) (witP (itsA 39 A) (itsA 39 B) keep).length (ints (zL (witP (itsA 39 A) (itsA 39 B) keep))) by
    rw [hkn, HFN.out] at HO ⊢
    exact Slc.owned HO.out)
   have HLL := Lib.hid (show (witP (itsA 39 A) (itsA 39 B) keep).length ≤ 1048576 by rw [← HFN.out]; exact Nat.le_trans (HFL.out n) HNM.out)
   have HLT := Lib.hid (show ∀ x ∈ witP (itsA 39 A) (itsA 39 B) keep, x < A.len from fun x hx => by have := witP_lt x hx; rwa [itsA_len] at this)
   obtain ⟨R, hR⟩ : ∃ R, witP (itsA 39 A) (itsA 39 B) keep = R := ⟨_, rfl⟩
   rw [hR] at HWL HLL HLT
   have HRR := Lib.hid hR; clear hkn HO hR
   replace HV := Lib.hid (HV.out.below HBQ.out)
   replace HR := Lib.hid (HR.out.below HBQ.out)
   replace HU := Lib.hid (HU.out.grow HBQ.out)
   replace HT := Lib.hid (fun j hj => keep_below HBQ.out _ _ (HT.out j hj))
   replace HB := Lib.hid (HB.out.trans (HBQ.out.mono HB.out.size))
   have HZ3 := Lib.hid (show w.heap.size + 3 ≤ wr.heap.size by have h1 := HZ.out; have h2 := HSZ.out; have h3 := HBQ.out.size; omega)
   have cHV0 := HV.out.2.1
   go_wp2_with fail
   refine (hchosen_calls _ A _ R _ HU.out ⟨HA.out.1.1, HA.out.1.2.1⟩ HWL.out HLL.out HLT.out HT.out).mono ?_
   rintro e W5 ⟨uq, rfl, huq, hB⟩
   have hsq := huq.store
   obtain ⟨OKQ, hok⟩ : ∃ o : Nat → Prop, o = fun b => (ok b ∧ b < w.heap.size) ∨ w.heap.size + 1 + 1 < b := ⟨_, rfl⟩
   have HOQ := Lib.hid hok
   have HQ := Lib.hid (show IsV W5 OKQ uq (A.sel (zL R)) from huq.wide (fun b _ h => by
    have h1 := HZ3.out; rw [HOQ.out]
    rcases h with ⟨h, _⟩ | h
    ·exact Or.inl h
    ·exact Or.inr (by omega)))
   clear huq hok cHV0; replace HR := HR.go hB; replace HB := cb hB HB; clear hB; have cHR0 := HR.out.2.1; have zHR0 := HR.out.2.2 0
   go_wp2
   refine bodyPost_ret (v := .agg #[uq]) (by simp [results, Tryz.results21, go_sem, cHR0, World.cell?_setCell_same]) rfl ⟨uq, rfl, ?_, HB.out.setCell (show w.heap.size ≤ w.heap.size + 1 + 1 by omega) _⟩
   rw [HRR.out]
   have := HQ.out.keep (ok' := OKQ) (Kept.setCell _ ⟨w.heap.size + 1 + 1, 0, none⟩ uq (by rw [HOQ.out]; simp; intro _; omega)) (fun _ _ h => h)
   exact this.wide (fun b _ h => by rw [HOQ.out] at h; exact h.imp id (fun h => by omega))
end Go.Proofs.YtbdhibcbpgjbmaaGreatDoor

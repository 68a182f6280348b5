/- Layer 19, walked: found, Find, Has, Firsts. Written by tools/gen_hau.py. -/
import Derived.Test.YtbdhibcbpgjbmaaGreatDoorHaY
import Derived.Test.YtbdhibcbpgjbmaaGreatDoorFlS
import Derived.Test.YtbdhibcbpgjbmaaGreatDoorRxD
import Derived.Test.YtbdhibcbpgjbmaaGreatDoorBvP
namespace Go.Proofs.YtbdhibcbpgjbmaaGreatDoor
set_option maxRecDepth 100000
open Go.RowKit Fl
set_option linter.unusedVariables false

/-- What a table tells of an item: its first place, or none. -/
noncomputable def fndV (A : VV) (x : PI) : Int := if fndI (itsA 39 A) x < A.len then (fndI (itsA 39 A) x : Int) else -1
theorem itsA_at {B : VV} {k : Nat} (h : k < B.len) : (itsA 39 B)[k]? = some (itH B k) := itsA_get h

set_option maxHeartbeats 8000000 in
theorem hfound_calls {ok ok2 : Nat → Prop} (u u2 : Value) (A B : VV) (w : World) (h : IsV w ok u A) (hA : HV19 A) (h2 : IsV w ok2 u2 B) (hB : HV19 B) :
  Calls Tryz.prog 30 #[.agg #[u], .agg #[u2]] w fun e w' => ∃ g, e = .returned (.slice (some ⟨g, 0, none⟩) B.len B.len) ∧ w.heap.size ≤ g ∧ w'.ownsRow w.heap.size 3 1 (.slice (some ⟨g, 0, none⟩) B.len B.len) B.len (ints ((itsA 39 B).map (fndV A))) ∧ Below w.heap.size w w' := by
 have hsx := h.store; have hsx2 := h2.store
 obtain ⟨W1, hW1⟩ : ∃ W1, (w.alloc (.cells #[u] 36)).alloc (.cells #[u2] 36) = W1 := ⟨_, rfl⟩
 have HA := Lib.hid (show At1 W1 w.heap.size u by rw [← hW1]; exact (At1.new _ _ _).below (below_new _ _))
 have HA2 := Lib.hid (show At1 W1 (w.heap.size + 1) u2 by rw [← hW1]; have := At1.new (w.alloc (.cells #[u] 36)) u2 36; simpa using this)
 have HB := Lib.hid (show Below w.heap.size w W1 by rw [← hW1]; exact (below_new _ _).alloc (by simp) _)
 have HV := Lib.hid (h.grow HB.out)
 have HV2 := Lib.hid (h2.grow HB.out)
 have HK := Lib.hid (And.intro hA hB)
 obtain ⟨n, hn⟩ : ∃ n, A.len = n := ⟨_, rfl⟩
 have HN := Lib.hid hn
 have HNM := Lib.hid (show n ≤ 1048576 by rw [← hn]; exact VV.ok_len hA.1)
 obtain ⟨m, hm⟩ : ∃ m, B.len = m := ⟨_, rfl⟩
 have HM := Lib.hid hm
 have HMM := Lib.hid (show m ≤ 1048576 by rw [← hm]; exact VV.ok_len hB.1)
 rw [hm]
 obtain ⟨xs, hxs⟩ : ∃ xs : List Value, ints ((itsA 39 B).map (fndV A)) = xs := ⟨_, rfl⟩
 have HXL := Lib.hid (show xs.length = m by rw [← hxs]; simp [ints, itsA_len, HM.out])
 have HX := Lib.hid (show ∀ k (h : k < xs.length), xs[k] = .int .i64 (fndV A (itH B k)) by
  intro k hk
  have hkB : k < B.len := by rw [HM.out, ← HXL.out]; exact hk
  have e : xs[k]? = some (.int .i64 (fndV A (itH B k))) := by
   rw [← hxs]; unfold ints; rw [List.getElem?_map, List.getElem?_map, itsA_at hkB]; rfl
  rw [List.getElem?_eq_getElem hk] at e
  exact Option.some.inj e)
 rw [hxs]; clear hxs; clear h hA h2 hB hn hm
 go_enter Tryz.func30, Tryz.ntmps30
 go_wp2_with fail
 clear hW1
 obtain ⟨W11, hWD, hB⟩ := drwn W1
 replace HA := HA.go hB; replace HA2 := HA2.go hB; replace HB := cb hB HB; replace HV := HV.go hB; replace HV2 := HV2.go hB; clear hB
 refine rgn (S := fun w' => w'.cell? ⟨w.heap.size, 0, none⟩ = some (u) ∧ w'.cell? ⟨w.heap.size + 1, 0, none⟩ = some (u2)) hWD ⟨HA.out.2.1, HA2.out.2.1⟩ (fun hHeld => ?_)
 clear hWD; apply tk 0; apply tk 1
 apply rdy 2; intro K hK; clear hHeld; go_simp
 refine (vlen_calls _ A _ HV.out).mono ?_
 rintro e W12 ⟨rfl, hB⟩
 replace HA := HA.go hB; replace HA2 := HA2.go hB; replace HB := cb hB HB; replace HV := HV.go hB; replace HV2 := HV2.go hB; clear hB
 try go_simp
 refine hK.out _ _ ⟨HA.out.2.1, HA2.out.2.1⟩ (fun hHeld => ?_)
 clear hK K
 apply rdy 3; intro K hK; clear hHeld; go_simp
 have HA0 := HA
 have HV0 := HV
 have HB0 := HB
 have HA20 := HA2
 have HV20 := HV2
 refine (hnew_calls u A _ (by rw [HN.out]; exact HNM.out) HV.out).mono ?_
 rintro e W13 ⟨tb, sb, rfl, ht, hB⟩
 replace HA := HA.go hB; replace HA2 := HA2.go hB; replace HB := cb hB HB; replace HV := HV.go hB; replace HV2 := HV2.go hB; have HTM := Lib.hid ht; have HBT := Lib.hid hB; clear ht; clear hB
 try go_simp
 refine hK.out _ _ ⟨HA.out.2.1, HA2.out.2.1⟩ (fun hHeld => ?_)
 clear hK K; apply tk 4
 refine wpAnyH_done (by kernel_rfl) ?_ _
 clear hHeld; have cHA0 := HA.out.2.1; have cHA20 := HA2.out.2.1
 go_wp2_with fail
 refine (vlen_calls _ A _ HV.out).mono ?_
 rintro e W14 ⟨rfl, hB⟩
 clear cHA0 cHA20; replace HA := HA.go hB; replace HA2 := HA2.go hB; replace HB := cb hB HB; replace HV := HV.go hB; replace HV2 := HV2.go hB; replace HTM := HTM.go hB; replace HBT := cb hB HBT; rw [HN.out]; clear hB; have cHA0 := HA.out.2.1; have cHA20 := HA2.out.2.1
 go_wp2_with fail
 clear cHA0 cHA20
 go_loopw [15] (fun i wr => ∃ (j : Nat) (S : List (Nat × Int)), i = .int .i64 (j : Int) ∧ j ≤ n ∧ S.length = 2 * max n 1 ∧ TabM wr W12.heap.size tb sb u S (fstL (itsA 39 A) j).length ∧ HTab (itH A) kH A.len (fstL (itsA 39 A) j) S ∧ Below W12.heap.size W12 wr) (fun i _ => n - (intOf i).toNat)
 case atStart => exact ⟨0, _, rfl, by omega, by rw [List.length_replicate, HN.out], HTM.out, HTab.start _ _ _ _ (by omega), HBT.out⟩
 case round =>
  obtain ⟨j, S, rfl, hj, hSl, htm, hS, hBr⟩ := hrel
  have HJ := Lib.hid hj; have HSL := Lib.hid hSl
  have HSX := Lib.hid (show S.length ≤ 4000000 by have := HNM.out; omega)
  have HFL := Lib.hid (fstL_len (itsA 39 A) j)
  clear HA HA2 HV HV2 HB HTM HBT; have HTM := Lib.hid htm; have HS := Lib.hid hS; have HBT := Lib.hid hBr
  have HA := Lib.hid (HA0.out.below hBr)
  have HA2 := Lib.hid (HA20.out.below hBr)
  have HV := Lib.hid (HV0.out.grow hBr)
  have HV2 := Lib.hid (HV20.out.grow hBr)
  have HB := Lib.hid (HB0.out.trans (hBr.mono HB0.out.size))
  clear hj hSl htm hS hBr
  by_cases hlt : j < n
  ·have hn9 := HNM.out
   go_wp2_with fail
   refine (hput_calls j _ HTM.out HSX.out HS.out (by have := HFL.out; have := HSL.out; omega) (fun _ => by have := HFL.out; have := HSL.out; omega) HK.out.1 (by rw [HN.out]; exact hlt) HV.out HBT.out.size).mono ?_
   rintro e W40 ⟨r, rfl, hp, _, hBq⟩
   have HP := Lib.hid (put_next (by rw [HN.out]; exact hlt) HS.out hp)
   have HBQ := Lib.hid (HBT.out.trans hBq)
   clear hp hBq
   go_wp2_with fail
   go_roundw
   case rel =>
    obtain ⟨⟨S', h1, h2, h3⟩, _⟩ := HP.out
    exact ⟨j + 1, S', by go_num, by omega, by rw [h1]; exact HSL.out, h2, h3, HBQ.out⟩
   case measure => simp [intOf]; omega
  ·have hjl : j = n := by have := HJ.out; omega
   subst hjl
   have HNL := Lib.hid HN.out.symm; have cHA0 := HA.out.2.1; have cHA20 := HA2.out.2.1
   go_wp2_with fail
   refine (vlen_calls _ B _ HV2.out).mono ?_
   rintro e W61 ⟨rfl, hB⟩
   clear cHA0 cHA20; replace HA := HA.go hB; replace HA2 := HA2.go hB; replace HB := cb hB HB; replace HV := HV.go hB; replace HV2 := HV2.go hB; replace HTM := HTM.go hB; rw [HM.out]; clear hB; have cHA0 := HA.out.2.1; have cHA20 := HA2.out.2.1; clear cHA0 cHA20
   have hmk := run_mkI2 m (by have := HMM.out; omega) W61
   obtain ⟨W80, hW80⟩ : ∃ W80, W80 = W61.alloc (.cells (zerosV (.int .i64 0) m) 3) := ⟨_, rfl⟩
   have HO0 := Lib.hid (show W80.ownsRow W61.heap.size 3 1 (.slice (some ⟨W61.heap.size, 0, none⟩) m m) m (List.replicate m (.int .i64 0)) by rw [hW80]; exact own_make1 _ _ _ (by have := HMM.out; omega) _ _ (Nat.le_refl _))
   have HW := Lib.hid (show Below W61.heap.size W61 W80 by rw [hW80]; exact below_new _ _)
   obtain ⟨g, hg⟩ : ∃ g, W61.heap.size = g := ⟨_, rfl⟩
   rw [hg] at HO0 HW
   have HG := Lib.hid hg
   go_wp2_with fail
   rw [← hW80]
   clear hW80 hmk
   (try rw [hg])
   clear hg
   go_wp2_with fail
   go_loopw [27] (fun i wr => ∃ k : Nat, k ≤ m ∧ i = .int .i64 k ∧ wr.ownsRow g 3 1 (.slice (some ⟨g, 0, none⟩) m m) m (fillTo xs (.int .i64 0) k) ∧ Below g W61 wr) (fun i _ => m - (intOf i).toNat)
   case atStart => exact ⟨0, by omega, rfl, by rw [fillTo_zero, HXL.out]; exact HO0.out, HW.out⟩
   case round =>
    obtain ⟨k, hk, rfl, hown, hBq⟩ := hrel
    clear HO0 HW; have HO := Lib.hid hown; have HBQ := Lib.hid hBq
    have hBw : Below W61.heap.size W61 wr := by rw [HG.out]; exact hBq
    clear hown hBq
    by_cases hlt2 : k < m
    ·have HA2q := Lib.hid (HA2.out.below hBw)
     have HVq := Lib.hid (HV.out.grow hBw)
     have HV2q := Lib.hid (HV2.out.grow hBw)
     have HTMq := Lib.hid (HTM.out.below hBw)
     have HXK := Lib.hid (HX.out k (by rw [HXL.out]; exact hlt2))
     have cHA20 := HA2q.out.2.1; have hm9 := HMM.out; clear hBw
     go_wp2_with fail
     refine (hget_calls k _ HTMq.out HSX.out HS.out (by have := HFL.out; have := HSL.out; omega) HK.out.1 HK.out.2 (by rw [HM.out]; exact hlt2) HVq.out HV2q.out).mono ?_
     rintro e W90 ⟨r, rfl, hr, hB⟩
     have HR := Lib.hid (get_val (by rw [HNL.out] at hr; exact hr))
     replace HO := Lib.hid (owns_below HO.out hB)
     have HGS := Lib.hid (show g ≤ wr.heap.size by have := HBQ.out.size; rw [HG.out] at this; exact this)
     replace HBQ := Lib.hid (HBQ.out.trans (hB.mono HGS.out))
     have hcw := owns_cell HO.out k (by rw [fillTo_len _ _ _ (by rw [HXL.out]; exact hk), HXL.out]; exact hlt2)
     have hfr := World.ownsRow.frozenAt HO.out k
     obtain ⟨old, hold⟩ : ∃ old, (fillTo xs (.int .i64 0) k)[k]'(by rw [fillTo_len _ _ _ (by rw [HXL.out]; exact hk), HXL.out]; exact hlt2) = old := ⟨_, rfl⟩
     rw [hold] at hcw
     clear hold hB hr cHA20
     go_wp2_with fail
     go_roundw
     case rel =>
      refine ⟨k + 1, by omega, by go_num, ?_, HBQ.out.setCell (Nat.le_refl _) _⟩
      have := (World.ownsRow.stored HO.out k (.int .i64 r)).1
      rw [show Value.int .i64 r = xs[k]'(by rw [HXL.out]; exact hlt2) by rw [HXK.out, HR.out]; rfl, fillTo_set] at this
      rw [show Value.int .i64 r = xs[k]'(by rw [HXL.out]; exact hlt2) by rw [HXK.out, HR.out]; rfl]
      exact this
     case measure => simp [intOf]; omega
    ·have hkl : k = m := by omega
     have HK2 := Lib.hid hkl; clear hkl hBw
     go_wp2_with fail
     go_ret
     have hsz : w.heap.size ≤ g := by rw [← HG.out]; exact HB.out.size
     refine ⟨g, rfl, hsz, ?_, HB.out.trans (by have := HBQ.out.mono hsz; exact this)⟩
     have := HO.out
     rw [HK2.out, ← HXL.out, fillTo_all, HXL.out] at this
     exact own_lower this hsz

/-- A row in the making: the first k of the one, the others of the other. -/
def mixT (L M : List Value) (k : Nat) : List Value := M.take k ++ L.drop k
theorem mixT_len {L M : List Value} (hl : L.length = M.length) (k : Nat) : (mixT L M k).length = M.length := by
 unfold mixT; rw [List.length_append, List.length_take, List.length_drop]; omega
theorem mixT_zero (L M : List Value) : mixT L M 0 = L := rfl
theorem mixT_all {L M : List Value} (hl : L.length = M.length) : mixT L M M.length = M := by
 unfold mixT; rw [List.take_length, List.drop_eq_nil_of_le (by omega), List.append_nil]
theorem mixT_at {L M : List Value} (hl : L.length = M.length) {k : Nat} (hk : k < M.length) : (mixT L M k)[k]? = L[k]? := by
 unfold mixT; rw [List.getElem?_append_right (by rw [List.length_take]; omega), List.getElem?_drop, List.length_take, Nat.min_eq_left (by omega), Nat.sub_self, Nat.add_zero]
theorem mixT_set {L M : List Value} (hl : L.length = M.length) {k : Nat} {x : Value} (hx : M[k]? = some x) : (mixT L M k).set k x = mixT L M (k + 1) := by
 obtain ⟨hk, e⟩ := List.getElem?_eq_some_iff.1 hx
 apply List.ext_getElem?
 intro j
 unfold mixT
 have l1 : (M.take k).length = k := by rw [List.length_take]; omega
 have l2 : (M.take (k + 1)).length = k + 1 := by rw [List.length_take]; omega
 rcases Nat.lt_trichotomy j k with h | h | h
 ·rw [List.getElem?_set_ne (by omega), List.getElem?_append_left (by omega), List.getElem?_append_left (by omega), List.getElem?_take, List.getElem?_take, if_pos h, if_pos (by omega)]
 ·subst h
  rw [List.getElem?_set_self (by rw [List.length_append, l1, List.length_drop]; omega), List.getElem?_append_left (by omega), List.getElem?_take, if_pos (by omega), hx]
 ·rw [List.getElem?_set_ne (by omega), List.getElem?_append_right (by omega), List.getElem?_append_right (by omega), List.getElem?_drop, List.getElem?_drop, l1, l2]
  congr 1; omega
theorem mixT_keep {L M : List Value} (hl : L.length = M.length) {k : Nat} {x : Value} (hx : M[k]? = some x) (hy : L[k]? = some x) : mixT L M k = mixT L M (k + 1) := by
 rw [← mixT_set hl hx]
 apply List.ext_getElem?
 intro j
 by_cases h : j = k
 ·subst h
  have hk := (List.getElem?_eq_some_iff.1 hx).1
  rw [List.getElem?_set_self (by rw [mixT_len hl]; exact hk), mixT_at hl hk, hy]
 ·rw [List.getElem?_set_ne (fun e => h e.symm)]
theorem Slc.kept19 {w w' : World} {c : Nat} {s : Value} {n : Nat} {xs : List Value} (h : Slc w (fun b => b ≠ c) s n xs) (hg : w.grownBy w' (some c)) : Slc w' (fun b => b ≠ c) s n xs :=
 h.keep (fun a v ho hv => hg.cell hv (by simpa using ho)) (fun _ _ h => h)
theorem fndV_yes {A : VV} {x : PI} (h : fndI (itsA 39 A) x < A.len) : fndV A x = (fndI (itsA 39 A) x : Int) := by unfold fndV; rw [if_pos h]
theorem fndV_no {A : VV} {x : PI} (h : ¬ fndI (itsA 39 A) x < A.len) : fndV A x = -1 ∧ fndI (itsA 39 A) x = A.len := by
 refine ⟨by unfold fndV; rw [if_neg h], ?_⟩
 have := fndI_le (itsA 39 A) x
 rw [itsA_len] at this
 omega

set_option maxHeartbeats 8000000 in
theorem hfind_of {ok ok2 : Nat → Prop} (u u2 : Value) (A B : VV) (w : World) (h : IsV w ok u A) (hA : HV19 A) (h2 : IsV w ok2 u2 B) (hB : HV19 B) :
  Calls Tryz.prog 12 #[.agg #[u], .agg #[u2]] w fun e w' => ∃ v, e = .returned v ∧ Slc w' (fun b => w.heap.size ≤ b) v B.len (ints (zL ((itsA 39 B).map (fndI (itsA 39 A))))) ∧ Below w.heap.size w w' := by
 have hsx := h.store; have hsx2 := h2.store
 obtain ⟨W1, hW1⟩ : ∃ W1, (w.alloc (.cells #[u] 36)).alloc (.cells #[u2] 36) = W1 := ⟨_, rfl⟩
 have HA := Lib.hid (show At1 W1 w.heap.size u by rw [← hW1]; exact (At1.new _ _ _).below (below_new _ _))
 have HA2 := Lib.hid (show At1 W1 (w.heap.size + 1) u2 by rw [← hW1]; have := At1.new (w.alloc (.cells #[u] 36)) u2 36; simpa using this)
 have HB := Lib.hid (show Below w.heap.size w W1 by rw [← hW1]; exact (below_new _ _).alloc (by simp) _)
 have HV := Lib.hid (h.grow HB.out)
 have HV2 := Lib.hid (h2.grow HB.out)
 have HK := Lib.hid (And.intro hA hB)
 obtain ⟨m, hm⟩ : ∃ m, B.len = m := ⟨_, rfl⟩
 have HM := Lib.hid hm
 have HMM := Lib.hid (show m ≤ 1048576 by rw [← hm]; exact VV.ok_len hB.1)
 obtain ⟨L, hL⟩ : ∃ L, ints ((itsA 39 B).map (fndV A)) = L := ⟨_, rfl⟩
 obtain ⟨M, hMd⟩ : ∃ M, ints (zL ((itsA 39 B).map (fndI (itsA 39 A)))) = M := ⟨_, rfl⟩
 have HLL := Lib.hid hL
 have HLM := Lib.hid (show L.length = M.length by rw [← hL, ← hMd]; simp [ints, zL])
 have HML := Lib.hid (show M.length = m by rw [← hMd]; simp [ints, zL, itsA_len, hm])
 have HLG := Lib.hid (show ∀ k, k < m → L[k]? = some (.int .i64 (fndV A (itH B k))) ∧ M[k]? = some (.int .i64 (fndI (itsA 39 A) (itH B k) : Int)) by
  intro k hk
  have hkB : k < B.len := by rw [hm]; exact hk
  rw [← hL, ← hMd]
  unfold ints zL
  rw [List.getElem?_map, List.getElem?_map, List.getElem?_map, List.getElem?_map, List.getElem?_map, itsA_at hkB]
  exact ⟨rfl, rfl⟩)
 have HNA := Lib.hid (VV.ok_len hA.1)
 rw [hm, hMd]
 have cHA0 := HA.out.2.1; have cHA20 := HA2.out.2.1; clear h hA h2 hB hm hL hMd
 go_enter Tryz.func12, Tryz.ntmps12
 go_wp2_with fail
 clear hW1
 refine (hfound_calls u u2 A B _ HV.out HK.out.1 HV2.out HK.out.2).mono ?_
 rintro e W2 ⟨g, rfl, hg, hown, hB⟩
 rw [HLL.out, HM.out] at hown
 rw [HM.out]; have HO0 := Lib.hid hown; have HGG := Lib.hid hg; have HB2 := Lib.hid hB; clear hown hg hB cHA0 cHA20
 go_wp2_with fail
 go_loopw [13] (fun i wr => ∃ k : Nat, k ≤ m ∧ i = .int .i64 k ∧ wr.ownsRow W1.heap.size 3 1 (.slice (some ⟨g, 0, none⟩) m m) m (mixT L M k) ∧ Below W1.heap.size W1 wr) (fun i _ => m - (intOf i).toNat)
 case atStart => exact ⟨0, by omega, rfl, HO0.out, HB2.out⟩
 case round =>
  obtain ⟨k, hk, rfl, hown, hBq⟩ := hrel
  clear HO0; have HO := Lib.hid hown; have HBQ := Lib.hid hBq
  have HAq := Lib.hid (HA.out.below hBq)
  have HVq := Lib.hid (HV.out.grow hBq)
  clear hown hBq
  by_cases hlt : k < m
  ·have hm9 := HMM.out
   obtain ⟨eL, eM⟩ := HLG.out k hlt
   obtain ⟨x, hx⟩ : ∃ x, itH B k = x := ⟨_, rfl⟩
   rw [hx] at eL eM
   have hln : (mixT L M k).length = m := by rw [mixT_len HLM.out, HML.out]
   have hcw := owns_cell HO.out k (by rw [hln]; exact hlt)
   have e9 : (mixT L M k)[k]'(by rw [hln]; exact hlt) = .int .i64 (fndV A x) := by
    have e8 := mixT_at HLM.out (show k < M.length by rw [HML.out]; exact hlt)
    rw [eL, List.getElem?_eq_getElem (by rw [hln]; exact hlt)] at e8
    exact Option.some.inj e8
   rw [e9] at hcw
   have hfr := World.ownsRow.frozenAt HO.out k
   have cHA0 := HAq.out.2.1; clear e9 hln hx
   by_cases hc : fndI (itsA 39 A) x < A.len
   ·have HKP := Lib.hid (mixT_keep HLM.out eM (by rw [eL, fndV_yes hc]))
    rw [fndV_yes hc] at hcw
    obtain ⟨p, hp⟩ : ∃ p, fndI (itsA 39 A) x = p := ⟨_, rfl⟩
    rw [hp] at hcw
    have hpm : ((p : Int) == -1) = false := by simp
    clear hc hp eL eM
    go_wp2_with fail
    go_roundw
    case rel => exact ⟨k + 1, by omega, by go_num, by rw [← HKP.out]; exact HO.out, HBQ.out⟩
    case measure => simp [intOf]; omega
   ·obtain ⟨h1, h2⟩ := fndV_no hc
    rw [h1] at hcw
    rw [h2] at eM
    have HST := Lib.hid (mixT_set HLM.out eM)
    clear hc h1 h2 eL eM
    go_wp2_with fail
    refine (vlen_calls _ A _ HVq.out).mono ?_
    rintro e W9 ⟨rfl, hB⟩
    clear hcw hfr cHA0
    replace HO := Lib.hid (owns_below HO.out hB)
    replace HBQ := cb hB HBQ
    have hcw := owns_cell HO.out k (by rw [mixT_len HLM.out, HML.out]; exact hlt)
    have hfr := World.ownsRow.frozenAt HO.out k
    obtain ⟨old, hold⟩ : ∃ old, (mixT L M k)[k]'(by rw [mixT_len HLM.out, HML.out]; exact hlt) = old := ⟨_, rfl⟩
    rw [hold] at hcw
    clear hold hB
    go_wp2_with fail
    go_roundw
    case rel =>
     refine ⟨k + 1, by omega, by go_num, ?_, HBQ.out.setCell HGG.out _⟩
     have := (World.ownsRow.stored HO.out k (.int .i64 (A.len : Int))).1
     rw [HST.out] at this
     exact this
    case measure => simp [intOf]; omega
  ·have hkl : k = m := by omega
   have HK2 := Lib.hid hkl; clear hkl
   go_wp2_with fail
   go_ret
   refine ⟨_, rfl, ?_, HB.out.trans (HBQ.out.mono HB.out.size)⟩
   have := Slc.owned (own_lower HO.out HB.out.size)
   rw [HK2.out, ← HML.out, mixT_all HLM.out, HML.out] at this
   exact this

set_option maxHeartbeats 8000000 in
theorem hhas_of {ok ok2 : Nat → Prop} (u u2 : Value) (A B : VV) (w : World) (h : IsV w ok u A) (hA : HV19 A) (h2 : IsV w ok2 u2 B) (hB : HV19 B) :
  Calls Tryz.prog 14 #[.agg #[u], .agg #[u2]] w fun e w' => ∃ v, e = .returned v ∧ Slc w' (fun b => w.heap.size ≤ b) v B.len (bools ((itsA 39 B).map (fun x => decide (fndI (itsA 39 A) x < A.len)))) ∧ Below w.heap.size w w' := by
 have hsx := h.store; have hsx2 := h2.store
 obtain ⟨W1, hW1⟩ : ∃ W1, (w.alloc (.cells #[u] 36)).alloc (.cells #[u2] 36) = W1 := ⟨_, rfl⟩
 have HA := Lib.hid (show At1 W1 w.heap.size u by rw [← hW1]; exact (At1.new _ _ _).below (below_new _ _))
 have HA2 := Lib.hid (show At1 W1 (w.heap.size + 1) u2 by rw [← hW1]; have := At1.new (w.alloc (.cells #[u] 36)) u2 36; simpa using this)
 have HB := Lib.hid (show Below w.heap.size w W1 by rw [← hW1]; exact (below_new _ _).alloc (by simp) _)
 have HV := Lib.hid (h.grow HB.out)
 have HV2 := Lib.hid (h2.grow HB.out)
 have HK := Lib.hid (And.intro hA hB)
 obtain ⟨m, hm⟩ : ∃ m, B.len = m := ⟨_, rfl⟩
 have HM := Lib.hid hm
 have HMM := Lib.hid (show m ≤ 1048576 by rw [← hm]; exact VV.ok_len hB.1)
 obtain ⟨L, hL⟩ : ∃ L, (itsA 39 B).map (fndV A) = L := ⟨_, rfl⟩
 obtain ⟨xs, hxs⟩ : ∃ xs : List Value, bools ((itsA 39 B).map (fun x => decide (fndI (itsA 39 A) x < A.len))) = xs := ⟨_, rfl⟩
 have HLL := Lib.hid hL
 have HLN := Lib.hid (show L.length = m by rw [← hL, List.length_map, itsA_len, hm])
 have HXL := Lib.hid (show xs.length = m by rw [← hxs]; simp [bools, itsA_len, hm])
 have HLG := Lib.hid (show ∀ k, k < m → L[k]? = some (fndV A (itH B k)) ∧ xs[k]? = some (.bool (decide (fndI (itsA 39 A) (itH B k) < A.len))) by
  intro k hk
  have hkB : k < B.len := by rw [hm]; exact hk
  rw [← hL, ← hxs]
  unfold bools
  rw [List.getElem?_map, List.getElem?_map, List.getElem?_map, itsA_at hkB]
  exact ⟨rfl, rfl⟩)
 rw [hm, hxs]
 have cHA0 := HA.out.2.1; have cHA20 := HA2.out.2.1; clear h hA h2 hB hm hL hxs
 go_enter Tryz.func14, Tryz.ntmps14
 go_wp2_with fail
 clear hW1
 refine (vlen_calls _ B _ HV2.out).mono ?_
 rintro e W2 ⟨rfl, hB⟩
 rw [HM.out]; replace HA := HA.go hB; replace HA2 := HA2.go hB; replace HV := HV.go hB; replace HV2 := HV2.go hB; replace HB := cb hB HB; clear hB cHA0 cHA20
 have hmk := run_mkB1 m (by have := HMM.out; omega) W2
 obtain ⟨W3, hW3⟩ : ∃ W3, W3 = W2.alloc (.cells (zerosV (.bool false) m) 4) := ⟨_, rfl⟩
 have HO0 := Lib.hid (show W3.ownsRow W2.heap.size 4 1 (.slice (some ⟨W2.heap.size, 0, none⟩) m m) m (List.replicate m (.bool false)) by rw [hW3]; exact own_make1 _ _ _ (by have := HMM.out; omega) _ _ (Nat.le_refl _))
 have HW := Lib.hid (show Below W2.heap.size W2 W3 by rw [hW3]; exact below_new _ _)
 have HGL := Lib.hid (show W2.heap.size < W3.heap.size by rw [hW3]; simp)
 obtain ⟨g, hg⟩ : ∃ g, W2.heap.size = g := ⟨_, rfl⟩
 have hB : Below W2.heap.size W2 W3 := HW.out
 replace HA := HA.go hB; replace HA2 := HA2.go hB; replace HV := HV.go hB; replace HV2 := HV2.go hB
 have HGB := Lib.hid (show w.heap.size ≤ g by rw [← hg]; exact HB.out.size)
 replace HB := cb hB HB
 rw [hg] at HO0 HGL
 have cHA0 := HA.out.2.1; have cHA20 := HA2.out.2.1; have HG := Lib.hid hg
 have hfold := hW3.symm
 clear hB HW hW3
 go_wp2_with fail
 clear hfold hmk
 (try rw [hg])
 clear hg
 refine (hfound_calls u u2 A B _ HV.out HK.out.1 HV2.out HK.out.2).mono ?_
 rintro e W4 ⟨gf, rfl, hgf, hown, hB⟩
 rw [HLL.out, HM.out] at hown
 rw [HM.out]
 have HS0 := Lib.hid (show Slc W4 (fun b => b ≠ g) (.slice (some ⟨gf, 0, none⟩) m m) m (ints L) from (Slc.owned hown).keep (Kept.refl _ _) (fun b _ hb => by have := HGL.out; omega))
 replace HO0 := Lib.hid (owns_below HO0.out hB)
 replace HB := cb hB HB; clear hown hgf hB cHA0 cHA20
 go_wp2_with fail
 go_loopw [15] (fun i wr => ∃ k : Nat, k ≤ m ∧ i = .int .i64 k ∧ wr.ownsRow g 4 1 (.slice (some ⟨g, 0, none⟩) m m) m (fillTo xs (.bool false) k) ∧ Slc wr (fun b => b ≠ g) (.slice (some ⟨gf, 0, none⟩) m m) m (ints L) ∧ Below w.heap.size w wr) (fun i _ => m - (intOf i).toNat)
 case atStart => exact ⟨0, by omega, rfl, by rw [fillTo_zero, HXL.out]; exact HO0.out, HS0.out, HB.out⟩
 case round =>
  obtain ⟨k, hk, rfl, hown, hs, hBq⟩ := hrel
  clear HO0 HS0; have HO := Lib.hid hown; have HS := Lib.hid hs; have HBQ := Lib.hid hBq; clear hown hBq
  by_cases hlt : k < m
  ·have hm9 := HMM.out
   obtain ⟨eL, eX⟩ := HLG.out k hlt
   obtain ⟨x, hx⟩ : ∃ x, itH B k = x := ⟨_, rfl⟩
   rw [hx] at eL eX
   obtain ⟨b, off, cap2, z, e9, hz, hcx⟩ := Slc.at_map (Value.int .i64) (l := L) (by rw [HLN.out]; exact HS.out) k (by rw [HLN.out]; exact hlt)
   rw [HLN.out] at e9
   cases e9
   rw [Nat.zero_add] at hcx
   rw [eL] at hz
   obtain rfl := Option.some.inj hz
   have hln : (fillTo xs (.bool false) k).length = m := by rw [fillTo_len _ _ _ (by rw [HXL.out]; exact hk), HXL.out]
   have hcw := owns_cell HO.out k (by rw [hln]; exact hlt)
   have hfr := World.ownsRow.frozenAt HO.out k
   obtain ⟨old, hold⟩ : ∃ old, (fillTo xs (.bool false) k)[k]'(by rw [hln]; exact hlt) = old := ⟨_, rfl⟩
   rw [hold] at hcw
   obtain ⟨b9, hb9⟩ : ∃ b9, decide (fndI (itsA 39 A) x < A.len) = b9 := ⟨_, rfl⟩
   rw [hb9] at eX
   have HXK := Lib.hid (show xs[k]'(by rw [HXL.out]; exact hlt) = .bool b9 by
    rw [List.getElem?_eq_getElem (by rw [HXL.out]; exact hlt)] at eX
    exact Option.some.inj eX)
   have hne : (fndV A x != -1) = b9 := by
    by_cases hc : fndI (itsA 39 A) x < A.len
    ·rw [fndV_yes hc, ← hb9, decide_eq_true hc]; simp
    ·rw [(fndV_no hc).1, ← hb9, decide_eq_false hc]; rfl
   obtain ⟨v, hv⟩ : ∃ v, fndV A x = v := ⟨_, rfl⟩
   rw [hv] at hne hcx
   clear hold eL eX hz hx hs hln hb9 hv
   go_wp2_with fail
   go_roundw
   case rel =>
    refine ⟨k + 1, by omega, by go_num, ?_, HS.out.kept19 (grown_setCell _ _ _), HBQ.out.setCell HGB.out _⟩
    have := (World.ownsRow.stored HO.out k (.bool b9)).1
    rw [← HXK.out, fillTo_set] at this
    rw [← HXK.out]
    exact this
   case measure => simp [intOf]; omega
  ·have hkl : k = m := by omega
   have HK2 := Lib.hid hkl; clear hkl hs
   go_wp2_with fail
   go_ret
   refine ⟨_, rfl, ?_, HBQ.out⟩
   have := Slc.owned (own_lower HO.out HGB.out)
   rw [HK2.out, ← HXL.out, fillTo_all, HXL.out] at this
   exact this

theorem owns_keep19 {w w' : World} {base tb sb : Nat} {e : TypeId} {v : Value} {n : Nat} {xs : List Value} (h : w.ownsRow base e 1 v n xs) (hf : FrT tb sb w w') (h1 : tb < base) (h2 : sb < base) : w'.ownsRow base e 1 v n xs := by
 refine ⟨h.1, ?_⟩
 rcases h.2 with hn | ⟨g, cap, cur, hv, hb, hg, hr⟩
 ·exact Or.inl hn
 ·exact Or.inr ⟨g, cap, cur, hv, hb, (hf g (lt_heap hg) (by omega) (by omega)).trans hg, hr⟩
theorem TabM.kept {w w' : World} {b0 tb sb : Nat} {u : Value} {S : List (Nat × Int)} {h : Nat} {row : Option Nat} (t : TabM w b0 tb sb u S h) (hg : w.grownBy w' row) (h1 : some tb ≠ row) (h2 : some sb ≠ row) : TabM w' b0 tb sb u S h :=
 ⟨t.1, t.2.1, t.2.2.1, t.2.2.2.1.grown hg h1, (hg.block _ t.2.2.2.2.lt h2).trans t.2.2.2.2⟩
theorem TabM.lts {w : World} {b0 tb sb : Nat} {u : Value} {S : List (Nat × Int)} {h : Nat} (t : TabM w b0 tb sb u S h) : tb < w.heap.size ∧ sb < w.heap.size := ⟨t.2.2.2.1.1, t.2.2.2.2.lt⟩
theorem own_block19 {w : World} {base : Nat} {e : TypeId} {v : Value} {n : Nat} {xs : List Value} {tb : Nat} (h : w.ownsRow base e 1 v n xs) (ht : tb < base) : some tb ≠ v.ownBlock := by
 rcases h.2 with ⟨rfl, _⟩ | ⟨g, cap, cur, rfl, hb, _⟩
 ·intro e; cases e
 ·intro e
  have : tb = g := Option.some.inj e
  omega
theorem zL_app19 (l : List Nat) (k : Nat) : zL (l ++ [k]) = zL l ++ [(k : Int)] := by simp [zL]

set_option maxHeartbeats 8000000 in
theorem hfirsts_of {ok : Nat → Prop} (u : Value) (A : VV) (w : World) (h : IsV w ok u A) (hA : HV19 A) :
  Calls Tryz.prog 18 #[.agg #[u]] w fun e w' => ∃ v, e = .returned v ∧ Slc w' (fun b => w.heap.size ≤ b) v (frsL (itsA 39 A)).length (ints (zL (frsL (itsA 39 A)))) ∧ Below w.heap.size w w' := by
 obtain ⟨i0, hi, hz0, hz1, hz2⟩ := info_parts info_int2
 have HI0 := Lib.hid (And.intro hi (And.intro hz0 (And.intro hz1 hz2)))
 have hsx := h.store
 obtain ⟨W1, hW1⟩ : ∃ W1, w.alloc (.cells #[u] 36) = W1 := ⟨_, rfl⟩
 have HA := Lib.hid (show At1 W1 w.heap.size u by rw [← hW1]; exact At1.new _ _ _)
 have HB := Lib.hid (show Below w.heap.size w W1 by rw [← hW1]; exact below_new _ _)
 have HV := Lib.hid (h.grow HB.out)
 have HK := Lib.hid hA
 obtain ⟨n, hn⟩ : ∃ n, A.len = n := ⟨_, rfl⟩
 have HN := Lib.hid hn
 have HNM := Lib.hid (show n ≤ 1048576 by rw [← hn]; exact VV.ok_len hA.1)
 have HRS := Lib.hid (show fstL (itsA 39 A) n = frsL (itsA 39 A) by rw [← fstL_all, itsA_len, hn])
 clear h hA hn hi hz0 hz1 hz2
 go_enter Tryz.func18, Tryz.ntmps18
 go_wp2_with fail
 clear hW1
 obtain ⟨W11, hWD, hB⟩ := drwn W1
 replace HA := HA.go hB; replace HB := cb hB HB; replace HV := HV.go hB; clear hB
 refine rgn (S := fun w' => w'.cell? ⟨w.heap.size, 0, none⟩ = some (u)) hWD HA.out.2.1 (fun hHeld => ?_)
 clear hWD; apply tk 0; apply tk 1
 apply rdy 2; intro K hK; clear hHeld; go_simp
 refine (vlen_calls _ A _ HV.out).mono ?_
 rintro e W12 ⟨rfl, hB⟩
 replace HA := HA.go hB; replace HB := cb hB HB; replace HV := HV.go hB; clear hB
 try go_simp
 refine hK.out _ _ HA.out.2.1 (fun hHeld => ?_)
 clear hK K
 apply rdy 3; intro K hK; clear hHeld; go_simp
 have HA0 := HA
 have HV0 := HV
 have HB0 := HB
 refine (hnew_calls u A _ (by rw [HN.out]; exact HNM.out) HV.out).mono ?_
 rintro e W13 ⟨tb, sb, rfl, ht, hB⟩
 replace HA := HA.go hB; replace HB := cb hB HB; replace HV := HV.go hB; have HTM := Lib.hid ht; have HBT := Lib.hid hB; clear ht; clear hB
 try go_simp
 refine hK.out _ _ HA.out.2.1 (fun hHeld => ?_)
 clear hK K; apply tk 4
 refine wpAnyH_done (by kernel_rfl) ?_ _
 clear hHeld; have cHA0 := HA.out.2.1
 go_wp2_with fail
 refine (vlen_calls _ A _ HV.out).mono ?_
 rintro e W14 ⟨rfl, hB⟩
 clear cHA0; replace HA := HA.go hB; replace HB := cb hB HB; replace HV := HV.go hB; replace HTM := HTM.go hB; replace HBT := cb hB HBT; rw [HN.out]; clear hB; have cHA0 := HA.out.2.1
 go_wp2_with fail
 clear cHA0; have HLT := Lib.hid HTM.out.lts
 go_loopw [4, 12] (fun v i wr => ∃ (j : Nat) (S : List (Nat × Int)), i = .int .i64 (j : Int) ∧ j ≤ n ∧ S.length = 2 * max n 1 ∧ TabM wr W12.heap.size tb sb u S (fstL (itsA 39 A) j).length ∧ HTab (itH A) kH A.len (fstL (itsA 39 A) j) S ∧ wr.ownsRow W14.heap.size 3 1 v (fstL (itsA 39 A) j).length (ints (zL (fstL (itsA 39 A) j))) ∧ W14.heap.size ≤ wr.heap.size ∧ Below W12.heap.size W12 wr) (fun _ i _ => n - (intOf i).toNat)
 case atStart => exact ⟨0, _, rfl, by omega, by rw [List.length_replicate, HN.out], HTM.out, HTab.start _ _ _ _ (by omega), World.ownsRow_nil _ _ _ _, Nat.le_refl _, HBT.out⟩
 case round =>
  obtain ⟨j, S, rfl, hj, hSl, htm, hS, hown, hsz, hBr⟩ := hrel
  have HJ := Lib.hid hj; have HSL := Lib.hid hSl
  have HSX := Lib.hid (show S.length ≤ 4000000 by have := HNM.out; omega)
  have HFL := Lib.hid (fstL_len (itsA 39 A) j)
  have HSZ := Lib.hid hsz; have HBC := Lib.hid HBT.out.size; have HBX := Lib.hid HB.out.size; clear HA HV HB HTM HBT; have HTM := Lib.hid htm; have HS := Lib.hid hS; have HO := Lib.hid hown; have HBT := Lib.hid hBr
  have HV := Lib.hid (HV0.out.grow hBr)
  have HB := Lib.hid (HB0.out.trans (hBr.mono HB0.out.size))
  obtain ⟨vo, vc, rfl⟩ := owns_form hown
  clear hj hSl htm hS hBr hown hsz
  by_cases hlt : j < n
  ·have hn9 := HNM.out
   go_wp2_with fail
   refine (hput_calls j _ HTM.out HSX.out HS.out (by have := HFL.out; have := HSL.out; omega) (fun _ => by have := HFL.out; have := HSL.out; omega) HK.out (by rw [HN.out]; exact hlt) HV.out HBT.out.size).mono ?_
   rintro e W40 ⟨r, rfl, hp, hfr, hBq⟩
   have hpn := put_next (by rw [HN.out]; exact hlt) HS.out hp
   obtain ⟨⟨S', h1, h2, h3⟩, h4, h5⟩ := hpn
   have HO2 := Lib.hid (owns_keep19 HO.out hfr HLT.out.1 HLT.out.2)
   have HBQ := Lib.hid (HBT.out.trans hBq)
   have HSZ2 := Lib.hid (Nat.le_trans HSZ.out hBq.size)
   have HS1 := Lib.hid h1; have HTM2 := Lib.hid h2; have HS3 := Lib.hid h3
   have HSN := Lib.hid (show fstL (itsA 39 A) (j + 1) = fstL (itsA 39 A) j ++ (if r = j then [j] else []) by
    rw [fstL_snoc, itH_at (by rw [HN.out]; exact hlt), ← h4])
   clear hp hfr hBq h1 h2 h3 h4
   rcases h5 with hrj | hrj
   ·have hme : ((r : Int) == (j : Int)) = true := by rw [hrj]; simp
    rw [if_pos hrj] at HSN
    obtain ⟨c, hc⟩ : ∃ c, (fstL (itsA 39 A) j).length = c := ⟨_, rfl⟩
    have HC := Lib.hid hc
    have HCK := Lib.hid (show c ≤ j by rw [← hc]; exact HFL.out)
    rw [hc] at HO2 ⊢
    clear hrj hc
    obtain ⟨W44, hW4⟩ : ∃ W44, W44 = W40.alloc (.cells #[.int .i64 (j : Int)] 3) := ⟨_, rfl⟩
    have HB4 := Lib.hid (show Below W12.heap.size W12 W44 by rw [hW4]; exact HBQ.out.alloc HBQ.out.size _)
    have HO4 := Lib.hid (show W44.ownsRow W14.heap.size 3 1 (.slice vo c vc) c (ints (zL (fstL (itsA 39 A) j))) by rw [hW4]; exact HO2.out.alloc _)
    have HN4 := Lib.hid (show ∀ i u, ([.int .i64 (j : Int)] : List Value)[i]? = some u → W44.cell? ((⟨W40.heap.size, 0, none⟩ : Addr).add i) = some u by rw [hW4]; exact cell_one_new _ _ _)
    have HTM4 := Lib.hid (show TabM W44 W12.heap.size tb sb u S' (fstL (itsA 39 A) (j + 1)).length by rw [hW4]; exact HTM2.out.below (below_new _ _))
    have HSZ4 := Lib.hid (show W14.heap.size ≤ W44.heap.size by have := HSZ2.out; rw [hW4]; simp; omega)
    have HM1 := Lib.hid (show c + 1 ≤ maxLen by have := HCK.out; unfold maxLen; omega)
    have HM2 := Lib.hid (show (c + 1) * 8 ≤ 140737488355328 by have := HCK.out; omega)
    have hfold4 := hW4.symm
    clear hW4
    go_wp2_with (at_builtin; refine wpList_append_own _ rfl _ _ 22 rfl W14.heap.size 3 i0 (.int .i64 0) 1 8 Tryz.underlying22 HI0.out.1 HI0.out.2.1 HI0.out.2.2.1 HI0.out.2.2.2 rfl (by decide) _ _ _ rfl HO4.out ⟨W40.heap.size, 0, none⟩ 1 1 [.int .i64 (j : Int)] rfl rfl HN4.out (one_intV _) HM1.out HM2.out HSZ4.out ?_)
    intro v' w1 hown' hgrow _
    have HO1 := Lib.hid hown'
    have HTM1 := Lib.hid (HTM4.out.kept hgrow (own_block19 HO4.out HLT.out.1) (own_block19 HO4.out HLT.out.2))
    have HB1 := Lib.hid (grown_below HB4.out HO4.out HBC.out HB4.out.size hgrow)
    have HSZ1 := Lib.hid (Nat.le_trans HSZ4.out hgrow.size)
    clear hown' hgrow hfold4
    go_wp2
    go_roundw
    case rel =>
     refine ⟨j + 1, S', by go_num, by omega, by rw [HS1.out]; exact HSL.out, HTM1.out, HS3.out, ?_, HSZ1.out, HB1.out⟩
     rw [HSN.out, List.length_append, HC.out, zL_app19, ints_append2]
     exact HO1.out
    case measure => simp [intOf]; omega
   ·have hme : ((r : Int) == (j : Int)) = false := by rw [beq_eq_false_iff_ne]; omega
    rw [if_neg (by omega), List.append_nil] at HSN
    clear hrj
    go_wp2
    go_roundw
    case rel =>
     refine ⟨j + 1, S', by go_num, by omega, by rw [HS1.out]; exact HSL.out, HTM2.out, HS3.out, ?_, HSZ2.out, HBQ.out⟩
     rw [HSN.out]
     exact HO2.out
    case measure => simp [intOf]; omega
  ·have hjl : j = n := by have := HJ.out; omega
   have HO5 := Lib.hid (show wr.ownsRow w.heap.size 3 1 (.slice vo (fstL (itsA 39 A) j).length vc) (frsL (itsA 39 A)).length (ints (zL (frsL (itsA 39 A)))) by
    rw [hjl, HRS.out] at HO ⊢
    exact own_lower HO.out (Nat.le_trans HBX.out (Nat.le_refl _)))
   clear hjl
   go_wp2
   go_ret
   exact ⟨_, rfl, Slc.owned HO5.out, HB.out⟩
end Go.Proofs.YtbdhibcbpgjbmaaGreatDoor

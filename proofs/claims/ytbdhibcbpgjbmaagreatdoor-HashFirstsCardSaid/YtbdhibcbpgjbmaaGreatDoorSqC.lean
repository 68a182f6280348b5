/- Package squeeze, walked: Least, Tight. -/
import Derived.Test.YtbdhibcbpgjbmaaGreatDoorSqB
import Derived.Test.YtbdhibcbpgjbmaaGreatDoorVeS
import Derived.Test.YtbdhibcbpgjbmaaGreatDoorVeO
namespace Go.Proofs.YtbdhibcbpgjbmaaGreatDoor
open Go.RowKit Fl
set_option linter.unusedVariables false
set_option maxRecDepth 100000

/-- Its numbers are numbers of the document. -/
def VV.nm : VV → Prop
 | .ints l => ∀ z ∈ l, sm z = true | .floats l => ∀ x ∈ l, Num x | _ => True
theorem VV.nums_num {V : VV} (h : V.ok) (hn : V.nm) : ∀ x ∈ V.nums, Num x := by
 intro x hx
 cases V with
 | bits l => simp only [VV.nums, List.mem_map] at hx; obtain ⟨b, _, rfl⟩ := hx; exact num_flag b
 | smalls l => simp only [VV.nums, List.mem_map] at hx; obtain ⟨z, hz, rfl⟩ := hx; exact num_ofInt z (sm_i8 (h.2 z hz).1 (h.2 z hz).2)
 | ints l => simp only [VV.nums, List.mem_map] at hx; obtain ⟨z, hz, rfl⟩ := hx; exact num_ofInt z (hn z hz)
 | floats l => exact hn x hx
 | none => simp [VV.nums] at hx
 | chars l => simp [VV.nums] at hx
 | boxes l => simp [VV.nums] at hx
/-- The least kind of a vector. -/
noncomputable def VV.least (V : VV) : Nat := match V with | .bits _ => 1 | .chars _ => 5 | .boxes _ => 6 | V => leastW V.nums
theorem VV.least_num {V : VV} (h1 : V.kind ≠ 1) (h2 : V.cls = 0) : V.least = leastW V.nums := by
 cases V <;> first | rfl | exact absurd rfl h1 | (simp [VV.cls] at h2)
theorem VV.least_oth {V : VV} (h : V.kind = 1 ∨ V.cls ≠ 0) : (V.least : Int) = V.kind := by
 cases V <;> simp [VV.kind, VV.cls] at h <;> rfl
theorem VV.nums_lenle {V : VV} : V.nums.length ≤ V.len := by cases V <;> simp [VV.nums, VV.len]

set_option maxHeartbeats 4000000 in
theorem least_calls {ok : Nat → Prop} (u : Value) (V : VV) (w : World) (h : IsV w ok u V) (hok : V.ok) (hn : V.nm) (hT : TabAt w) : Calls Tryz.prog 45 #[.agg #[u]] w fun e w' => e = .returned (.int .i64 (V.least : Int)) ∧ Below w.heap.size w w' := by
 have H := Lib.hid h; have HOK := Lib.hid hok
 have HNU := Lib.hid (VV.nums_num hok hn)
 have HT := Lib.hid hT
 have HB := Lib.hid (Below.refl w.heap.size w)
 have hst := h.store; clear h hok hn hT
 by_cases hk : V.kind = 1
 ·have HK := Lib.hid hk
  have HL := Lib.hid (VV.least_oth (.inl hk))
  rw [HL.out, HK.out]
  clear hk
  obtain ⟨W1, hWn⟩ : ∃ W1, (w.alloc (.cells #[u] 36)) = W1 := ⟨_, rfl⟩
  have hB : Below w.heap.size w W1 := by rw [← hWn]; exact (below_new _ _)
  replace H := H.go hB; replace HT := HT.go hB; replace HB := cb hB HB
  have HA := Lib.hid (show At1 W1 w.heap.size (u) by rw [← hWn]; exact At1.new w (u) 36)
  clear hB; have cHA := HA.out.2.1
  go_enter Tryz.func45, Tryz.ntmps45
  go_wp2_with fail
  clear hWn
  refine (kind_calls _ _ _ H.out).mono ?_
  clear cHA
  rintro e W2 ⟨rfl, hB⟩
  replace H := H.go hB; replace HT := HT.go hB; replace HA := HA.go hB; replace HB := cb hB HB; rw [HK.out]; clear hB; have cHA := HA.out.2.1
  go_wp2_with fail
  refine (kind_calls _ _ _ H.out).mono ?_
  clear cHA
  rintro e W3 ⟨rfl, hB⟩
  replace H := H.go hB; replace HT := HT.go hB; replace HA := HA.go hB; replace HB := cb hB HB; rw [HK.out]; clear hB; have cHA := HA.out.2.1
  go_wp2
  go_ret
  exact ⟨rfl, HB.out⟩
 ·have hkb : (V.kind == 1) = false := by simpa using hk
  obtain ⟨K, hK⟩ : ∃ K, V.kind = K := ⟨_, rfl⟩
  have HK := Lib.hid hK
  rw [hK] at hkb
  by_cases hc : V.cls = 0
  ·have HC := Lib.hid hc
   have HL := Lib.hid (VV.least_num hk hc)
   rw [HL.out]
   have HLN := Lib.hid (show V.nums.length ≤ 2000000 from Nat.le_trans VV.nums_lenle (Nat.le_trans (VV.ok_len HOK.out) (by omega)))
   have HVL := Lib.hid (VV.ok_len HOK.out)
   clear hk hc hK
   obtain ⟨l, hl⟩ : ∃ l, V.nums = l := ⟨_, rfl⟩
   have HN := Lib.hid hl
   rw [hl] at HNU HLN ⊢
   clear hl HL
   obtain ⟨W1, hWn⟩ : ∃ W1, (w.alloc (.cells #[u] 36)) = W1 := ⟨_, rfl⟩
   have hB : Below w.heap.size w W1 := by rw [← hWn]; exact (below_new _ _)
   replace H := H.go hB; replace HT := HT.go hB; replace HB := cb hB HB
   have HA := Lib.hid (show At1 W1 w.heap.size (u) by rw [← hWn]; exact At1.new w (u) 36)
   clear hB; have cHA := HA.out.2.1
   go_enter Tryz.func45, Tryz.ntmps45
   go_wp2_with fail
   clear hWn
   refine (kind_calls _ _ _ H.out).mono ?_
   clear cHA
   rintro e W2 ⟨rfl, hB⟩
   replace H := H.go hB; replace HT := HT.go hB; replace HA := HA.go hB; replace HB := cb hB HB; rw [HK.out]; clear hB; have cHA := HA.out.2.1
   go_wp2_with fail
   refine (class_calls _ _ _ H.out).mono ?_
   clear cHA
   rintro e W3 ⟨rfl, hB⟩
   replace H := H.go hB; replace HT := HT.go hB; replace HA := HA.go hB; replace HB := cb hB HB; rw [HC.out]; clear hB; have cHA := HA.out.2.1
   go_wp2_with fail
   refine (vnums_calls _ _ _ H.out HOK.out HT.out).mono ?_
   clear cHA
   rintro e W4 ⟨v, rfl, hs, hB⟩
   replace H := H.go hB; replace HT := HT.go hB; replace HA := HA.go hB; replace HB := cb hB HB
   have HV := Lib.hid (show Slc W4 _ v l.length (f64s l) by have := hs.any; rw [HN.out] at this; exact this)
   clear hs; clear hB; have cHA := HA.out.2.1
   obtain ⟨ao, cap, rfl, _⟩ := HV.out.opened
   go_wp2
   have hll := HLN.out
   go_loopw [3, 19] (fun q i wr => ∃ k : Nat, k ≤ l.length ∧ i = .int .i64 k ∧ q = .int .i64 (leastW (l.take k) : Int) ∧ wr = W4) (fun _ i _ => l.length - (intOf i).toNat)
   case atStart => exact ⟨0, by omega, rfl, by rw [List.take_zero, leastW_nil]; rfl, rfl⟩
   case round =>
    obtain ⟨k, hk, rfl, rfl, rfl⟩ := hrel
    obtain ⟨q, hq⟩ : ∃ q, q = leastW (l.take k) := ⟨_, rfl⟩
    have HQ := Lib.hid hq
    rw [← hq]
    clear hq
    by_cases hlt : k < l.length
    ·obtain ⟨b, off, cap', x, e1, hx, hcx⟩ := Slc.at_map (Value.float .f64) (show Slc _ _ (.slice ao l.length cap) l.length (l.map (Value.float .f64)) from HV.out) k hlt
     obtain ⟨e1a, e1b⟩ : ao = some ⟨b, off, none⟩ ∧ cap = cap' := by cases e1; exact ⟨rfl, rfl⟩
     subst e1a
     have HNx := Lib.hid (HNU.out x (List.mem_of_getElem? hx))
     have HTK := Lib.hid (leastW_take hx)
     rw [← HQ.out] at HTK
     clear hx e1 e1b
     by_cases hgt : q < kindW x
     ·have HK2 := Lib.hid (show leastW (l.take (k + 1)) = kindW x by rw [HTK.out]; omega)
      obtain ⟨m, hm⟩ : ∃ m, kindW x = m := ⟨_, rfl⟩
      have HKM := Lib.hid hm
      rw [hm] at hgt
      clear hm
      go_wp2_with fail
      refine (leastof_calls _ _ HNx.out).mono ?_
      rintro e w' ⟨rfl, rfl⟩
      rw [HKM.out]
      go_wp2
      go_roundw
      case rel => exact ⟨k + 1, by omega, by go_num, by rw [HK2.out, HKM.out], by trivial⟩
      case measure => simp [intOf]; omega
     ·have HK2 := Lib.hid (show leastW (l.take (k + 1)) = q by rw [HTK.out]; omega)
      obtain ⟨m, hm⟩ : ∃ m, kindW x = m := ⟨_, rfl⟩
      have HKM := Lib.hid hm
      rw [hm] at hgt
      clear hm
      go_wp2_with fail
      refine (leastof_calls _ _ HNx.out).mono ?_
      rintro e w' ⟨rfl, rfl⟩
      rw [HKM.out]
      go_wp2
      go_roundw
      case rel => exact ⟨k + 1, by omega, by go_num, by rw [HK2.out], by trivial⟩
      case measure => simp [intOf]; omega
    ·have hkl : k = l.length := by omega
     have HE := Lib.hid (show leastW l = q by have := HQ.out; rw [hkl, List.take_length] at this; exact this.symm)
     clear hkl; have hnl := HVL.out; have cHA := HA.out.2.1
     by_cases hq1 : q = 1
     ·subst hq1
      go_wp2_with fail
      refine (vlen_calls _ _ _ H.out).mono ?_
      rintro e w' ⟨rfl, hB⟩
      replace HB := cb hB HB; clear hB
      go_wp2
      go_ret
      exact ⟨ret_i (by rw [HE.out]; rfl), HB.out⟩
     ·go_wp2
      go_ret
      exact ⟨ret_i (by rw [HE.out]), HB.out⟩
  ·have HL := Lib.hid (VV.least_oth (.inr hc))
   rw [HL.out]
   have hcb : (V.cls != 0) = true := by simpa using hc
   obtain ⟨C, hC⟩ : ∃ C, V.cls = C := ⟨_, rfl⟩
   have HC := Lib.hid hC
   rw [hC] at hcb
   rw [hK]; clear hk hc hK hC
   obtain ⟨W1, hWn⟩ : ∃ W1, (w.alloc (.cells #[u] 36)) = W1 := ⟨_, rfl⟩
   have hB : Below w.heap.size w W1 := by rw [← hWn]; exact (below_new _ _)
   replace H := H.go hB; replace HT := HT.go hB; replace HB := cb hB HB
   have HA := Lib.hid (show At1 W1 w.heap.size (u) by rw [← hWn]; exact At1.new w (u) 36)
   clear hB; have cHA := HA.out.2.1
   go_enter Tryz.func45, Tryz.ntmps45
   go_wp2_with fail
   clear hWn
   refine (kind_calls _ _ _ H.out).mono ?_
   clear cHA
   rintro e W2 ⟨rfl, hB⟩
   replace H := H.go hB; replace HT := HT.go hB; replace HA := HA.go hB; replace HB := cb hB HB; rw [HK.out]; clear hB; have cHA := HA.out.2.1
   go_wp2_with fail
   refine (class_calls _ _ _ H.out).mono ?_
   clear cHA
   rintro e W3 ⟨rfl, hB⟩
   replace H := H.go hB; replace HT := HT.go hB; replace HA := HA.go hB; replace HB := cb hB HB; rw [HC.out]; clear hB; have cHA := HA.out.2.1
   go_wp2_with fail
   refine (kind_calls _ _ _ H.out).mono ?_
   clear cHA
   rintro e W4 ⟨rfl, hB⟩
   replace H := H.go hB; replace HT := HT.go hB; replace HA := HA.go hB; replace HB := cb hB HB; rw [HK.out]; clear hB; have cHA := HA.out.2.1
   go_wp2
   go_ret
   exact ⟨rfl, HB.out⟩

set_option maxHeartbeats 2000000 in
theorem tight_calls {ok : Nat → Prop} (u : Value) (V : VV) (w : World) (h : IsV w ok u V) (hok : V.ok) (hn : V.nm) (hT : TabAt w) : Calls Tryz.prog 36 #[.agg #[u]] w fun e w' => e = .returned (.bool (decide (V.kind = V.least))) ∧ Below w.heap.size w w' := by
 have H := Lib.hid h; have HOK := Lib.hid hok; have HN := Lib.hid hn; have HT := Lib.hid hT
 have HB := Lib.hid (Below.refl w.heap.size w)
 have hst := h.store; clear h hok hn hT
 obtain ⟨W1, hWn⟩ : ∃ W1, (w.alloc (.cells #[u] 36)) = W1 := ⟨_, rfl⟩
 have hB : Below w.heap.size w W1 := by rw [← hWn]; exact (below_new _ _)
 replace H := H.go hB; replace HT := HT.go hB; replace HB := cb hB HB
 have HA := Lib.hid (show At1 W1 w.heap.size (u) by rw [← hWn]; exact At1.new w (u) 36)
 clear hB; have cHA := HA.out.2.1
 have HK := Lib.hid (show ∀ wx, Below W1.heap.size W1 wx → Calls Tryz.prog 35 #[.agg #[u]] wx fun e w' => e = .returned (.int .i64 V.kind) ∧ Below wx.heap.size wx w' from fun wx hx => kind_calls u V wx (H.out.grow hx))
 have HL := Lib.hid (show ∀ wx, Below W1.heap.size W1 wx → Calls Tryz.prog 45 #[.agg #[u]] wx fun e w' => e = .returned (.int .i64 (V.least : Int)) ∧ Below wx.heap.size wx w' from fun wx hx => least_calls u V wx (H.out.grow hx) HOK.out HN.out (fun j hj => keep_below hx _ _ (HT.out j hj)))
 obtain ⟨K, hK⟩ : ∃ K, V.kind = K := ⟨_, rfl⟩
 obtain ⟨L, hL⟩ : ∃ L : Int, (V.least : Int) = L := ⟨_, rfl⟩
 rw [hK] at HK ⊢
 rw [hL] at HL ⊢
 clear hK hL
 go_enter Tryz.func36, Tryz.ntmps36
 go_wp2_with fail
 clear hWn
 refine region_grow W1 (by kernel_rfl) (by kernel_rfl) (Below.refl _ _) ?_
 intro Ω _ WW hW hI
 have HW' := Lib.hid hW
 have HI' := Lib.hid hI
 have qHA := fun y => ((HA.out.below (hW y)).2.1)
 clear cHA; clear hW hI
 repeat (go_big_quiet_step ((first | (go_at_call 35; exact Calls.quiet_grow HW'.out HI'.out (HK.out _ (HW'.out _))) | (go_at_call 45; exact Calls.quiet_grow HW'.out HI'.out (HL.out _ (HW'.out _))))))
 refine wpQuiet_nil ?_
 rintro W2 ⟨yy, rfl⟩
 obtain ⟨W2, hWn⟩ : ∃ X, WW yy = X := ⟨_, rfl⟩
 have hB : Below W1.heap.size W1 W2 := by rw [← hWn]; exact HW'.out yy
 rw [hWn]; clear qHA hWn; replace H := H.go hB; replace HT := HT.go hB; replace HA := HA.go hB; replace HB := cb hB HB; clear hB; have cHA := HA.out.2.1
 go_wp2
 go_ret
 exact ⟨ret_b (by first | rfl | simp), HB.out⟩
end Go.Proofs.YtbdhibcbpgjbmaaGreatDoor

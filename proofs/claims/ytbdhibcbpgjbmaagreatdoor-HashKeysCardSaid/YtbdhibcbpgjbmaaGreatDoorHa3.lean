/- Layer 19's law: HashKeys. -/
import Derived.Test.YtbdhibcbpgjbmaaGreatDoorMgHa2
import Derived.Test.YtbdhibcbpgjbmaaGreatDoorMgSq1
namespace Go.Proofs.YtbdhibcbpgjbmaaGreatDoor
set_option maxRecDepth 100000
open Go.RowKit Fl
set_option linter.unusedVariables false

theorem itA_num19 {t : List Int × VV → PA} {V : VV} {i : Nat} (h : V.cls = 0) : itA t V i = (0, atI V.nums 0 (i : Int), 0, []) := by unfold itA; rw [if_neg (by omega), if_neg (by omega)]
theorem wp_midx {P : Program} {c : Code} {Q : Exit → Act → World → Prop} {a : Act} {w : World} (id : Nat) (M : Act → Act → World → Prop) (h : c.wp P (fun e a' w' => e = .exit id ∧ M a a' w') a w) (k : ∀ a' w', M a a' w' → Q (.exit id) a' w') : c.wp P Q a w :=
  Code.wp_mono (fun e a' w' hm => by obtain ⟨rfl, hm⟩ := hm; exact k a' w' hm) h
/-- The key of a number. -/
noncomputable def nkey (t : List Nat) (i : Nat) : Nat := hkF (0, atI t 0 (i : Int), 0, [])
theorem hkey_num {ok : Nat → Prop} (u : Value) (V : VV) (t : List Nat) (i : Nat) (w : World) (h : IsV w ok u V) (hok : V.ok ∧ V.nm) (hk : V.kind ≠ 0) (hc : V.cls = 0) (hn : V.nums = t) (hl : V.len = t.length) (hi : i < t.length) (hT : TabAt w) :
    Calls Tryz.prog 24 #[.agg #[u], .int .i64 (i : Int)] w fun e w' => e = .returned (.int .u64 (nkey t i : Int)) ∧ Below w.heap.size w w' := by
  have := hkey_calls u V i w h ⟨hok, hk, (by rw [boxs_none19 (by omega)]; intro a ha; cases ha), (by rw [text_none19 hc]; intro z hz; cases hz)⟩ (by omega) hT
  rw [itA_num19 hc, hn] at this
  exact this
theorem hkey_item {ok : Nat → Prop} (u : Value) (A : VV) (l : List PI) (i : Nat) (x : PI) (w : World) (h : IsV w ok u A) (hg : hG A) (hi : itsA 39 A = l) (hx : l[i]? = some x) (hT : TabAt w) :
    Calls Tryz.prog 24 #[.agg #[u], .int .i64 (i : Int)] w fun e w' => e = .returned (.int .u64 (hkF x : Int)) ∧ Below w.heap.size w w' := by
  have hl : l.length = A.len := by rw [← hi]; unfold itsA; rw [List.length_map, List.length_range]
  have hil : i < A.len := by rw [← hl]; exact (List.getElem?_eq_some_iff.1 hx).1
  have := hkey_calls u A i w h hg.key hil hT
  have e : itA (plA 39) A i = x := by
    rw [← hi] at hx
    unfold itsA at hx
    rw [List.getElem?_map, List.getElem?_range hil] at hx
    exact Option.some.inj hx
  rw [e] at this
  exact this
theorem fit_kind {V : VV} {k : Int} (h : V.fit k = true) (h0 : V.kind ≠ 0) : k ≠ 0 := by
  unfold VV.fit at h
  rw [Bool.or_eq_true] at h
  rcases h with h | h
  · have := of_decide_eq_true h; rw [← this]; exact h0
  · rw [Bool.and_eq_true, Bool.and_eq_true] at h
    have := of_decide_eq_true h.1.2; omega
set_option maxHeartbeats 16000000 in
theorem hashKeys_walk (l : List Nat) (lv : Value) (kz : Int) (p q : PA) (u v : Value) (nd md : Nat) (w : World) (hlv : Slc w (fun _ => True) lv l.length (f64s l)) (hlw : ∀ x ∈ l, x < 18446744073709551616) (hlm : l.length ≤ maxLen) (hl : lo nd p) (hp : IsP w (fun _ => True) u p) (hch : chO p) (hl2 : lo md q) (hq : IsP w (fun _ => True) v q) (hch2 : chO q) (hT : TabAt w) :
    Calls Tryz.prog 5 #[lv, .int .i64 kz, u, v] w (Yes19 w) := by
  have HP := Lib.hid hp
  have HQ := Lib.hid hq
  have HLO := Lib.hid hl
  have HLP := Lib.hid hl2
  have HCH := Lib.hid hch
  have HCH2 := Lib.hid hch2
  have HLW := Lib.hid hlw
  obtain ⟨lo_, lc, rfl, _⟩ := hlv.opened
  obtain ⟨so, sc, io, ic, rfl, hs, hit⟩ := hp.opened
  obtain ⟨qo, qc, jo, jc, rfl, hs2, hit2⟩ := hq.opened
  obtain ⟨W1, hW1⟩ : ∃ W1, W1 = (w.alloc (.cells #[.slice so p.s.length sc, .slice io p.l.length ic, .int .i64 p.f] 25)).alloc (.cells #[.slice qo q.s.length qc, .slice jo q.l.length jc, .int .i64 q.f] 25) := ⟨_, rfl⟩
  have HB := Lib.hid (show Below w.heap.size w W1 by rw [hW1]; exact (below_new _ _).alloc (by simp) _)
  have HA := Lib.hid (show At3 W1 w.heap.size (.slice so p.s.length sc) (.slice io p.l.length ic) (.int .i64 p.f) by rw [hW1]; exact (At3.new w _ _ _ _).below (below_new _ _))
  have HA2 := Lib.hid (show At3 W1 (w.heap.size + 1) (.slice qo q.s.length qc) (.slice jo q.l.length jc) (.int .i64 q.f) by rw [hW1]; have := At3.new (w.alloc (.cells #[.slice so p.s.length sc, .slice io p.l.length ic, .int .i64 p.f] 25)) (.slice qo q.s.length qc) (.slice jo q.l.length jc) (.int .i64 q.f) 25; simpa using this)
  have HI := Lib.hid (show IsP W1 (fun _ => True) _ p from HP.out.grow HB.out)
  have HI2 := Lib.hid (show IsP W1 (fun _ => True) _ q from HQ.out.grow HB.out)
  have HLV := Lib.hid (show Slc W1 (fun _ => True) _ l.length (f64s l) from hlv.below HB.out)
  have HT := Lib.hid (show TabAt W1 from fun j hj => keep_below HB.out _ _ (hT j hj))
  obtain ⟨n, hn⟩ : ∃ n, p.l.length = n := ⟨_, rfl⟩
  obtain ⟨f, hf⟩ : ∃ f, p.f = f := ⟨_, rfl⟩
  obtain ⟨m, hm⟩ : ∃ m, q.l.length = m := ⟨_, rfl⟩
  obtain ⟨g, hg⟩ : ∃ g, q.f = g := ⟨_, rfl⟩
  obtain ⟨L, hL⟩ : ∃ L, l.length = L := ⟨_, rfl⟩
  have HN := Lib.hid hn
  have HF := Lib.hid hf
  have HM := Lib.hid hm
  have HG := Lib.hid hg
  have HLL := Lib.hid hL
  have hfold := hW1.symm
  clear hs hit hs2 hit2 hp hq hl hl2 hW1 hT hch hch2 hlv hlw
  rw [hn, hf] at HA HI hfold ⊢
  rw [hm, hg] at HA2 HI2 hfold ⊢
  rw [hL] at HLV hlm ⊢
  have hlm2 : (L : Int) ≤ 9223372036854775807 := by unfold maxLen at hlm; omega
  clear hn hf hm hg hL HP HQ
  have cHA0 := HA.out.2.1
  have cHA1 := HA.out.2.2.1
  have cHA2 := HA.out.2.2.2.1
  have cHA20 := HA2.out.2.1
  have cHA21 := HA2.out.2.2.1
  have cHA22 := HA2.out.2.2.2.1
  by_cases hl2 : 200 < L
  · go_enter Tryz.func5, Tryz.ntmps5
    go_wp2_with fail
    clear hfold
    refine (awake19_calls _ HT.out).mono ?_
    rintro e W11 ⟨rfl, hB⟩
    clear cHA0 cHA1 cHA2 cHA20 cHA21 cHA22
    replace HA := Lib.hid (HA.out.below hB)
    replace HA2 := Lib.hid (HA2.out.below hB)
    replace HB := Lib.hid (HB.out.trans (hB.mono HB.out.size))
    replace HI := Lib.hid (HI.out.grow hB)
    replace HI2 := Lib.hid (HI2.out.grow hB)
    replace HT := Lib.hid (fun j hj => keep_below hB _ _ (HT.out j hj))
    replace HLV := Lib.hid (HLV.out.below hB)
    clear hB
    have cHA0 := HA.out.2.1
    have cHA1 := HA.out.2.2.1
    have cHA2 := HA.out.2.2.2.1
    have cHA20 := HA2.out.2.1
    have cHA21 := HA2.out.2.2.1
    have cHA22 := HA2.out.2.2.2.1
    go_wp2_with fail
    go_ret
    exact ⟨rfl, HB.out⟩
  have HL2 := Lib.hid (show L ≤ 200 by omega)
  go_enter Tryz.func5, Tryz.ntmps5
  go_wp2_with fail
  clear hfold
  refine (good19_calls _ p _ nd _ HLO.out HI.out).mono ?_
  rintro e W11 ⟨gg, rfl, hgg, hB⟩
  clear cHA0 cHA1 cHA2 cHA20 cHA21 cHA22
  replace HA := Lib.hid (HA.out.below hB)
  replace HA2 := Lib.hid (HA2.out.below hB)
  replace HB := Lib.hid (HB.out.trans (hB.mono HB.out.size))
  replace HI := Lib.hid (HI.out.grow hB)
  replace HI2 := Lib.hid (HI2.out.grow hB)
  replace HT := Lib.hid (fun j hj => keep_below hB _ _ (HT.out j hj))
  replace HLV := Lib.hid (HLV.out.below hB)
  have HG1 := Lib.hid hgg
  clear hgg
  clear hB
  cases gg
  · go_wp2_with fail
    refine (awake19_calls _ HT.out).mono ?_
    rintro e W12 ⟨rfl, hB⟩
    replace HA := Lib.hid (HA.out.below hB)
    replace HA2 := Lib.hid (HA2.out.below hB)
    replace HB := Lib.hid (HB.out.trans (hB.mono HB.out.size))
    replace HI := Lib.hid (HI.out.grow hB)
    replace HI2 := Lib.hid (HI2.out.grow hB)
    replace HT := Lib.hid (fun j hj => keep_below hB _ _ (HT.out j hj))
    replace HLV := Lib.hid (HLV.out.below hB)
    clear hB
    have cHA0 := HA.out.2.1
    have cHA1 := HA.out.2.2.1
    have cHA2 := HA.out.2.2.2.1
    have cHA20 := HA2.out.2.1
    have cHA21 := HA2.out.2.2.1
    have cHA22 := HA2.out.2.2.2.1
    go_wp2_with fail
    go_ret
    exact ⟨rfl, HB.out⟩
  · have HC1 := Lib.hid (HG1.out rfl)
    have cHA0 := HA.out.2.1
    have cHA1 := HA.out.2.2.1
    have cHA2 := HA.out.2.2.2.1
    have cHA20 := HA2.out.2.1
    have cHA21 := HA2.out.2.2.1
    have cHA22 := HA2.out.2.2.2.1
    go_wp2_with fail
    refine (good19_calls _ q _ md _ HLP.out HI2.out).mono ?_
    rintro e W12 ⟨gg, rfl, hgg, hB⟩
    clear cHA0 cHA1 cHA2 cHA20 cHA21 cHA22
    replace HA := Lib.hid (HA.out.below hB)
    replace HA2 := Lib.hid (HA2.out.below hB)
    replace HB := Lib.hid (HB.out.trans (hB.mono HB.out.size))
    replace HI := Lib.hid (HI.out.grow hB)
    replace HI2 := Lib.hid (HI2.out.grow hB)
    replace HT := Lib.hid (fun j hj => keep_below hB _ _ (HT.out j hj))
    replace HLV := Lib.hid (HLV.out.below hB)
    have HG2 := Lib.hid hgg
    clear hgg
    clear hB
    cases gg
    · go_wp2_with fail
      refine (awake19_calls _ HT.out).mono ?_
      rintro e W13 ⟨rfl, hB⟩
      replace HA := Lib.hid (HA.out.below hB)
      replace HA2 := Lib.hid (HA2.out.below hB)
      replace HB := Lib.hid (HB.out.trans (hB.mono HB.out.size))
      replace HI := Lib.hid (HI.out.grow hB)
      replace HI2 := Lib.hid (HI2.out.grow hB)
      replace HT := Lib.hid (fun j hj => keep_below hB _ _ (HT.out j hj))
      replace HLV := Lib.hid (HLV.out.below hB)
      clear hB
      have cHA0 := HA.out.2.1
      have cHA1 := HA.out.2.2.1
      have cHA2 := HA.out.2.2.2.1
      have cHA20 := HA2.out.2.1
      have cHA21 := HA2.out.2.2.1
      have cHA22 := HA2.out.2.2.2.1
      go_wp2_with fail
      go_ret
      exact ⟨rfl, HB.out⟩
    · have HC2 := Lib.hid (HG2.out rfl)
      have HN1 := Lib.hid (show n ≤ 200 by rw [← HN.out]; exact HC1.out.2)
      have HM1 := Lib.hid (show m ≤ 200 by rw [← HM.out]; exact HC2.out.2)
      obtain ⟨A, hA⟩ : ∃ A, (arrP 40 p).2 = A := ⟨_, rfl⟩
      obtain ⟨B, hB9⟩ : ∃ B, (arrP 40 q).2 = B := ⟨_, rfl⟩
      have HHA := Lib.hid (show Hold p A n f by rw [← hA, ← HN.out, ← HF.out]; exact hold_of HC1.out.1 HCH.out)
      have HHB := Lib.hid (show Hold q B m g by rw [← hB9, ← HM.out, ← HG.out]; exact hold_of HC2.out.1 HCH2.out)
      have HAA := Lib.hid hA
      have HBB := Lib.hid hB9
      obtain ⟨LA, hLA⟩ : ∃ LA, (tidyP 40 p).l = LA := ⟨_, rfl⟩
      obtain ⟨LB, hLB⟩ : ∃ LB, (tidyP 40 q).l = LB := ⟨_, rfl⟩
      have HLA := Lib.hid hLA
      have HLB := Lib.hid hLB
      have HAL := Lib.hid (show LA.length = n by rw [← hLA]; exact HHA.out.tl)
      have HBL := Lib.hid (show LB.length = m by rw [← hLB]; exact HHB.out.tl)
      have HAI := Lib.hid (show itsA 39 A = LA by rw [← hLA]; exact HHA.out.its)
      have HBI := Lib.hid (show itsA 39 B = LB by rw [← hLB]; exact HHB.out.its)
      have HAO := Lib.hid (show ∀ y ∈ LA, okI 39 y by rw [← hLA]; exact HHA.out.ok)
      have HBO := Lib.hid (show ∀ y ∈ LB, okI 39 y by rw [← hLB]; exact HHB.out.ok)
      have hfp := fld_its19
      have hfa := fld_arr16
      clear hA hB9 hLA hLB
      have HBOK := HBO
      clear HBO
      by_cases hfin : ∀ x ∈ l, Fnt x
      rotate_left
      · have HEX := Lib.hid (show ∃ x ∈ l, ¬ Fnt x by
          have h9 := hfin
          simp only [Classical.not_forall] at h9
          obtain ⟨x, hx, hnx⟩ := h9
          exact ⟨x, hx, hnx⟩)
        clear hfin
        have cHA0 := HA.out.2.1
        have cHA1 := HA.out.2.2.1
        have cHA2 := HA.out.2.2.2.1
        have cHA20 := HA2.out.2.1
        have cHA21 := HA2.out.2.2.1
        have cHA22 := HA2.out.2.2.2.1
        go_wp2_with fail
        refine (numbers_no _ l _ (by rw [HLL.out]; exact HLV.out) (by rw [HLL.out]; have := HL2.out; omega) HLW.out HEX.out).mono ?_
        rintro e W13 ⟨rfl, hB⟩
        clear cHA0 cHA1 cHA2 cHA20 cHA21 cHA22
        replace HA := Lib.hid (HA.out.below hB)
        replace HA2 := Lib.hid (HA2.out.below hB)
        replace HB := Lib.hid (HB.out.trans (hB.mono HB.out.size))
        replace HI := Lib.hid (HI.out.grow hB)
        replace HI2 := Lib.hid (HI2.out.grow hB)
        replace HT := Lib.hid (fun j hj => keep_below hB _ _ (HT.out j hj))
        replace HLV := Lib.hid (HLV.out.below hB)
        obtain ⟨un, hun⟩ : ∃ u, Value.nilIface = u := ⟨_, rfl⟩
        rw [hun]
        have hsun : ∀ (w : World) (a : Addr) (m : Mode), (store a un m).run Tryz.prog w = stored Tryz.prog w a un m := by subst hun; exact fun w a m => run_store Tryz.prog w a _ m rfl
        clear hun
        clear hB
        obtain ⟨W14, hWn⟩ : ∃ xw9, W13.alloc (.cells #[un] 36) = xw9 := ⟨_, rfl⟩
        have hB : Below W13.heap.size W13 W14 := by rw [← hWn]; exact below_new _ _
        have hNB : At1 W14 W13.heap.size (un) := by rw [← hWn]; exact At1.new _ _ _
        replace HA := Lib.hid (HA.out.below hB)
        replace HA2 := Lib.hid (HA2.out.below hB)
        replace HB := Lib.hid (HB.out.trans (hB.mono HB.out.size))
        replace HI := Lib.hid (HI.out.grow hB)
        replace HI2 := Lib.hid (HI2.out.grow hB)
        replace HT := Lib.hid (fun j hj => keep_below hB _ _ (HT.out j hj))
        replace HLV := Lib.hid (HLV.out.below hB)
        have HV9 := Lib.hid hNB
        clear hNB hB
        have cHA0 := HA.out.2.1
        have cHA1 := HA.out.2.2.1
        have cHA2 := HA.out.2.2.2.1
        have cHA20 := HA2.out.2.1
        have cHA21 := HA2.out.2.2.1
        have cHA22 := HA2.out.2.2.2.1
        have cHV90 := HV9.out.2.1
        go_wp2_with fail
        clear hWn
        refine (awake19_calls _ HT.out).mono ?_
        rintro e W15 ⟨rfl, hB⟩
        clear cHA0 cHA1 cHA2 cHA20 cHA21 cHA22 cHV90
        replace HA := Lib.hid (HA.out.below hB)
        replace HA2 := Lib.hid (HA2.out.below hB)
        replace HB := Lib.hid (HB.out.trans (hB.mono HB.out.size))
        replace HI := Lib.hid (HI.out.grow hB)
        replace HI2 := Lib.hid (HI2.out.grow hB)
        replace HT := Lib.hid (fun j hj => keep_below hB _ _ (HT.out j hj))
        replace HLV := Lib.hid (HLV.out.below hB)
        replace HV9 := Lib.hid (HV9.out.below hB)
        clear hB
        have cHA0 := HA.out.2.1
        have cHA1 := HA.out.2.2.1
        have cHA2 := HA.out.2.2.2.1
        have cHA20 := HA2.out.2.1
        have cHA21 := HA2.out.2.2.1
        have cHA22 := HA2.out.2.2.2.1
        have cHV90 := HV9.out.2.1
        go_wp2_with fail
        go_ret
        exact ⟨rfl, HB.out⟩
      have HFIN := Lib.hid hfin
      obtain ⟨t, ht⟩ : ∃ t, l.map ze = t := ⟨_, rfl⟩
      have HTE := Lib.hid ht
      have HTL := Lib.hid (show t.length = L by rw [← ht, List.length_map]; exact HLL.out)
      have HTN := Lib.hid (show ∀ x ∈ t, Num x by rw [← ht]; intro x hx; obtain ⟨y, hy, rfl⟩ := List.mem_map.1 hx; exact ze_num (hfin y hy))
      have hsp := sqL_spec (l := t) (by rw [HTL.out]; have := HL2.out; omega) HTN.out
      obtain ⟨VA, hVA⟩ : ∃ VA, sqL t = VA := ⟨_, rfl⟩
      rw [hVA] at hsp
      have HSP := Lib.hid hsp
      have HVA := Lib.hid hVA
      clear ht hsp hVA hfin
      have cHA0 := HA.out.2.1
      have cHA1 := HA.out.2.2.1
      have cHA2 := HA.out.2.2.2.1
      have cHA20 := HA2.out.2.1
      have cHA21 := HA2.out.2.2.1
      have cHA22 := HA2.out.2.2.2.1
      go_wp2_with fail
      refine (numbers_yes _ l _ (by rw [HLL.out]; exact HLV.out) (by rw [HLL.out]; have := HL2.out; omega) HFIN.out HT.out).mono ?_
      rintro e W13 ⟨u1, rfl, hu1, hB⟩
      clear cHA0 cHA1 cHA2 cHA20 cHA21 cHA22
      replace HA := Lib.hid (HA.out.below hB)
      replace HA2 := Lib.hid (HA2.out.below hB)
      replace HB := Lib.hid (HB.out.trans (hB.mono HB.out.size))
      replace HI := Lib.hid (HI.out.grow hB)
      replace HI2 := Lib.hid (HI2.out.grow hB)
      replace HT := Lib.hid (fun j hj => keep_below hB _ _ (HT.out j hj))
      replace HLV := Lib.hid (HLV.out.below hB)
      rw [HTE.out] at hu1
      have HU1 := Lib.hid (show IsV W13 (fun _ => True) u1 VA by rw [← HVA.out]; exact IsV.any hu1)
      have hsu1 := HU1.out.store
      clear hu1
      clear hB
      obtain ⟨W14, hWn⟩ : ∃ xw9, W13.alloc (.cells #[u1] 36) = xw9 := ⟨_, rfl⟩
      have hB : Below W13.heap.size W13 W14 := by rw [← hWn]; exact below_new _ _
      have hNB : At1 W14 W13.heap.size (u1) := by rw [← hWn]; exact At1.new _ _ _
      replace HA := Lib.hid (HA.out.below hB)
      replace HA2 := Lib.hid (HA2.out.below hB)
      replace HB := Lib.hid (HB.out.trans (hB.mono HB.out.size))
      replace HI := Lib.hid (HI.out.grow hB)
      replace HI2 := Lib.hid (HI2.out.grow hB)
      replace HT := Lib.hid (fun j hj => keep_below hB _ _ (HT.out j hj))
      replace HLV := Lib.hid (HLV.out.below hB)
      replace HU1 := Lib.hid (HU1.out.grow hB)
      have HV1 := Lib.hid hNB
      clear hNB hB
      have cHA0 := HA.out.2.1
      have cHA1 := HA.out.2.2.1
      have cHA2 := HA.out.2.2.2.1
      have cHA20 := HA2.out.2.1
      have cHA21 := HA2.out.2.2.1
      have cHA22 := HA2.out.2.2.2.1
      have cHV10 := HV1.out.2.1
      go_wp2_with fail
      clear hWn
      obtain ⟨bf, hbf⟩ : ∃ bf, VA.fit kz = bf := ⟨_, rfl⟩
      have HBF := Lib.hid hbf
      obtain ⟨VB, hVB⟩ : ∃ VB, VA.into kz = VB := ⟨_, rfl⟩
      have HVB := Lib.hid hVB
      have HWB := Lib.hid (show bf = true → (VB.ok ∧ VB.nm) ∧ VB.kind ≠ 0 ∧ VB.cls = 0 ∧ VB.nums = t ∧ VB.len = t.length from fun h => by
        have h1 := VV.into_spec HSP.out.2.1 HSP.out.2.2.1 (hbf.trans h)
        rw [hVB] at h1
        obtain ⟨a1, a2, a3, a4, a5, a6⟩ := h1
        refine ⟨⟨a4, a5⟩, ?_, a3.trans HSP.out.2.2.2.1, a2.trans HSP.out.1, a6.trans HSP.out.2.2.2.2.2.2⟩
        rw [a1]; exact fit_kind (hbf.trans h) (by have := HSP.out.2.2.2.2.1; omega))
      have HKA := Lib.hid (show VA.kind ≠ 0 by have := HSP.out.2.2.2.2.1; omega)
      clear hbf hVB
      refine (sinto_calls _ VA kz _ HU1.out HSP.out.2.1 HSP.out.2.2.1 HT.out).mono ?_
      rintro e W15 ⟨u2, rfl, hu2, hB⟩
      clear cHA0 cHA1 cHA2 cHA20 cHA21 cHA22 cHV10
      replace HA := Lib.hid (HA.out.below hB)
      replace HA2 := Lib.hid (HA2.out.below hB)
      replace HB := Lib.hid (HB.out.trans (hB.mono HB.out.size))
      replace HI := Lib.hid (HI.out.grow hB)
      replace HI2 := Lib.hid (HI2.out.grow hB)
      replace HT := Lib.hid (fun j hj => keep_below hB _ _ (HT.out j hj))
      replace HLV := Lib.hid (HLV.out.below hB)
      replace HU1 := Lib.hid (HU1.out.grow hB)
      replace HV1 := Lib.hid (HV1.out.below hB)
      rw [HVB.out] at hu2
      rw [HBF.out]
      have HU2 := Lib.hid (show IsV W15 (fun _ => True) u2 VB from IsV.any hu2)
      have hsu2 := HU2.out.store
      clear hu2
      clear hB
      obtain ⟨W16, hWn⟩ : ∃ xw9, W15.alloc (.cells #[u2] 36) = xw9 := ⟨_, rfl⟩
      have hB : Below W15.heap.size W15 W16 := by rw [← hWn]; exact below_new _ _
      have hNB : At1 W16 W15.heap.size (u2) := by rw [← hWn]; exact At1.new _ _ _
      replace HA := Lib.hid (HA.out.below hB)
      replace HA2 := Lib.hid (HA2.out.below hB)
      replace HB := Lib.hid (HB.out.trans (hB.mono HB.out.size))
      replace HI := Lib.hid (HI.out.grow hB)
      replace HI2 := Lib.hid (HI2.out.grow hB)
      replace HT := Lib.hid (fun j hj => keep_below hB _ _ (HT.out j hj))
      replace HLV := Lib.hid (HLV.out.below hB)
      replace HU1 := Lib.hid (HU1.out.grow hB)
      replace HV1 := Lib.hid (HV1.out.below hB)
      replace HU2 := Lib.hid (HU2.out.grow hB)
      have HV2 := Lib.hid hNB
      clear hNB hB
      have cHA0 := HA.out.2.1
      have cHA1 := HA.out.2.2.1
      have cHA2 := HA.out.2.2.2.1
      have cHA20 := HA2.out.2.1
      have cHA21 := HA2.out.2.2.1
      have cHA22 := HA2.out.2.2.2.1
      have cHV10 := HV1.out.2.1
      have cHV20 := HV2.out.2.1
      go_wp2_with fail
      clear hWn
      clear cHA0 cHA1 cHA2 cHA20 cHA21 cHA22 cHV10 cHV20
      refine wp_midx 0 (fun s0 s1 w' => s1 = ((((((((((((((((((s0.put (some 8) (s1.tmps.getD 8 undef)).put (some 13) (s1.tmps.getD 13 undef)).put (some 46) (s1.tmps.getD 46 undef)).put (some 47) (s1.tmps.getD 47 undef)).put (some 48) (s1.tmps.getD 48 undef)).put (some 49) (s1.tmps.getD 49 undef)).put (some 50) (s1.tmps.getD 50 undef)).put (some 51) (s1.tmps.getD 51 undef)).put (some 52) (s1.tmps.getD 52 undef)).put (some 53) (s1.tmps.getD 53 undef)).put (some 54) (s1.tmps.getD 54 undef)).put (some 55) (s1.tmps.getD 55 undef)).put (some 56) (s1.tmps.getD 56 undef)).put (some 57) (s1.tmps.getD 57 undef)).put (some 58) (s1.tmps.getD 58 undef)).put (some 59) (s1.tmps.getD 59 undef)).put (some 60) (s1.tmps.getD 60 undef)).put (some 61) (s1.tmps.getD 61 undef)) ∧ Below W16.heap.size W16 w') ?_ ?_
      · go_loopw [13] (fun iv wr => ∃ k : Nat, k ≤ L ∧ iv = .int .i64 k ∧ Below W16.heap.size W16 wr) (fun iv _ => L - (intOf iv).toNat)
        case atStart => exact ⟨0, by omega, rfl, Below.refl _ _⟩
        case round =>
          obtain ⟨k, hk, rfl, hB⟩ := hrel
          have HW0 := Lib.hid hB
          replace HA := Lib.hid (HA.out.below hB)
          replace HA2 := Lib.hid (HA2.out.below hB)
          replace HB := Lib.hid (HB.out.trans (hB.mono HB.out.size))
          replace HI := Lib.hid (HI.out.grow hB)
          replace HI2 := Lib.hid (HI2.out.grow hB)
          replace HT := Lib.hid (fun j hj => keep_below hB _ _ (HT.out j hj))
          replace HLV := Lib.hid (HLV.out.below hB)
          replace HU1 := Lib.hid (HU1.out.grow hB)
          replace HV1 := Lib.hid (HV1.out.below hB)
          replace HU2 := Lib.hid (HU2.out.grow hB)
          replace HV2 := Lib.hid (HV2.out.below hB)
          clear hB
          cases bf
          · go_wp2
            first
              | exact HW0.out
              | exact ⟨trivial, by kernel_rfl, HW0.out⟩
              | exact ⟨rfl, by kernel_rfl, HW0.out⟩
          by_cases hlt : k < L
          rotate_left
          · go_wp2
            first
              | exact HW0.out
              | exact ⟨trivial, by kernel_rfl, HW0.out⟩
              | exact ⟨rfl, by kernel_rfl, HW0.out⟩
          have HWC := Lib.hid (HWB.out (by first | rfl | trivial))
          obtain ⟨z, hz⟩ : ∃ z, nkey t k = z := ⟨_, rfl⟩
          have HZ9 := Lib.hid hz
          have HLT := Lib.hid hlt
          clear hz
          have cHA0 := HA.out.2.1
          have cHA1 := HA.out.2.2.1
          have cHA2 := HA.out.2.2.2.1
          have cHA20 := HA2.out.2.1
          have cHA21 := HA2.out.2.2.1
          have cHA22 := HA2.out.2.2.2.1
          have cHV10 := HV1.out.2.1
          have cHV20 := HV2.out.2.1
          go_wp2_with fail
          clear cHA0 cHA1 cHA2 cHA20 cHA21 cHA22 cHV10 cHV20
          obtain ⟨W17, hWD⟩ : ∃ xw9, wr.drew = xw9 := ⟨_, rfl⟩
          have hB : Below wr.heap.size wr W17 := by rw [← hWD]; exact Below.drewN' (Below.refl _ _) 1
          replace HA := Lib.hid (HA.out.below hB)
          replace HA2 := Lib.hid (HA2.out.below hB)
          replace HB := Lib.hid (HB.out.trans (hB.mono HB.out.size))
          replace HI := Lib.hid (HI.out.grow hB)
          replace HI2 := Lib.hid (HI2.out.grow hB)
          replace HT := Lib.hid (fun j hj => keep_below hB _ _ (HT.out j hj))
          replace HLV := Lib.hid (HLV.out.below hB)
          replace HU1 := Lib.hid (HU1.out.grow hB)
          replace HV1 := Lib.hid (HV1.out.below hB)
          replace HU2 := Lib.hid (HU2.out.grow hB)
          replace HV2 := Lib.hid (HV2.out.below hB)
          replace HW0 := Lib.hid (HW0.out.trans (hB.mono HW0.out.size))
          clear hB
          refine wp_region_held_drew (S := fun w' => w'.cell? ⟨w.heap.size, 0, none⟩ = some (.slice so p.s.length sc) ∧ w'.cell? ⟨w.heap.size, 1, none⟩ = some (.slice io n ic) ∧ w'.cell? ⟨w.heap.size, 2, none⟩ = some (.int .i64 f) ∧ w'.cell? ⟨(w.heap.size + 1), 0, none⟩ = some (.slice qo q.s.length qc) ∧ w'.cell? ⟨(w.heap.size + 1), 1, none⟩ = some (.slice jo m jc) ∧ w'.cell? ⟨(w.heap.size + 1), 2, none⟩ = some (.int .i64 g) ∧ w'.cell? ⟨W13.heap.size, 0, none⟩ = some (u1) ∧ w'.cell? ⟨W15.heap.size, 0, none⟩ = some (u2)) (by kernel_rfl) (by rw [hWD]; exact ⟨HA.out.2.1, HA.out.2.2.1, HA.out.2.2.2.1, HA2.out.2.1, HA2.out.2.2.1, HA2.out.2.2.2.1, HV1.out.2.1, HV2.out.2.1⟩) (fun hHeld => ?_)
          rw [hWD] at hHeld ⊢
          clear hWD
          refine wpAnyH_take (i := 0) (v := ?_) rfl (by kernel_rfl) (by kernel_rfl) (by kernel_rfl) (fun _ _ _ h => absurd h.1 (by simp)) (Or.inl ⟨by rfl, ?_⟩) (by assumption) ?_
          rotate_left
          · (intro w hSw; (try dsimp only at hSw); go_simp; try with_reducible rfl)
          simp only [Act.put, List.getElem_toArray, List.getElem_cons_zero, List.setIfInBounds_toArray, List.set_cons_zero, List.set_cons_succ]
          refine wpAnyH_take (i := 1) (v := ?_) rfl (by kernel_rfl) (by kernel_rfl) (by kernel_rfl) (fun _ _ _ h => absurd h.1 (by simp)) (Or.inl ⟨by rfl, ?_⟩) (by assumption) ?_
          rotate_left
          · (intro w hSw; (try dsimp only at hSw); go_simp; try with_reducible rfl)
          simp only [Act.put, List.getElem_toArray, List.getElem_cons_succ, List.getElem_cons_zero, List.setIfInBounds_toArray, List.set_cons_zero, List.set_cons_succ]
          refine wpAnyH_take (i := 3) (v := ?_) rfl (by kernel_rfl) (by kernel_rfl) (by kernel_rfl) (fun _ _ _ h => absurd h.1 (by simp)) (Or.inl ⟨by rfl, ?_⟩) (by assumption) ?_
          rotate_left
          · (intro w hSw; (try dsimp only at hSw); go_simp; try with_reducible rfl)
          simp only [Act.put, List.getElem_toArray, List.getElem_cons_succ, List.getElem_cons_zero, List.setIfInBounds_toArray, List.set_cons_zero, List.set_cons_succ]
          refine wpAnyH_take (i := 4) (v := ?_) rfl (by kernel_rfl) (by kernel_rfl) (by kernel_rfl) (fun _ _ _ h => absurd h.1 (by simp)) (Or.inl ⟨by rfl, ?_⟩) (by assumption) ?_
          rotate_left
          · (intro w hSw; (try dsimp only at hSw); go_simp; try with_reducible rfl)
          simp only [Act.put, List.getElem_toArray, List.getElem_cons_succ, List.getElem_cons_zero, List.setIfInBounds_toArray, List.set_cons_zero, List.set_cons_succ]
          refine wpAnyH_ready (rs := [2]) (by kernel_rfl) (by simp) ?_
          refine AllReadyH.cons (o := _) rfl (fun K hK => ?_) ?_
          · clear hHeld
            go_simp
            refine (hkey_num _ VA t k _ HU1.out ⟨HSP.out.2.1, HSP.out.2.2.1⟩ HKA.out HSP.out.2.2.2.1 HSP.out.1 HSP.out.2.2.2.2.2.2 (by rw [HTL.out]; exact HLT.out) HT.out).mono ?_
            rintro e W18 ⟨rfl, hB⟩
            replace HA := Lib.hid (HA.out.below hB)
            replace HA2 := Lib.hid (HA2.out.below hB)
            replace HB := Lib.hid (HB.out.trans (hB.mono HB.out.size))
            replace HI := Lib.hid (HI.out.grow hB)
            replace HI2 := Lib.hid (HI2.out.grow hB)
            replace HT := Lib.hid (fun j hj => keep_below hB _ _ (HT.out j hj))
            replace HLV := Lib.hid (HLV.out.below hB)
            replace HU1 := Lib.hid (HU1.out.grow hB)
            replace HV1 := Lib.hid (HV1.out.below hB)
            replace HU2 := Lib.hid (HU2.out.grow hB)
            replace HV2 := Lib.hid (HV2.out.below hB)
            replace HW0 := Lib.hid (HW0.out.trans (hB.mono HW0.out.size))
            rw [HZ9.out]
            clear hB
            refine hK.out _ _ ?_ (fun hHeld => ?_)
            · exact ⟨HA.out.2.1, HA.out.2.2.1, HA.out.2.2.2.1, HA2.out.2.1, HA2.out.2.2.1, HA2.out.2.2.2.1, HV1.out.2.1, HV2.out.2.1⟩
            clear hK K
            refine wpAnyH_ready (rs := [5]) (by kernel_rfl) (by simp) ?_
            refine AllReadyH.cons (o := _) rfl (fun K hK => ?_) ?_
            · clear hHeld
              go_simp
              refine (hkey_num _ VB t k _ HU2.out HWC.out.1 HWC.out.2.1 HWC.out.2.2.1 HWC.out.2.2.2.1 HWC.out.2.2.2.2 (by rw [HTL.out]; exact HLT.out) HT.out).mono ?_
              rintro e W19 ⟨rfl, hB⟩
              replace HA := Lib.hid (HA.out.below hB)
              replace HA2 := Lib.hid (HA2.out.below hB)
              replace HB := Lib.hid (HB.out.trans (hB.mono HB.out.size))
              replace HI := Lib.hid (HI.out.grow hB)
              replace HI2 := Lib.hid (HI2.out.grow hB)
              replace HT := Lib.hid (fun j hj => keep_below hB _ _ (HT.out j hj))
              replace HLV := Lib.hid (HLV.out.below hB)
              replace HU1 := Lib.hid (HU1.out.grow hB)
              replace HV1 := Lib.hid (HV1.out.below hB)
              replace HU2 := Lib.hid (HU2.out.grow hB)
              replace HV2 := Lib.hid (HV2.out.below hB)
              replace HW0 := Lib.hid (HW0.out.trans (hB.mono HW0.out.size))
              rw [HZ9.out]
              clear hB
              refine hK.out _ _ ?_ (fun hHeld => ?_)
              · exact ⟨HA.out.2.1, HA.out.2.2.1, HA.out.2.2.2.1, HA2.out.2.1, HA2.out.2.2.1, HA2.out.2.2.2.1, HV1.out.2.1, HV2.out.2.1⟩
              clear hK K
              refine wpAnyH_take (i := 6) (v := ?_) rfl (by kernel_rfl) (by kernel_rfl) (by kernel_rfl) (fun _ _ _ h => absurd h.1 (by simp)) (Or.inl ⟨by rfl, ?_⟩) (by assumption) ?_
              rotate_left
              · (intro w hSw; (try dsimp only at hSw); go_simp; try with_reducible rfl)
              simp only [Act.put, List.getElem_toArray, List.getElem_cons_succ, List.getElem_cons_zero, List.setIfInBounds_toArray, List.set_cons_zero, List.set_cons_succ]
              refine wpAnyH_done (by kernel_rfl) ?_ _
              clear hHeld
              have hl9 := HL2.out
              have hlt9 := HLT.out
              go_wp2
              go_roundw
              case rel => exact ⟨k + 1, by omega, by go_num, HW0.out⟩
              case measure => simp [intOf]; omega
            exact AllReadyH.nil
          exact AllReadyH.nil
      intro s1 W18 h9
      obtain ⟨h9, hB⟩ := h9
      generalize s1.tmps.getD 8 undef = x8 at h9
      generalize s1.tmps.getD 13 undef = x13 at h9
      generalize s1.tmps.getD 46 undef = x46 at h9
      generalize s1.tmps.getD 47 undef = x47 at h9
      generalize s1.tmps.getD 48 undef = x48 at h9
      generalize s1.tmps.getD 49 undef = x49 at h9
      generalize s1.tmps.getD 50 undef = x50 at h9
      generalize s1.tmps.getD 51 undef = x51 at h9
      generalize s1.tmps.getD 52 undef = x52 at h9
      generalize s1.tmps.getD 53 undef = x53 at h9
      generalize s1.tmps.getD 54 undef = x54 at h9
      generalize s1.tmps.getD 55 undef = x55 at h9
      generalize s1.tmps.getD 56 undef = x56 at h9
      generalize s1.tmps.getD 57 undef = x57 at h9
      generalize s1.tmps.getD 58 undef = x58 at h9
      generalize s1.tmps.getD 59 undef = x59 at h9
      generalize s1.tmps.getD 60 undef = x60 at h9
      generalize s1.tmps.getD 61 undef = x61 at h9
      subst h9
      replace HA := Lib.hid (HA.out.below hB)
      replace HA2 := Lib.hid (HA2.out.below hB)
      replace HB := Lib.hid (HB.out.trans (hB.mono HB.out.size))
      replace HI := Lib.hid (HI.out.grow hB)
      replace HI2 := Lib.hid (HI2.out.grow hB)
      replace HT := Lib.hid (fun j hj => keep_below hB _ _ (HT.out j hj))
      replace HLV := Lib.hid (HLV.out.below hB)
      replace HU1 := Lib.hid (HU1.out.grow hB)
      replace HV1 := Lib.hid (HV1.out.below hB)
      replace HU2 := Lib.hid (HU2.out.grow hB)
      replace HV2 := Lib.hid (HV2.out.below hB)
      clear hB
      simp only [Act.put, List.setIfInBounds_toArray, List.set_cons_zero, List.set_cons_succ]
      have cHA0 := HA.out.2.1
      have cHA1 := HA.out.2.2.1
      have cHA2 := HA.out.2.2.2.1
      have cHA20 := HA2.out.2.1
      have cHA21 := HA2.out.2.2.1
      have cHA22 := HA2.out.2.2.2.1
      go_wp2_with fail
      clear cHA0 cHA1 cHA2 cHA20 cHA21 cHA22
      refine wp_mid (fun s0 s1 w' => ∃ (uT uS : Value) (tio tjo : Option Addr) (tic tjc : Nat), s1 = ((((((((s0.put (some 62) (.agg #[.slice so p.s.length sc, .slice io n ic, .int .i64 f])).put (some 63) uT).put (some 64) (.slice tio n tic)).put (some 65) (.agg #[.slice qo q.s.length qc, .slice jo m jc, .int .i64 g])).put (some 66) uS).put (some 67) (.slice tjo m tjc)).put (some 14) (.slice tio n tic)).put (some 15) (.slice tjo m tjc)) ∧ Its w' (fun _ => True) (.slice tio n tic) LA ∧ Its w' (fun _ => True) (.slice tjo m tjc) LB ∧ Below W18.heap.size W18 w') ?_ ?_
      · have HW0 := Lib.hid (Below.refl W18.heap.size W18)
        obtain ⟨W19, hWD⟩ : ∃ xw9, W18.drew = xw9 := ⟨_, rfl⟩
        have hB : Below W18.heap.size W18 W19 := by rw [← hWD]; exact Below.drewN' (Below.refl _ _) 1
        replace HA := Lib.hid (HA.out.below hB)
        replace HA2 := Lib.hid (HA2.out.below hB)
        replace HB := Lib.hid (HB.out.trans (hB.mono HB.out.size))
        replace HI := Lib.hid (HI.out.grow hB)
        replace HI2 := Lib.hid (HI2.out.grow hB)
        replace HT := Lib.hid (fun j hj => keep_below hB _ _ (HT.out j hj))
        replace HW0 := Lib.hid (HW0.out.trans (hB.mono HW0.out.size))
        clear hB
        refine wp_region_held_drew (S := fun w' => w'.cell? ⟨w.heap.size, 0, none⟩ = some (.slice so p.s.length sc) ∧ w'.cell? ⟨w.heap.size, 1, none⟩ = some (.slice io n ic) ∧ w'.cell? ⟨w.heap.size, 2, none⟩ = some (.int .i64 f) ∧ w'.cell? ⟨(w.heap.size + 1), 0, none⟩ = some (.slice qo q.s.length qc) ∧ w'.cell? ⟨(w.heap.size + 1), 1, none⟩ = some (.slice jo m jc) ∧ w'.cell? ⟨(w.heap.size + 1), 2, none⟩ = some (.int .i64 g)) (by kernel_rfl) (by rw [hWD]; exact ⟨HA.out.2.1, HA.out.2.2.1, HA.out.2.2.2.1, HA2.out.2.1, HA2.out.2.2.1, HA2.out.2.2.2.1⟩) (fun hHeld => ?_)
        rw [hWD] at hHeld ⊢
        clear hWD
        refine wpAnyH_take (i := 0) (v := ?_) rfl (by kernel_rfl) (by kernel_rfl) (by kernel_rfl) (fun _ _ _ h => absurd h.1 (by simp)) (Or.inl ⟨by rfl, ?_⟩) (by assumption) ?_
        rotate_left
        · (intro w hSw; (try dsimp only at hSw); go_simp; try with_reducible rfl)
        simp only [Act.put, List.getElem_toArray, List.getElem_cons_zero, List.setIfInBounds_toArray, List.set_cons_zero, List.set_cons_succ]
        refine wpAnyH_take (i := 3) (v := ?_) rfl (by kernel_rfl) (by kernel_rfl) (by kernel_rfl) (fun _ _ _ h => absurd h.1 (by simp)) (Or.inl ⟨by rfl, ?_⟩) (by assumption) ?_
        rotate_left
        · (intro w hSw; (try dsimp only at hSw); go_simp; try with_reducible rfl)
        simp only [Act.put, List.getElem_toArray, List.getElem_cons_succ, List.getElem_cons_zero, List.setIfInBounds_toArray, List.set_cons_zero, List.set_cons_succ]
        refine wpAnyH_ready (rs := [1]) (by kernel_rfl) (by simp) ?_
        refine AllReadyH.cons (o := _) rfl (fun K hK => ?_) ?_
        · clear hHeld
          go_simp
          refine (ptidy_calls 40 (fun b => True) p _ _ HC1.out.1 (HI.out)).mono ?_
          rintro e W20 ⟨ut, rfl, hut, hB⟩
          replace HA := Lib.hid (HA.out.below hB)
          replace HA2 := Lib.hid (HA2.out.below hB)
          replace HB := Lib.hid (HB.out.trans (hB.mono HB.out.size))
          replace HI := Lib.hid (HI.out.grow hB)
          replace HI2 := Lib.hid (HI2.out.grow hB)
          replace HT := Lib.hid (fun j hj => keep_below hB _ _ (HT.out j hj))
          replace HW0 := Lib.hid (HW0.out.trans (hB.mono HW0.out.size))
          obtain ⟨tso, tsc, tio, tic, rfl, _, hti⟩ := hut.opened
          rw [HLA.out, HAL.out] at hti ⊢
          have HTI := Lib.hid (show Its W20 (fun _ => True) (.slice tio n tic) LA from hti.wide (fun _ _ _ => trivial))
          clear hut hti
          clear hB
          refine hK.out _ _ ?_ (fun hHeld => ?_)
          · exact ⟨HA.out.2.1, HA.out.2.2.1, HA.out.2.2.2.1, HA2.out.2.1, HA2.out.2.2.1, HA2.out.2.2.2.1⟩
          clear hK K
          refine wpAnyH_take (i := 2) (v := ?_) rfl (by kernel_rfl) (by kernel_rfl) (by kernel_rfl) (fun _ _ _ h => absurd h.1 (by simp)) (Or.inl ⟨by rfl, ?_⟩) (by assumption) ?_
          rotate_left
          · (intro w hSw; (try dsimp only at hSw); go_simp; try with_reducible rfl)
          simp only [Act.put, List.getElem_toArray, List.getElem_cons_succ, List.getElem_cons_zero, List.setIfInBounds_toArray, List.set_cons_zero, List.set_cons_succ]
          refine wpAnyH_ready (rs := [4]) (by kernel_rfl) (by simp) ?_
          refine AllReadyH.cons (o := _) rfl (fun K hK => ?_) ?_
          · clear hHeld
            go_simp
            refine (ptidy_calls 40 (fun b => True) q _ _ HC2.out.1 (HI2.out)).mono ?_
            rintro e W21 ⟨us, rfl, hut, hB⟩
            replace HA := Lib.hid (HA.out.below hB)
            replace HA2 := Lib.hid (HA2.out.below hB)
            replace HB := Lib.hid (HB.out.trans (hB.mono HB.out.size))
            replace HI := Lib.hid (HI.out.grow hB)
            replace HI2 := Lib.hid (HI2.out.grow hB)
            replace HT := Lib.hid (fun j hj => keep_below hB _ _ (HT.out j hj))
            replace HW0 := Lib.hid (HW0.out.trans (hB.mono HW0.out.size))
            replace HTI := Lib.hid (HTI.out.grow hB)
            obtain ⟨tsq, tcq, tjo, tjc, rfl, _, hti⟩ := hut.opened
            rw [HLB.out, HBL.out] at hti ⊢
            have HTJ := Lib.hid (show Its W21 (fun _ => True) (.slice tjo m tjc) LB from hti.wide (fun _ _ _ => trivial))
            clear hut hti
            clear hB
            refine hK.out _ _ ?_ (fun hHeld => ?_)
            · exact ⟨HA.out.2.1, HA.out.2.2.1, HA.out.2.2.2.1, HA2.out.2.1, HA2.out.2.2.1, HA2.out.2.2.2.1⟩
            clear hK K
            refine wpAnyH_take (i := 5) (v := ?_) rfl (by kernel_rfl) (by kernel_rfl) (by kernel_rfl) (fun _ _ _ h => absurd h.1 (by simp)) (Or.inl ⟨by rfl, ?_⟩) (by assumption) ?_
            rotate_left
            · (intro w hSw; (try dsimp only at hSw); go_simp; try with_reducible rfl)
            simp only [Act.put, List.getElem_toArray, List.getElem_cons_succ, List.getElem_cons_zero, List.setIfInBounds_toArray, List.set_cons_zero, List.set_cons_succ]
            refine wpAnyH_take (i := 6) (v := ?_) rfl (by kernel_rfl) (by kernel_rfl) (by kernel_rfl) (fun _ _ _ h => absurd h.1 (by simp)) (Or.inl ⟨by rfl, ?_⟩) (by assumption) ?_
            rotate_left
            · (intro w hSw; (try dsimp only at hSw); go_simp; try with_reducible rfl)
            simp only [Act.put, List.getElem_toArray, List.getElem_cons_succ, List.getElem_cons_zero, List.setIfInBounds_toArray, List.set_cons_zero, List.set_cons_succ]
            refine wpAnyH_take (i := 7) (v := ?_) rfl (by kernel_rfl) (by kernel_rfl) (by kernel_rfl) (fun _ _ _ h => absurd h.1 (by simp)) (Or.inl ⟨by rfl, ?_⟩) (by assumption) ?_
            rotate_left
            · (intro w hSw; (try dsimp only at hSw); go_simp; try with_reducible rfl)
            simp only [Act.put, List.getElem_toArray, List.getElem_cons_succ, List.getElem_cons_zero, List.setIfInBounds_toArray, List.set_cons_zero, List.set_cons_succ]
            refine wpAnyH_done (by kernel_rfl) ?_ _
            clear hHeld
            exact ⟨rfl, _, _, tio, tjo, tic, tjc, rfl, HTI.out, HTJ.out, HW0.out⟩
          exact AllReadyH.nil
        exact AllReadyH.nil
      rintro _ W20 ⟨uT, uS, tio, tjo, tic, tjc, rfl, h1, h2, hB⟩
      replace HA := Lib.hid (HA.out.below hB)
      replace HA2 := Lib.hid (HA2.out.below hB)
      replace HB := Lib.hid (HB.out.trans (hB.mono HB.out.size))
      replace HI := Lib.hid (HI.out.grow hB)
      replace HI2 := Lib.hid (HI2.out.grow hB)
      replace HT := Lib.hid (fun j hj => keep_below hB _ _ (HT.out j hj))
      have HTI := Lib.hid h1
      have HTJ := Lib.hid h2
      clear h1 h2 hB
      simp only [Act.put, List.setIfInBounds_toArray, List.set_cons_zero, List.set_cons_succ]
      have HBO := Lib.hid (Below.refl W20.heap.size W20)
      go_wp2_with fail
      go_loopw [16] (fun iv wr => ∃ i : Nat, i ≤ n ∧ iv = .int .i64 i ∧ Below W20.heap.size W20 wr) (fun iv _ => n - (intOf iv).toNat)
      case atStart => exact ⟨0, by omega, rfl, Below.refl _ _⟩
      case round =>
        obtain ⟨i, hi, rfl, hB⟩ := hrel
        replace HA := Lib.hid (HA.out.below hB)
        replace HA2 := Lib.hid (HA2.out.below hB)
        replace HB := Lib.hid (HB.out.trans (hB.mono HB.out.size))
        replace HI := Lib.hid (HI.out.grow hB)
        replace HI2 := Lib.hid (HI2.out.grow hB)
        replace HT := Lib.hid (fun j hj => keep_below hB _ _ (HT.out j hj))
        replace HTI := Lib.hid (HTI.out.grow hB)
        replace HTJ := Lib.hid (HTJ.out.grow hB)
        replace HBO := Lib.hid (HBO.out.trans (hB.mono HBO.out.size))
        clear hB
        by_cases hin : i < n
        rotate_left
        · go_wp2_with fail
          refine (awake19_calls _ HT.out).mono ?_
          rintro e W21 ⟨rfl, hB⟩
          replace HA := Lib.hid (HA.out.below hB)
          replace HA2 := Lib.hid (HA2.out.below hB)
          replace HB := Lib.hid (HB.out.trans (hB.mono HB.out.size))
          replace HI := Lib.hid (HI.out.grow hB)
          replace HI2 := Lib.hid (HI2.out.grow hB)
          replace HT := Lib.hid (fun j hj => keep_below hB _ _ (HT.out j hj))
          replace HTI := Lib.hid (HTI.out.grow hB)
          replace HTJ := Lib.hid (HTJ.out.grow hB)
          replace HBO := Lib.hid (HBO.out.trans (hB.mono HBO.out.size))
          clear hB
          have cHA0 := HA.out.2.1
          have cHA1 := HA.out.2.2.1
          have cHA2 := HA.out.2.2.2.1
          have cHA20 := HA2.out.2.1
          have cHA21 := HA2.out.2.2.1
          have cHA22 := HA2.out.2.2.2.1
          go_wp2_with fail
          go_ret
          exact ⟨rfl, HB.out⟩
        have HIN := Lib.hid hin
        obtain ⟨x, hx⟩ : ∃ x, LA[i]? = some x := ⟨_, List.getElem?_eq_getElem (by rw [HAL.out]; exact hin)⟩
        have HX := Lib.hid hx
        have HOX := Lib.hid (HAO.out x (List.mem_of_getElem? hx))
        clear hx
        go_wp2_with fail
        go_loopw [17] (fun jv wq => ∃ j : Nat, j ≤ m ∧ jv = .int .i64 j ∧ Below wr.heap.size wr wq) (fun jv _ => m - (intOf jv).toNat)
        case atStart => exact ⟨0, by omega, rfl, Below.refl _ _⟩
        case round =>
          obtain ⟨j, hj, rfl, hB⟩ := hrel
          have HBI2 := Lib.hid hB
          replace HA := Lib.hid (HA.out.below hB)
          replace HA2 := Lib.hid (HA2.out.below hB)
          replace HB := Lib.hid (HB.out.trans (hB.mono HB.out.size))
          replace HI := Lib.hid (HI.out.grow hB)
          replace HI2 := Lib.hid (HI2.out.grow hB)
          replace HT := Lib.hid (fun j hj => keep_below hB _ _ (HT.out j hj))
          replace HTI := Lib.hid (HTI.out.grow hB)
          replace HTJ := Lib.hid (HTJ.out.grow hB)
          replace HBO := Lib.hid (HBO.out.trans (hB.mono HBO.out.size))
          clear hB
          by_cases hjm : j < m
          rotate_left
          · have hn9 := HN1.out
            have hin9 := HIN.out
            go_wp2
            go_roundw
            case rel => exact ⟨i + 1, by omega, by go_num, HBO.out⟩
            case measure => simp [intOf]; omega
          have HJM := Lib.hid hjm
          obtain ⟨y, hy⟩ : ∃ y, LB[j]? = some y := ⟨_, List.getElem?_eq_getElem (by rw [HBL.out]; exact hjm)⟩
          have HY := Lib.hid hy
          have HOY := Lib.hid (HBOK.out y (List.mem_of_getElem? hy))
          clear hy
          obtain ⟨lb, loff, lbo, lbc, rfl, _, d0, d1, d2, d3, hbx⟩ := HTI.out.at HX.out
          have HCX := Lib.hid (And.intro d0 (And.intro d1 (And.intro d2 d3)))
          have HBX := Lib.hid hbx
          clear d0 d1 d2 d3 hbx
          obtain ⟨mb, moff, mbo, mbc, rfl, _, d0, d1, d2, d3, hby⟩ := HTJ.out.at HY.out
          have HCY := Lib.hid (And.intro d0 (And.intro d1 (And.intro d2 d3)))
          have HBY := Lib.hid hby
          clear d0 d1 d2 d3 hby
          obtain ⟨bb, hbb⟩ : ∃ bb, iq x y = bb := ⟨_, rfl⟩
          have HBB9 := Lib.hid hbb
          clear hbb
          cases bb
          · have cHA0 := HA.out.2.1
            have cHA1 := HA.out.2.2.1
            have cHA2 := HA.out.2.2.2.1
            have cHA20 := HA2.out.2.1
            have cHA21 := HA2.out.2.2.1
            have cHA22 := HA2.out.2.2.2.1
            have cHCX0 := HCX.out.1
            have cHCX1 := HCX.out.2.1
            have cHCX2 := HCX.out.2.2.1
            have cHCX3 := HCX.out.2.2.2
            have cHCY0 := HCY.out.1
            have cHCY1 := HCY.out.2.1
            have cHCY2 := HCY.out.2.2.1
            have cHCY3 := HCY.out.2.2.2
            go_wp2_with fail
            clear cHA0 cHA1 cHA2 cHA20 cHA21 cHA22 cHCX0 cHCX1 cHCX2 cHCX3 cHCY0 cHCY1 cHCY2 cHCY3
            obtain ⟨W21, hWD⟩ : ∃ xw9, wr.drew = xw9 := ⟨_, rfl⟩
            have hB : Below wr.heap.size wr W21 := by rw [← hWD]; exact Below.drewN' (Below.refl _ _) 1
            replace HA := Lib.hid (HA.out.below hB)
            replace HA2 := Lib.hid (HA2.out.below hB)
            replace HB := Lib.hid (HB.out.trans (hB.mono HB.out.size))
            replace HI := Lib.hid (HI.out.grow hB)
            replace HI2 := Lib.hid (HI2.out.grow hB)
            replace HT := Lib.hid (fun j hj => keep_below hB _ _ (HT.out j hj))
            replace HBO := Lib.hid (HBO.out.trans (hB.mono HBO.out.size))
            replace HBI2 := Lib.hid (HBI2.out.trans (hB.mono HBI2.out.size))
            replace HCX := Lib.hid (And.intro (keep_below hB _ _ HCX.out.1) (And.intro (keep_below hB _ _ HCX.out.2.1) (And.intro (keep_below hB _ _ HCX.out.2.2.1) (keep_below hB _ _ HCX.out.2.2.2))))
            replace HCY := Lib.hid (And.intro (keep_below hB _ _ HCY.out.1) (And.intro (keep_below hB _ _ HCY.out.2.1) (And.intro (keep_below hB _ _ HCY.out.2.2.1) (keep_below hB _ _ HCY.out.2.2.2))))
            replace HBX := Lib.hid (HBX.out.grow hB)
            replace HBY := Lib.hid (HBY.out.grow hB)
            clear hB
            refine wp_region_held_drew (S := fun w' => w'.cell? ⟨w.heap.size, 0, none⟩ = some (.slice so p.s.length sc) ∧ w'.cell? ⟨w.heap.size, 1, none⟩ = some (.slice io n ic) ∧ w'.cell? ⟨w.heap.size, 2, none⟩ = some (.int .i64 f) ∧ w'.cell? ⟨(w.heap.size + 1), 0, none⟩ = some (.slice qo q.s.length qc) ∧ w'.cell? ⟨(w.heap.size + 1), 1, none⟩ = some (.slice jo m jc) ∧ w'.cell? ⟨(w.heap.size + 1), 2, none⟩ = some (.int .i64 g) ∧ w'.cell? ⟨lb, loff + i * 4, none⟩ = some (.int .i64 x.1) ∧ w'.cell? ⟨lb, loff + i * 4 + 1, none⟩ = some (.float .f64 x.2.1) ∧ w'.cell? ⟨lb, loff + i * 4 + 2, none⟩ = some (.int .i32 x.2.2.1) ∧ w'.cell? ⟨lb, loff + i * 4 + 3, none⟩ = some (.slice lbo x.2.2.2.length lbc) ∧ w'.cell? ⟨mb, moff + j * 4, none⟩ = some (.int .i64 y.1) ∧ w'.cell? ⟨mb, moff + j * 4 + 1, none⟩ = some (.float .f64 y.2.1) ∧ w'.cell? ⟨mb, moff + j * 4 + 2, none⟩ = some (.int .i32 y.2.2.1) ∧ w'.cell? ⟨mb, moff + j * 4 + 3, none⟩ = some (.slice mbo y.2.2.2.length mbc)) (by kernel_rfl) (by rw [hWD]; exact ⟨HA.out.2.1, HA.out.2.2.1, HA.out.2.2.2.1, HA2.out.2.1, HA2.out.2.2.1, HA2.out.2.2.2.1, HCX.out.1, HCX.out.2.1, HCX.out.2.2.1, HCX.out.2.2.2, HCY.out.1, HCY.out.2.1, HCY.out.2.2.1, HCY.out.2.2.2⟩) (fun hHeld => ?_)
            rw [hWD] at hHeld ⊢
            clear hWD
            refine wpAnyH_take (i := 0) (v := ?_) rfl (by kernel_rfl) (by kernel_rfl) (by kernel_rfl) (fun _ _ _ h => h) (Or.inl ⟨by rfl, ?_⟩) (by assumption) ?_
            rotate_left
            · (intro w hSw; (try dsimp only at hSw); go_simp; try with_reducible rfl)
            simp only [Act.put, List.getElem_toArray, List.getElem_cons_zero, List.setIfInBounds_toArray, List.set_cons_zero, List.set_cons_succ]
            refine wpAnyH_take (i := 1) (v := ?_) rfl (by kernel_rfl) (by kernel_rfl) (by kernel_rfl) (fun _ _ _ h => h) (Or.inl ⟨by rfl, ?_⟩) (by assumption) ?_
            rotate_left
            · (intro w hSw; (try dsimp only at hSw); go_simp; try with_reducible rfl)
            simp only [Act.put, List.getElem_toArray, List.getElem_cons_succ, List.getElem_cons_zero, List.setIfInBounds_toArray, List.set_cons_zero, List.set_cons_succ]
            refine wpAnyH_take (i := 2) (v := ?_) rfl (by kernel_rfl) (by kernel_rfl) (by kernel_rfl) (fun _ _ _ h => h) (Or.inl ⟨by rfl, ?_⟩) (by assumption) ?_
            rotate_left
            · (intro w hSw; (try dsimp only at hSw); go_simp; try with_reducible rfl)
            simp only [Act.put, List.getElem_toArray, List.getElem_cons_succ, List.getElem_cons_zero, List.setIfInBounds_toArray, List.set_cons_zero, List.set_cons_succ]
            refine wpAnyH_take (i := 3) (v := ?_) rfl (by kernel_rfl) (by kernel_rfl) (by kernel_rfl) (fun _ _ _ h => h) (Or.inl ⟨by rfl, ?_⟩) (by assumption) ?_
            rotate_left
            · (intro w hSw; (try dsimp only at hSw); go_simp; try with_reducible rfl)
            simp only [Act.put, List.getElem_toArray, List.getElem_cons_succ, List.getElem_cons_zero, List.setIfInBounds_toArray, List.set_cons_zero, List.set_cons_succ]
            refine wpAnyH_take (i := 4) (v := ?_) rfl (by kernel_rfl) (by kernel_rfl) (by kernel_rfl) (fun _ _ _ h => h) (Or.inl ⟨by rfl, ?_⟩) (by assumption) ?_
            rotate_left
            · (intro w hSw; (try dsimp only at hSw); go_simp; try with_reducible rfl)
            simp only [Act.put, List.getElem_toArray, List.getElem_cons_succ, List.getElem_cons_zero, List.setIfInBounds_toArray, List.set_cons_zero, List.set_cons_succ]
            refine wpAnyH_take (i := 5) (v := ?_) rfl (by kernel_rfl) (by kernel_rfl) (by kernel_rfl) (fun _ _ _ h => h) (Or.inl ⟨by rfl, ?_⟩) (by assumption) ?_
            rotate_left
            · (intro w hSw; (try dsimp only at hSw); go_simp; try with_reducible rfl)
            simp only [Act.put, List.getElem_toArray, List.getElem_cons_succ, List.getElem_cons_zero, List.setIfInBounds_toArray, List.set_cons_zero, List.set_cons_succ]
            refine wpAnyH_take (i := 6) (v := ?_) rfl (by kernel_rfl) (by kernel_rfl) (by kernel_rfl) (fun _ _ _ h => h) (Or.inl ⟨by rfl, ?_⟩) (by assumption) ?_
            rotate_left
            · (intro w hSw; (try dsimp only at hSw); go_simp; try with_reducible rfl)
            simp only [Act.put, List.getElem_toArray, List.getElem_cons_succ, List.getElem_cons_zero, List.setIfInBounds_toArray, List.set_cons_zero, List.set_cons_succ]
            refine wpAnyH_take (i := 7) (v := ?_) rfl (by kernel_rfl) (by kernel_rfl) (by kernel_rfl) (fun _ _ _ h => h) (Or.inl ⟨by rfl, ?_⟩) (by assumption) ?_
            rotate_left
            · (intro w hSw; (try dsimp only at hSw); go_simp; try with_reducible rfl)
            simp only [Act.put, List.getElem_toArray, List.getElem_cons_succ, List.getElem_cons_zero, List.setIfInBounds_toArray, List.set_cons_zero, List.set_cons_succ]
            refine wpAnyH_ready (rs := [8]) (by kernel_rfl) (by simp) ?_
            refine AllReadyH.cons (o := _) rfl (fun K hK => ?_) ?_
            · clear hHeld
              go_simp
              refine (pitem_calls 39 (psame_calls 39) _ _ x y _ _ _ _ 39 _ HOX.out.1 HOY.out.1 HOX.out.2 HOY.out.2 HBX.out HBY.out).mono ?_
              rintro e W22 ⟨rfl, hB⟩
              replace HA := Lib.hid (HA.out.below hB)
              replace HA2 := Lib.hid (HA2.out.below hB)
              replace HB := Lib.hid (HB.out.trans (hB.mono HB.out.size))
              replace HI := Lib.hid (HI.out.grow hB)
              replace HI2 := Lib.hid (HI2.out.grow hB)
              replace HT := Lib.hid (fun j hj => keep_below hB _ _ (HT.out j hj))
              replace HBO := Lib.hid (HBO.out.trans (hB.mono HBO.out.size))
              replace HBI2 := Lib.hid (HBI2.out.trans (hB.mono HBI2.out.size))
              replace HCX := Lib.hid (And.intro (keep_below hB _ _ HCX.out.1) (And.intro (keep_below hB _ _ HCX.out.2.1) (And.intro (keep_below hB _ _ HCX.out.2.2.1) (keep_below hB _ _ HCX.out.2.2.2))))
              replace HCY := Lib.hid (And.intro (keep_below hB _ _ HCY.out.1) (And.intro (keep_below hB _ _ HCY.out.2.1) (And.intro (keep_below hB _ _ HCY.out.2.2.1) (keep_below hB _ _ HCY.out.2.2.2))))
              replace HBX := Lib.hid (HBX.out.grow hB)
              replace HBY := Lib.hid (HBY.out.grow hB)
              rw [HBB9.out]
              clear hB
              refine hK.out _ _ ?_ (fun hHeld => ?_)
              · exact ⟨HA.out.2.1, HA.out.2.2.1, HA.out.2.2.2.1, HA2.out.2.1, HA2.out.2.2.1, HA2.out.2.2.2.1, HCX.out.1, HCX.out.2.1, HCX.out.2.2.1, HCX.out.2.2.2, HCY.out.1, HCY.out.2.1, HCY.out.2.2.1, HCY.out.2.2.2⟩
              clear hK K
              refine wpAnyH_take (i := 9) (v := ?_) rfl (by kernel_rfl) (by kernel_rfl) (by kernel_rfl) (fun _ _ _ h => h) (Or.inl ⟨by rfl, ?_⟩) (by assumption) ?_
              rotate_left
              · (intro w hSw; (try dsimp only at hSw); go_simp; try with_reducible rfl)
              simp only [Act.put, List.getElem_toArray, List.getElem_cons_succ, List.getElem_cons_zero, List.setIfInBounds_toArray, List.set_cons_zero, List.set_cons_succ]
              refine wpAnyH_take (i := 10) (v := undef) rfl (by kernel_rfl) (by kernel_rfl) (by kernel_rfl) (fun _ _ _ h => h) (Or.inr ⟨by rfl, rfl⟩) (by assumption) ?_
              simp only [Act.put, List.getElem_toArray, List.getElem_cons_succ, List.getElem_cons_zero, List.setIfInBounds_toArray, List.set_cons_zero, List.set_cons_succ]
              refine wpAnyH_take (i := 11) (v := undef) rfl (by kernel_rfl) (by kernel_rfl) (by kernel_rfl) (fun _ _ _ h => h) (Or.inr ⟨by rfl, rfl⟩) (by assumption) ?_
              simp only [Act.put, List.getElem_toArray, List.getElem_cons_succ, List.getElem_cons_zero, List.setIfInBounds_toArray, List.set_cons_zero, List.set_cons_succ]
              refine wpAnyH_take (i := 12) (v := undef) rfl (by kernel_rfl) (by kernel_rfl) (by kernel_rfl) (fun _ _ _ h => h) (Or.inr ⟨by rfl, rfl⟩) (by assumption) ?_
              simp only [Act.put, List.getElem_toArray, List.getElem_cons_succ, List.getElem_cons_zero, List.setIfInBounds_toArray, List.set_cons_zero, List.set_cons_succ]
              refine wpAnyH_take (i := 13) (v := undef) rfl (by kernel_rfl) (by kernel_rfl) (by kernel_rfl) (fun _ _ _ h => h) (Or.inr ⟨by rfl, rfl⟩) (by assumption) ?_
              simp only [Act.put, List.getElem_toArray, List.getElem_cons_succ, List.getElem_cons_zero, List.setIfInBounds_toArray, List.set_cons_zero, List.set_cons_succ]
              refine wpAnyH_take (i := 14) (v := undef) rfl (by kernel_rfl) (by kernel_rfl) (by kernel_rfl) (fun _ _ _ h => h) (Or.inr ⟨by rfl, rfl⟩) (by assumption) ?_
              simp only [Act.put, List.getElem_toArray, List.getElem_cons_succ, List.getElem_cons_zero, List.setIfInBounds_toArray, List.set_cons_zero, List.set_cons_succ]
              refine wpAnyH_take (i := 15) (v := undef) rfl (by kernel_rfl) (by kernel_rfl) (by kernel_rfl) (fun _ _ _ h => h) (Or.inr ⟨by rfl, rfl⟩) (by assumption) ?_
              simp only [Act.put, List.getElem_toArray, List.getElem_cons_succ, List.getElem_cons_zero, List.setIfInBounds_toArray, List.set_cons_zero, List.set_cons_succ]
              refine wpAnyH_take (i := 16) (v := undef) rfl (by kernel_rfl) (by kernel_rfl) (by kernel_rfl) (fun _ _ _ h => h) (Or.inr ⟨by rfl, rfl⟩) (by assumption) ?_
              simp only [Act.put, List.getElem_toArray, List.getElem_cons_succ, List.getElem_cons_zero, List.setIfInBounds_toArray, List.set_cons_zero, List.set_cons_succ]
              refine wpAnyH_take (i := 17) (v := undef) rfl (by kernel_rfl) (by kernel_rfl) (by kernel_rfl) (fun _ _ _ h => h) (Or.inr ⟨by rfl, rfl⟩) (by assumption) ?_
              simp only [Act.put, List.getElem_toArray, List.getElem_cons_succ, List.getElem_cons_zero, List.setIfInBounds_toArray, List.set_cons_zero, List.set_cons_succ]
              refine wpAnyH_take (i := 18) (v := undef) rfl (by kernel_rfl) (by kernel_rfl) (by kernel_rfl) (fun _ _ _ h => h) (Or.inr ⟨by rfl, rfl⟩) (by assumption) ?_
              simp only [Act.put, List.getElem_toArray, List.getElem_cons_succ, List.getElem_cons_zero, List.setIfInBounds_toArray, List.set_cons_zero, List.set_cons_succ]
              refine wpAnyH_take (i := 19) (v := undef) rfl (by kernel_rfl) (by kernel_rfl) (by kernel_rfl) (fun _ _ _ h => h) (Or.inr ⟨by rfl, rfl⟩) (by assumption) ?_
              simp only [Act.put, List.getElem_toArray, List.getElem_cons_succ, List.getElem_cons_zero, List.setIfInBounds_toArray, List.set_cons_zero, List.set_cons_succ]
              refine wpAnyH_take (i := 20) (v := undef) rfl (by kernel_rfl) (by kernel_rfl) (by kernel_rfl) (fun _ _ _ h => h) (Or.inr ⟨by rfl, rfl⟩) (by assumption) ?_
              simp only [Act.put, List.getElem_toArray, List.getElem_cons_succ, List.getElem_cons_zero, List.setIfInBounds_toArray, List.set_cons_zero, List.set_cons_succ]
              refine wpAnyH_take (i := 21) (v := ?_) rfl (by kernel_rfl) (by kernel_rfl) (by kernel_rfl) (fun _ _ _ h => h) (Or.inl ⟨by rfl, ?_⟩) (by assumption) ?_
              rotate_left
              · (intro w hSw; (try dsimp only at hSw); go_simp; try with_reducible rfl)
              simp only [Act.put, List.getElem_toArray, List.getElem_cons_succ, List.getElem_cons_zero, List.setIfInBounds_toArray, List.set_cons_zero, List.set_cons_succ]
              refine wpAnyH_done (by kernel_rfl) ?_ _
              clear hHeld
              have hm9 := HM1.out
              have hjm9 := HJM.out
              go_wp2
              go_roundw
              case rel => exact ⟨j + 1, by omega, by go_num, HBI2.out⟩
              case measure => simp [intOf]; omega
            exact AllReadyH.nil
          · have e9 := iq_eq HBB9.out
            subst e9
            obtain ⟨z, hz⟩ : ∃ z, hkF x = z := ⟨_, rfl⟩
            have HZ9 := Lib.hid hz
            clear hz
            have cHA0 := HA.out.2.1
            have cHA1 := HA.out.2.2.1
            have cHA2 := HA.out.2.2.2.1
            have cHA20 := HA2.out.2.1
            have cHA21 := HA2.out.2.2.1
            have cHA22 := HA2.out.2.2.2.1
            have cHCX0 := HCX.out.1
            have cHCX1 := HCX.out.2.1
            have cHCX2 := HCX.out.2.2.1
            have cHCX3 := HCX.out.2.2.2
            have cHCY0 := HCY.out.1
            have cHCY1 := HCY.out.2.1
            have cHCY2 := HCY.out.2.2.1
            have cHCY3 := HCY.out.2.2.2
            go_wp2_with fail
            clear cHA0 cHA1 cHA2 cHA20 cHA21 cHA22 cHCX0 cHCX1 cHCX2 cHCX3 cHCY0 cHCY1 cHCY2 cHCY3
            obtain ⟨W21, hWD⟩ : ∃ xw9, wr.drew = xw9 := ⟨_, rfl⟩
            have hB : Below wr.heap.size wr W21 := by rw [← hWD]; exact Below.drewN' (Below.refl _ _) 1
            replace HA := Lib.hid (HA.out.below hB)
            replace HA2 := Lib.hid (HA2.out.below hB)
            replace HB := Lib.hid (HB.out.trans (hB.mono HB.out.size))
            replace HI := Lib.hid (HI.out.grow hB)
            replace HI2 := Lib.hid (HI2.out.grow hB)
            replace HT := Lib.hid (fun j hj => keep_below hB _ _ (HT.out j hj))
            replace HBO := Lib.hid (HBO.out.trans (hB.mono HBO.out.size))
            replace HBI2 := Lib.hid (HBI2.out.trans (hB.mono HBI2.out.size))
            replace HCX := Lib.hid (And.intro (keep_below hB _ _ HCX.out.1) (And.intro (keep_below hB _ _ HCX.out.2.1) (And.intro (keep_below hB _ _ HCX.out.2.2.1) (keep_below hB _ _ HCX.out.2.2.2))))
            replace HCY := Lib.hid (And.intro (keep_below hB _ _ HCY.out.1) (And.intro (keep_below hB _ _ HCY.out.2.1) (And.intro (keep_below hB _ _ HCY.out.2.2.1) (keep_below hB _ _ HCY.out.2.2.2))))
            replace HBX := Lib.hid (HBX.out.grow hB)
            replace HBY := Lib.hid (HBY.out.grow hB)
            clear hB
            refine wp_region_held_drew (S := fun w' => w'.cell? ⟨w.heap.size, 0, none⟩ = some (.slice so p.s.length sc) ∧ w'.cell? ⟨w.heap.size, 1, none⟩ = some (.slice io n ic) ∧ w'.cell? ⟨w.heap.size, 2, none⟩ = some (.int .i64 f) ∧ w'.cell? ⟨(w.heap.size + 1), 0, none⟩ = some (.slice qo q.s.length qc) ∧ w'.cell? ⟨(w.heap.size + 1), 1, none⟩ = some (.slice jo m jc) ∧ w'.cell? ⟨(w.heap.size + 1), 2, none⟩ = some (.int .i64 g) ∧ w'.cell? ⟨lb, loff + i * 4, none⟩ = some (.int .i64 x.1) ∧ w'.cell? ⟨lb, loff + i * 4 + 1, none⟩ = some (.float .f64 x.2.1) ∧ w'.cell? ⟨lb, loff + i * 4 + 2, none⟩ = some (.int .i32 x.2.2.1) ∧ w'.cell? ⟨lb, loff + i * 4 + 3, none⟩ = some (.slice lbo x.2.2.2.length lbc) ∧ w'.cell? ⟨mb, moff + j * 4, none⟩ = some (.int .i64 x.1) ∧ w'.cell? ⟨mb, moff + j * 4 + 1, none⟩ = some (.float .f64 x.2.1) ∧ w'.cell? ⟨mb, moff + j * 4 + 2, none⟩ = some (.int .i32 x.2.2.1) ∧ w'.cell? ⟨mb, moff + j * 4 + 3, none⟩ = some (.slice mbo x.2.2.2.length mbc)) (by kernel_rfl) (by rw [hWD]; exact ⟨HA.out.2.1, HA.out.2.2.1, HA.out.2.2.2.1, HA2.out.2.1, HA2.out.2.2.1, HA2.out.2.2.2.1, HCX.out.1, HCX.out.2.1, HCX.out.2.2.1, HCX.out.2.2.2, HCY.out.1, HCY.out.2.1, HCY.out.2.2.1, HCY.out.2.2.2⟩) (fun hHeld => ?_)
            rw [hWD] at hHeld ⊢
            clear hWD
            refine wpAnyH_take (i := 0) (v := ?_) rfl (by kernel_rfl) (by kernel_rfl) (by kernel_rfl) (fun _ _ _ h => h) (Or.inl ⟨by rfl, ?_⟩) (by assumption) ?_
            rotate_left
            · (intro w hSw; (try dsimp only at hSw); go_simp; try with_reducible rfl)
            simp only [Act.put, List.getElem_toArray, List.getElem_cons_zero, List.setIfInBounds_toArray, List.set_cons_zero, List.set_cons_succ]
            refine wpAnyH_take (i := 1) (v := ?_) rfl (by kernel_rfl) (by kernel_rfl) (by kernel_rfl) (fun _ _ _ h => h) (Or.inl ⟨by rfl, ?_⟩) (by assumption) ?_
            rotate_left
            · (intro w hSw; (try dsimp only at hSw); go_simp; try with_reducible rfl)
            simp only [Act.put, List.getElem_toArray, List.getElem_cons_succ, List.getElem_cons_zero, List.setIfInBounds_toArray, List.set_cons_zero, List.set_cons_succ]
            refine wpAnyH_take (i := 2) (v := ?_) rfl (by kernel_rfl) (by kernel_rfl) (by kernel_rfl) (fun _ _ _ h => h) (Or.inl ⟨by rfl, ?_⟩) (by assumption) ?_
            rotate_left
            · (intro w hSw; (try dsimp only at hSw); go_simp; try with_reducible rfl)
            simp only [Act.put, List.getElem_toArray, List.getElem_cons_succ, List.getElem_cons_zero, List.setIfInBounds_toArray, List.set_cons_zero, List.set_cons_succ]
            refine wpAnyH_take (i := 3) (v := ?_) rfl (by kernel_rfl) (by kernel_rfl) (by kernel_rfl) (fun _ _ _ h => h) (Or.inl ⟨by rfl, ?_⟩) (by assumption) ?_
            rotate_left
            · (intro w hSw; (try dsimp only at hSw); go_simp; try with_reducible rfl)
            simp only [Act.put, List.getElem_toArray, List.getElem_cons_succ, List.getElem_cons_zero, List.setIfInBounds_toArray, List.set_cons_zero, List.set_cons_succ]
            refine wpAnyH_take (i := 4) (v := ?_) rfl (by kernel_rfl) (by kernel_rfl) (by kernel_rfl) (fun _ _ _ h => h) (Or.inl ⟨by rfl, ?_⟩) (by assumption) ?_
            rotate_left
            · (intro w hSw; (try dsimp only at hSw); go_simp; try with_reducible rfl)
            simp only [Act.put, List.getElem_toArray, List.getElem_cons_succ, List.getElem_cons_zero, List.setIfInBounds_toArray, List.set_cons_zero, List.set_cons_succ]
            refine wpAnyH_take (i := 5) (v := ?_) rfl (by kernel_rfl) (by kernel_rfl) (by kernel_rfl) (fun _ _ _ h => h) (Or.inl ⟨by rfl, ?_⟩) (by assumption) ?_
            rotate_left
            · (intro w hSw; (try dsimp only at hSw); go_simp; try with_reducible rfl)
            simp only [Act.put, List.getElem_toArray, List.getElem_cons_succ, List.getElem_cons_zero, List.setIfInBounds_toArray, List.set_cons_zero, List.set_cons_succ]
            refine wpAnyH_take (i := 6) (v := ?_) rfl (by kernel_rfl) (by kernel_rfl) (by kernel_rfl) (fun _ _ _ h => h) (Or.inl ⟨by rfl, ?_⟩) (by assumption) ?_
            rotate_left
            · (intro w hSw; (try dsimp only at hSw); go_simp; try with_reducible rfl)
            simp only [Act.put, List.getElem_toArray, List.getElem_cons_succ, List.getElem_cons_zero, List.setIfInBounds_toArray, List.set_cons_zero, List.set_cons_succ]
            refine wpAnyH_take (i := 7) (v := ?_) rfl (by kernel_rfl) (by kernel_rfl) (by kernel_rfl) (fun _ _ _ h => h) (Or.inl ⟨by rfl, ?_⟩) (by assumption) ?_
            rotate_left
            · (intro w hSw; (try dsimp only at hSw); go_simp; try with_reducible rfl)
            simp only [Act.put, List.getElem_toArray, List.getElem_cons_succ, List.getElem_cons_zero, List.setIfInBounds_toArray, List.set_cons_zero, List.set_cons_succ]
            refine wpAnyH_ready (rs := [8]) (by kernel_rfl) (by simp) ?_
            refine AllReadyH.cons (o := _) rfl (fun K hK => ?_) ?_
            · clear hHeld
              go_simp
              refine (pitem_calls 39 (psame_calls 39) _ _ x x _ _ _ _ 39 _ HOX.out.1 HOY.out.1 HOX.out.2 HOY.out.2 HBX.out HBY.out).mono ?_
              rintro e W22 ⟨rfl, hB⟩
              replace HA := Lib.hid (HA.out.below hB)
              replace HA2 := Lib.hid (HA2.out.below hB)
              replace HB := Lib.hid (HB.out.trans (hB.mono HB.out.size))
              replace HI := Lib.hid (HI.out.grow hB)
              replace HI2 := Lib.hid (HI2.out.grow hB)
              replace HT := Lib.hid (fun j hj => keep_below hB _ _ (HT.out j hj))
              replace HBO := Lib.hid (HBO.out.trans (hB.mono HBO.out.size))
              replace HBI2 := Lib.hid (HBI2.out.trans (hB.mono HBI2.out.size))
              replace HCX := Lib.hid (And.intro (keep_below hB _ _ HCX.out.1) (And.intro (keep_below hB _ _ HCX.out.2.1) (And.intro (keep_below hB _ _ HCX.out.2.2.1) (keep_below hB _ _ HCX.out.2.2.2))))
              replace HCY := Lib.hid (And.intro (keep_below hB _ _ HCY.out.1) (And.intro (keep_below hB _ _ HCY.out.2.1) (And.intro (keep_below hB _ _ HCY.out.2.2.1) (keep_below hB _ _ HCY.out.2.2.2))))
              replace HBX := Lib.hid (HBX.out.grow hB)
              replace HBY := Lib.hid (HBY.out.grow hB)
              rw [HBB9.out]
              clear hB
              refine hK.out _ _ ?_ (fun hHeld => ?_)
              · exact ⟨HA.out.2.1, HA.out.2.2.1, HA.out.2.2.2.1, HA2.out.2.1, HA2.out.2.2.1, HA2.out.2.2.2.1, HCX.out.1, HCX.out.2.1, HCX.out.2.2.1, HCX.out.2.2.2, HCY.out.1, HCY.out.2.1, HCY.out.2.2.1, HCY.out.2.2.2⟩
              clear hK K
              refine wpAnyH_take (i := 9) (v := ?_) rfl (by kernel_rfl) (by kernel_rfl) (by kernel_rfl) (fun _ _ _ h => h) (Or.inl ⟨by rfl, ?_⟩) (by assumption) ?_
              rotate_left
              · (intro w hSw; (try dsimp only at hSw); go_simp; try with_reducible rfl)
              simp only [Act.put, List.getElem_toArray, List.getElem_cons_succ, List.getElem_cons_zero, List.setIfInBounds_toArray, List.set_cons_zero, List.set_cons_succ]
              refine wpAnyH_take (i := 10) (v := ?_) rfl (by kernel_rfl) (by kernel_rfl) (by kernel_rfl) (fun _ _ _ h => h) (Or.inl ⟨by rfl, ?_⟩) (by assumption) ?_
              rotate_left
              · (intro w hSw; (try dsimp only at hSw); go_simp; try with_reducible rfl)
              simp only [Act.put, List.getElem_toArray, List.getElem_cons_succ, List.getElem_cons_zero, List.setIfInBounds_toArray, List.set_cons_zero, List.set_cons_succ]
              refine wpAnyH_take (i := 13) (v := ?_) rfl (by kernel_rfl) (by kernel_rfl) (by kernel_rfl) (fun _ _ _ h => h) (Or.inl ⟨by rfl, ?_⟩) (by assumption) ?_
              rotate_left
              · (intro w hSw; (try dsimp only at hSw); go_simp; try with_reducible rfl)
              simp only [Act.put, List.getElem_toArray, List.getElem_cons_succ, List.getElem_cons_zero, List.setIfInBounds_toArray, List.set_cons_zero, List.set_cons_succ]
              refine wpAnyH_take (i := 15) (v := ?_) rfl (by kernel_rfl) (by kernel_rfl) (by kernel_rfl) (fun _ _ _ h => h) (Or.inl ⟨by rfl, ?_⟩) (by assumption) ?_
              rotate_left
              · (intro w hSw; (try dsimp only at hSw); go_simp; try with_reducible rfl)
              simp only [Act.put, List.getElem_toArray, List.getElem_cons_succ, List.getElem_cons_zero, List.setIfInBounds_toArray, List.set_cons_zero, List.set_cons_succ]
              refine wpAnyH_take (i := 18) (v := ?_) rfl (by kernel_rfl) (by kernel_rfl) (by kernel_rfl) (fun _ _ _ h => h) (Or.inl ⟨by rfl, ?_⟩) (by assumption) ?_
              rotate_left
              · (intro w hSw; (try dsimp only at hSw); go_simp; try with_reducible rfl)
              simp only [Act.put, List.getElem_toArray, List.getElem_cons_succ, List.getElem_cons_zero, List.setIfInBounds_toArray, List.set_cons_zero, List.set_cons_succ]
              refine wpAnyH_ready (rs := [11]) (by kernel_rfl) (by simp) ?_
              refine AllReadyH.cons (o := _) rfl (fun K hK => ?_) ?_
              · clear hHeld
                go_simp
                refine (lof_calls _ p _ nd _ HLO.out HI.out HT.out HC1.out.1).mono ?_
                rintro e W23 ⟨s3, c3, ua, rfl, hOR, hB⟩
                replace HA := Lib.hid (HA.out.below hB)
                replace HA2 := Lib.hid (HA2.out.below hB)
                replace HB := Lib.hid (HB.out.trans (hB.mono HB.out.size))
                replace HI := Lib.hid (HI.out.grow hB)
                replace HI2 := Lib.hid (HI2.out.grow hB)
                replace HT := Lib.hid (fun j hj => keep_below hB _ _ (HT.out j hj))
                replace HBO := Lib.hid (HBO.out.trans (hB.mono HBO.out.size))
                replace HBI2 := Lib.hid (HBI2.out.trans (hB.mono HBI2.out.size))
                replace HCX := Lib.hid (And.intro (keep_below hB _ _ HCX.out.1) (And.intro (keep_below hB _ _ HCX.out.2.1) (And.intro (keep_below hB _ _ HCX.out.2.2.1) (keep_below hB _ _ HCX.out.2.2.2))))
                replace HCY := Lib.hid (And.intro (keep_below hB _ _ HCY.out.1) (And.intro (keep_below hB _ _ HCY.out.2.1) (And.intro (keep_below hB _ _ HCY.out.2.2.1) (keep_below hB _ _ HCY.out.2.2.2))))
                replace HBX := Lib.hid (HBX.out.grow hB)
                replace HBY := Lib.hid (HBY.out.grow hB)
                have HUA := Lib.hid (show IsV W23 (fun _ => True) ua A by rw [← HAA.out]; exact IsV.any hOR.2)
                have hsua := HUA.out.store
                clear hOR
                clear hB
                refine hK.out _ _ ?_ (fun hHeld => ?_)
                · exact ⟨HA.out.2.1, HA.out.2.2.1, HA.out.2.2.2.1, HA2.out.2.1, HA2.out.2.2.1, HA2.out.2.2.2.1, HCX.out.1, HCX.out.2.1, HCX.out.2.2.1, HCX.out.2.2.2, HCY.out.1, HCY.out.2.1, HCY.out.2.2.1, HCY.out.2.2.2⟩
                clear hK K
                refine wpAnyH_take (i := 12) (v := ?_) rfl (by kernel_rfl) (by kernel_rfl) (by kernel_rfl) (fun _ _ _ h => h) (Or.inl ⟨by rfl, ?_⟩) (by assumption) ?_
                rotate_left
                · (intro w hSw; (try dsimp only at hSw); go_simp; try with_reducible rfl)
                simp only [Act.put, List.getElem_toArray, List.getElem_cons_succ, List.getElem_cons_zero, List.setIfInBounds_toArray, List.set_cons_zero, List.set_cons_succ]
                refine wpAnyH_ready (rs := [14]) (by kernel_rfl) (by simp) ?_
                refine AllReadyH.cons (o := _) rfl (fun K hK => ?_) ?_
                · clear hHeld
                  go_simp
                  refine (hkey_item _ A LA i x _ HUA.out HHA.out.hg HAI.out HX.out HT.out).mono ?_
                  rintro e W24 ⟨rfl, hB⟩
                  replace HA := Lib.hid (HA.out.below hB)
                  replace HA2 := Lib.hid (HA2.out.below hB)
                  replace HB := Lib.hid (HB.out.trans (hB.mono HB.out.size))
                  replace HI := Lib.hid (HI.out.grow hB)
                  replace HI2 := Lib.hid (HI2.out.grow hB)
                  replace HT := Lib.hid (fun j hj => keep_below hB _ _ (HT.out j hj))
                  replace HBO := Lib.hid (HBO.out.trans (hB.mono HBO.out.size))
                  replace HBI2 := Lib.hid (HBI2.out.trans (hB.mono HBI2.out.size))
                  replace HCX := Lib.hid (And.intro (keep_below hB _ _ HCX.out.1) (And.intro (keep_below hB _ _ HCX.out.2.1) (And.intro (keep_below hB _ _ HCX.out.2.2.1) (keep_below hB _ _ HCX.out.2.2.2))))
                  replace HCY := Lib.hid (And.intro (keep_below hB _ _ HCY.out.1) (And.intro (keep_below hB _ _ HCY.out.2.1) (And.intro (keep_below hB _ _ HCY.out.2.2.1) (keep_below hB _ _ HCY.out.2.2.2))))
                  replace HBX := Lib.hid (HBX.out.grow hB)
                  replace HBY := Lib.hid (HBY.out.grow hB)
                  replace HUA := Lib.hid (HUA.out.grow hB)
                  rw [HZ9.out]
                  clear hB
                  refine hK.out _ _ ?_ (fun hHeld => ?_)
                  · exact ⟨HA.out.2.1, HA.out.2.2.1, HA.out.2.2.2.1, HA2.out.2.1, HA2.out.2.2.1, HA2.out.2.2.2.1, HCX.out.1, HCX.out.2.1, HCX.out.2.2.1, HCX.out.2.2.2, HCY.out.1, HCY.out.2.1, HCY.out.2.2.1, HCY.out.2.2.2⟩
                  clear hK K
                  refine wpAnyH_ready (rs := [16]) (by kernel_rfl) (by simp) ?_
                  refine AllReadyH.cons (o := _) rfl (fun K hK => ?_) ?_
                  · clear hHeld
                    go_simp
                    refine (lof_calls _ q _ md _ HLP.out HI2.out HT.out HC2.out.1).mono ?_
                    rintro e W25 ⟨s4, c4, ub, rfl, hOR, hB⟩
                    replace HA := Lib.hid (HA.out.below hB)
                    replace HA2 := Lib.hid (HA2.out.below hB)
                    replace HB := Lib.hid (HB.out.trans (hB.mono HB.out.size))
                    replace HI := Lib.hid (HI.out.grow hB)
                    replace HI2 := Lib.hid (HI2.out.grow hB)
                    replace HT := Lib.hid (fun j hj => keep_below hB _ _ (HT.out j hj))
                    replace HBO := Lib.hid (HBO.out.trans (hB.mono HBO.out.size))
                    replace HBI2 := Lib.hid (HBI2.out.trans (hB.mono HBI2.out.size))
                    replace HCX := Lib.hid (And.intro (keep_below hB _ _ HCX.out.1) (And.intro (keep_below hB _ _ HCX.out.2.1) (And.intro (keep_below hB _ _ HCX.out.2.2.1) (keep_below hB _ _ HCX.out.2.2.2))))
                    replace HCY := Lib.hid (And.intro (keep_below hB _ _ HCY.out.1) (And.intro (keep_below hB _ _ HCY.out.2.1) (And.intro (keep_below hB _ _ HCY.out.2.2.1) (keep_below hB _ _ HCY.out.2.2.2))))
                    replace HBX := Lib.hid (HBX.out.grow hB)
                    replace HBY := Lib.hid (HBY.out.grow hB)
                    replace HUA := Lib.hid (HUA.out.grow hB)
                    have HUB := Lib.hid (show IsV W25 (fun _ => True) ub B by rw [← HBB.out]; exact IsV.any hOR.2)
                    have hsub := HUB.out.store
                    clear hOR
                    clear hB
                    refine hK.out _ _ ?_ (fun hHeld => ?_)
                    · exact ⟨HA.out.2.1, HA.out.2.2.1, HA.out.2.2.2.1, HA2.out.2.1, HA2.out.2.2.1, HA2.out.2.2.2.1, HCX.out.1, HCX.out.2.1, HCX.out.2.2.1, HCX.out.2.2.2, HCY.out.1, HCY.out.2.1, HCY.out.2.2.1, HCY.out.2.2.2⟩
                    clear hK K
                    refine wpAnyH_take (i := 17) (v := ?_) rfl (by kernel_rfl) (by kernel_rfl) (by kernel_rfl) (fun _ _ _ h => h) (Or.inl ⟨by rfl, ?_⟩) (by assumption) ?_
                    rotate_left
                    · (intro w hSw; (try dsimp only at hSw); go_simp; try with_reducible rfl)
                    simp only [Act.put, List.getElem_toArray, List.getElem_cons_succ, List.getElem_cons_zero, List.setIfInBounds_toArray, List.set_cons_zero, List.set_cons_succ]
                    refine wpAnyH_ready (rs := [19]) (by kernel_rfl) (by simp) ?_
                    refine AllReadyH.cons (o := _) rfl (fun K hK => ?_) ?_
                    · clear hHeld
                      go_simp
                      refine (hkey_item _ B LB j x _ HUB.out HHB.out.hg HBI.out HY.out HT.out).mono ?_
                      rintro e W26 ⟨rfl, hB⟩
                      replace HA := Lib.hid (HA.out.below hB)
                      replace HA2 := Lib.hid (HA2.out.below hB)
                      replace HB := Lib.hid (HB.out.trans (hB.mono HB.out.size))
                      replace HI := Lib.hid (HI.out.grow hB)
                      replace HI2 := Lib.hid (HI2.out.grow hB)
                      replace HT := Lib.hid (fun j hj => keep_below hB _ _ (HT.out j hj))
                      replace HBO := Lib.hid (HBO.out.trans (hB.mono HBO.out.size))
                      replace HBI2 := Lib.hid (HBI2.out.trans (hB.mono HBI2.out.size))
                      replace HCX := Lib.hid (And.intro (keep_below hB _ _ HCX.out.1) (And.intro (keep_below hB _ _ HCX.out.2.1) (And.intro (keep_below hB _ _ HCX.out.2.2.1) (keep_below hB _ _ HCX.out.2.2.2))))
                      replace HCY := Lib.hid (And.intro (keep_below hB _ _ HCY.out.1) (And.intro (keep_below hB _ _ HCY.out.2.1) (And.intro (keep_below hB _ _ HCY.out.2.2.1) (keep_below hB _ _ HCY.out.2.2.2))))
                      replace HBX := Lib.hid (HBX.out.grow hB)
                      replace HBY := Lib.hid (HBY.out.grow hB)
                      replace HUA := Lib.hid (HUA.out.grow hB)
                      replace HUB := Lib.hid (HUB.out.grow hB)
                      rw [HZ9.out]
                      clear hB
                      refine hK.out _ _ ?_ (fun hHeld => ?_)
                      · exact ⟨HA.out.2.1, HA.out.2.2.1, HA.out.2.2.2.1, HA2.out.2.1, HA2.out.2.2.1, HA2.out.2.2.2.1, HCX.out.1, HCX.out.2.1, HCX.out.2.2.1, HCX.out.2.2.2, HCY.out.1, HCY.out.2.1, HCY.out.2.2.1, HCY.out.2.2.2⟩
                      clear hK K
                      refine wpAnyH_take (i := 20) (v := ?_) rfl (by kernel_rfl) (by kernel_rfl) (by kernel_rfl) (fun _ _ _ h => h) (Or.inl ⟨by rfl, ?_⟩) (by assumption) ?_
                      rotate_left
                      · (intro w hSw; (try dsimp only at hSw); go_simp; try with_reducible rfl)
                      simp only [Act.put, List.getElem_toArray, List.getElem_cons_succ, List.getElem_cons_zero, List.setIfInBounds_toArray, List.set_cons_zero, List.set_cons_succ]
                      refine wpAnyH_take (i := 21) (v := ?_) rfl (by kernel_rfl) (by kernel_rfl) (by kernel_rfl) (fun _ _ _ h => h) (Or.inl ⟨by rfl, ?_⟩) (by assumption) ?_
                      rotate_left
                      · (intro w hSw; (try dsimp only at hSw); go_simp; try with_reducible rfl)
                      simp only [Act.put, List.getElem_toArray, List.getElem_cons_succ, List.getElem_cons_zero, List.setIfInBounds_toArray, List.set_cons_zero, List.set_cons_succ]
                      refine wpAnyH_done (by kernel_rfl) ?_ _
                      clear hHeld
                      have hm9 := HM1.out
                      have hjm9 := HJM.out
                      go_wp2
                      go_roundw
                      case rel => exact ⟨j + 1, by omega, by go_num, HBI2.out⟩
                      case measure => simp [intOf]; omega
                    exact AllReadyH.nil
                  exact AllReadyH.nil
                exact AllReadyH.nil
              exact AllReadyH.nil
            exact AllReadyH.nil

theorem hashKeys_frame (w : World) (v : Value) (l : List Nat) (hr : RowC w v (l.map (Value.float .f64))) (hz : ∀ z ∈ l, (Lit.float .f64 z).wf = true) (hm : l.length ≤ maxLen) (kind : Int) (_ : (Lit.int .i64 kind).wf = true) (u : Value) (p : PA) (n : Nat) (hl : lo n p) (hp : IsP w (fun _ => True) u p) (hc : chO p) (u2 : Value) (q : PA) (m : Nat) (hl2 : lo m q) (hq : IsP w (fun _ => True) u2 q) (hc2 : chO q) (hT : TabAt w) :
    Calls Tryz.prog 5 #[v, .int .i64 kind, u, u2] w fun e w' => e = .returned (.bool true) ∧ Below w.heap.size w w' :=
  hashKeys_walk l v kind p q u u2 n m w (by have := hr.slc; rw [List.length_map] at this; exact this) (fun x hx => wf_f64 (hz x hx)) hm hl hp hc hl2 hq hc2 hT
end Go.Proofs.YtbdhibcbpgjbmaaGreatDoor

/- Package shape, walked: Index, Next. -/
import Derived.Test.YtnebondinjjodaaShU
namespace Go.Proofs.Ytnebondinjjodaa
open Go.RowKit
set_option linter.unusedVariables false
set_option maxRecDepth 8000

theorem idxG_none {s : List Int} {i : Int} (h : hasG s i = false) : idxG s i = [] := by unfold idxG; rw [if_neg (by rw [h]; decide)]
theorem idxG_some {s : List Int} {i : Int} (h : hasG s i = true) : idxG s i = unp s i := if_pos h
theorem ret_zb {z : Value} {a b : Bool} (h : a = b) : Ending.returned (.tuple #[z, .bool a]) = .returned (.tuple #[z, .bool b]) := by rw [h]
theorem prod_ok1 {s : List Int} {n : Int} (h : prodR s 1048576 = (n, 0)) : anyN s = false ∧ nzp s ≤ 1048576 ∧ n = if anyZ s = true then 0 else nzp s := by
  have hg : goodS s = true := by unfold goodS; rw [h]; rfl
  have h1 := good_anyN hg
  have h2 := good_nz hg
  refine ⟨h1, h2, ?_⟩
  by_cases h8 : 8 < s.length
  · rw [prodR_long h8] at h; simp at h
  · rw [prodR_fit h8 h1 (by omega)] at h
    by_cases hm : 1048576 < (if anyZ s = true then 0 else nzp s)
    · rw [if_pos hm] at h; simp at h
    · rw [if_neg hm] at h
      exact (congrArg Prod.fst h).symm

set_option maxHeartbeats 4000000 in
theorem sindex_calls {ok : Nat → Prop} (v : Value) (s : List Int) (at_ : Int) (w : World) (hv : Slc w ok v s.length (ints s)) (hl : s.length ≤ 1000) :
    Calls Try.prog 15 #[v, .int .i64 at_] w fun e w' => ∃ z, e = .returned (.tuple #[z, .bool (hasG s at_)]) ∧ Slc w' (fun b => w.heap.size ≤ b) z (idxG s at_).length (ints (idxG s at_)) ∧ Below w.heap.size w w' := by
  have HV := Lib.hid hv
  have HL := Lib.hid hl
  obtain ⟨ao, cap, rfl, _⟩ := hv.opened
  clear hv
  obtain ⟨n, f, hp⟩ : ∃ n f, prodR s 1048576 = (n, f) := ⟨_, _, rfl⟩
  have HP := Lib.hid hp
  have HHG := Lib.hid (show hasG s at_ = ((f == 0) && decide (0 ≤ at_ ∧ at_ < n)) by unfold hasG goodS; rw [hp])
  clear hp
  by_cases hf : f = 0
  · subst hf
    by_cases h0 : at_ < 0
    · have HH := Lib.hid (show hasG s at_ = false by rw [HHG.out]; simp; omega)
      go_enter Try.func15, Try.ntmps15
      go_wp2_with fail
      refine (sproduct_calls _ s _ _ HV.out HL.out).mono ?_
      rintro e w1 ⟨rfl, hB⟩
      have HB := Lib.hid hB
      clear hB
      rw [HP.out]
      go_wp2
      go_ret2
      exact ⟨_, ret_zb HH.out.symm, slc_nilG _ _ (idxG_none HH.out), HB.out⟩
    · by_cases h1 : n ≤ at_
      · have HH := Lib.hid (show hasG s at_ = false by rw [HHG.out]; simp; omega)
        go_enter Try.func15, Try.ntmps15
        go_wp2_with fail
        refine (sproduct_calls _ s _ _ HV.out HL.out).mono ?_
        rintro e w1 ⟨rfl, hB⟩
        have HB := Lib.hid hB
        clear hB
        rw [HP.out]
        go_wp2
        go_ret2
        exact ⟨_, ret_zb HH.out.symm, slc_nilG _ _ (idxG_none HH.out), HB.out⟩
      · have HH := Lib.hid (show hasG s at_ = true by rw [HHG.out]; simp; omega)
        obtain ⟨hn, hnz, hnv⟩ := prod_ok1 HP.out
        have hz : anyZ s = false := by
          cases hz : anyZ s
          · rfl
          · rw [hz] at hnv; simp at hnv; omega
        rw [hz] at hnv
        have hnv2 : n = nzp s := hnv
        have HPOS := Lib.hid (good_pos hn hz)
        have HU := Lib.hid (show at_ < nzp s by omega)
        have hmax : at_ < 1048576 := by omega
        clear hn hnz hnv hz hnv2
        go_enter Try.func15, Try.ntmps15
        go_wp2_with fail
        refine (sproduct_calls _ s _ _ HV.out HL.out).mono ?_
        rintro e w1 ⟨rfl, hB⟩
        have HV1 := Lib.hid (HV.out.below hB)
        have HB0 := Lib.hid (hB.trans ((below_newS w1 (.cells (zeroI s.length) 3)).mono hB.size))
        have hsz1 := hB.size
        clear hB
        rw [HP.out]
        have hmk := run_mkInt s.length (by omega) w1
        obtain ⟨g, hgd⟩ : ∃ g, w1.heap.size = g := ⟨_, rfl⟩
        have HGE := Lib.hid (show w.heap.size ≤ g by omega)
        obtain ⟨W0, hW0⟩ : ∃ W0, W0 = w1.alloc (.cells (zeroI s.length) 3) := ⟨_, rfl⟩
        have HO0 : Hid (W0.ownsRow w.heap.size 3 1 (.slice (some ⟨g, 0, none⟩) s.length s.length) s.length (ints (List.replicate s.length 0))) := Lib.hid (by rw [hW0, ← hgd]; exact own_makeI _ (by omega) _ _ (by omega))
        have HGD := Lib.hid hgd
        have HW0 := Lib.hid (show Below w1.heap.size w1 W0 by rw [hW0]; exact below_newS _ _)
        rw [← hW0] at HB0
        rw [hgd] at hmk
        clear hgd hsz1
        go_wp2
        rw [← hW0]
        clear hW0 hmk
        have HA0 := Lib.hid (show 0 ≤ at_ by omega)
        go_loopw [1, 9] (fun a i wr => ∃ k : Nat, k ≤ s.length ∧ i = .int .i64 ((k : Int) - 1) ∧ a = .int .i64 (at_ / nzp (s.drop k)) ∧ wr.ownsRow w.heap.size 3 1 (.slice (some ⟨g, 0, none⟩) s.length s.length) s.length (ints (downTo (unp s at_) k)) ∧ W0.grownBy wr (some g)) (fun _ i _ => ((intOf i) + 1).toNat)
        case atStart => exact ⟨s.length, by omega, rfl, by rw [List.drop_of_length_le (by omega), nzp_nil, Int.ediv_one], by
          have := downTo_all (unp s at_); rw [unp_len] at this; rw [this]; exact HO0.out, grown_refl _ _⟩
        case round =>
          obtain ⟨k, hk, rfl, rfl, hown, hgr⟩ := hrel
          have HO := Lib.hid hown
          have HGR := Lib.hid hgr
          have HB := Lib.hid (HB0.out.grown hgr HB0.out.size (fun j hj => by cases hj; exact HGE.out))
          cases k with
          | zero =>
            clear hown hgr
            go_wp2
            go_ret2
            refine ⟨_, ret_zb HH.out.symm, ?_, HB.out⟩
            have h := Slc.owned HO.out
            rw [idxG_some HH.out, unp_len]
            rwa [downTo_zero] at h
          | succ j =>
            have e : (((j + 1 : Nat) : Int) - 1) = (j : Int) := by omega
            rw [e]
            clear e
            have hjn : j < s.length := by omega
            have hlen2 : (downTo (unp s at_) (j + 1)).length = s.length := by rw [downTo_len _ _ (by rw [unp_len]; omega), unp_len]
            have hcw := owns_cell hown (j) (by rw [ints_len, hlen2]; exact hjn)
            have hfr := World.ownsRow.frozenAt hown j
            rw [ints_get] at hcw
            obtain ⟨y, hy⟩ : ∃ y, y = (downTo (unp s at_) (j + 1))[j]'(by rw [hlen2]; exact hjn) := ⟨_, rfl⟩
            rw [← hy] at hcw
            obtain ⟨b, off, cap', x, e1, hx, hcx1⟩ := slc_at (Value.int .i64) (show Slc _ ok (.slice ao s.length cap) s.length (s.map (Value.int .i64)) from HV1.out) j hjn
            obtain ⟨e1a, e1b⟩ : ao = some ⟨b, off, none⟩ ∧ cap = cap' := by cases e1; exact ⟨rfl, rfl⟩
            subst e1a
            have hbg : b < g := by have := World.block_lt_of_cell? _ _ hcx1; rw [HGD.out] at this; exact this
            have hne : b ≠ g := by omega
            have hne2 : g ≠ b := by omega
            have hcx := hgr.cell (keep_below HW0.out _ _ hcx1) (fun e => hne (Option.some.inj e))
            have hxp : 0 < x := HPOS.out x (List.mem_of_getElem? hx)
            have HGT := Lib.hid (unp_get s at_ j x HPOS.out HA0.out HU.out hx)
            have HST := Lib.hid (unp_step hx hxp HA0.out)
            have hp1 := nzp_pos (s.drop (j + 1))
            have hA0 : 0 ≤ at_ / nzp (s.drop (j + 1)) := Int.ediv_nonneg HA0.out (by omega)
            have hA1 : at_ / nzp (s.drop (j + 1)) ≤ at_ := Int.ediv_le_self _ HA0.out
            obtain ⟨a, ha⟩ : ∃ a, a = at_ / nzp (s.drop (j + 1)) := ⟨_, rfl⟩
            rw [← ha] at HGT HST hA0 hA1 ⊢
            have hr0 := Int.emod_nonneg a (show x ≠ 0 by omega)
            have hr1 := Int.emod_lt_of_pos a hxp
            have hq0 : 0 ≤ a / x := Int.ediv_nonneg hA0 (by omega)
            have hq1 : a / x ≤ a := Int.ediv_le_self _ hA0
            have hx0 : (x == 0) = false := by simp; omega
            clear hown hgr hlen2 hy e1 e1b hcx1 hx ha hp1
            go_wp2
            go_roundw
            case rel =>
              refine ⟨j, by omega, rfl, ?_, ?_, grown_trans HGR.out (grown_setCell _ ⟨g, j, none⟩ _)⟩
              · rw [HST.out]
              · have := (World.ownsRow.stored HO.out j (.int .i64 (a % x))).1
                rw [show (ints (downTo (unp s at_) (j + 1))).set j (Value.int .i64 (a % x)) = ints ((downTo (unp s at_) (j + 1)).set j (a % x)) by simp [ints, List.map_set]] at this
                have e2 := downTo_set (unp s at_) j (by rw [unp_len]; exact hjn)
                rw [(List.getElem?_eq_some_iff.1 HGT.out).2] at e2
                rwa [e2] at this
            case measure => simp [intOf]
  · have HH := Lib.hid (show hasG s at_ = false by rw [HHG.out]; simp [hf])
    have hb : (f != 0) = true := by simpa using hf
    clear hf
    go_enter Try.func15, Try.ntmps15
    go_wp2_with fail
    refine (sproduct_calls _ s _ _ HV.out HL.out).mono ?_
    rintro e w1 ⟨rfl, hB⟩
    have HB := Lib.hid hB
    clear hB
    rw [HP.out]
    go_wp2
    go_ret2
    exact ⟨_, ret_zb HH.out.symm, slc_nilG _ _ (idxG_none HH.out), HB.out⟩

theorem moreG_no {s t : List Int} (h : decide (0 ≤ placeR s t) = false) : moreG s t = false := by unfold moreG; rw [h]; rfl
theorem nextG_none {s t : List Int} (h : moreG s t = false) : nextG s t = [] := by unfold nextG; rw [if_neg (by rw [h]; decide)]
theorem moreG_yes {s t : List Int} {p : Int} (hp : placeR s t = p) (h : 0 ≤ p) : moreG s t = hasG s (p + 1) ∧ nextG s t = idxG s (p + 1) := by
  have e : moreG s t = hasG s (p + 1) := by unfold moreG; rw [hp, decide_eq_true h, Bool.true_and]
  refine ⟨e, ?_⟩
  unfold nextG idxG
  rw [e, hp]
theorem placeR_lt {s t : List Int} {p : Int} (hp : placeR s t = p) (h : 0 ≤ p) : p < 1048576 := by
  unfold placeR at hp
  split at hp
  · rename_i hc
    cases hq : plc s t with
    | none => rw [hq] at hp; simp at hp; omega
    | some q =>
      rw [hq] at hp
      have e : q = p := hp
      have := plc_bound s t q hq
      have := good_nz hc.1
      omega
  · omega
set_option maxHeartbeats 2000000 in
theorem snext_calls {ok ok2 : Nat → Prop} (v v2 : Value) (s t : List Int) (w : World) (h1 : Slc w ok v s.length (ints s)) (l1 : s.length ≤ 1000) (h2 : Slc w ok2 v2 t.length (ints t)) (l2 : t.length ≤ 1000) :
    Calls Try.prog 16 #[v, v2] w fun e w' => ∃ z, e = .returned (.tuple #[z, .bool (moreG s t)]) ∧ Slc w' (fun b => w.heap.size ≤ b) z (nextG s t).length (ints (nextG s t)) ∧ Below w.heap.size w w' := by
  have H1 := Lib.hid h1
  have H2 := Lib.hid h2
  have L1 := Lib.hid l1
  have L2 := Lib.hid l2
  clear h1 h2 l1 l2
  obtain ⟨p, hp⟩ : ∃ p, placeR s t = p := ⟨_, rfl⟩
  have HP := Lib.hid hp
  by_cases h0 : 0 ≤ p
  · have HA := Lib.hid (show atG s t = p by unfold atG; rw [hp, if_pos h0])
    have HD := Lib.hid (show decide (0 ≤ placeR s t) = true by rw [hp]; exact decide_eq_true h0)
    have hlt := placeR_lt hp h0
    obtain ⟨hm, hx⟩ := moreG_yes hp h0
    have HM := Lib.hid hm
    have HX := Lib.hid hx
    clear hp hm hx
    go_enter Try.func16, Try.ntmps16
    go_wp2_with fail
    refine (sat_calls _ _ s t _ H1.out L1.out H2.out L2.out).mono ?_
    rintro e w1 ⟨rfl, hB⟩
    have HB := Lib.hid hB
    have H1b := Lib.hid (H1.out.below hB)
    clear hB
    rw [HA.out, HD.out]
    go_wp2_with fail
    refine (sindex_calls _ s _ _ H1b.out L1.out).mono ?_
    rintro e w2 ⟨z, rfl, hz, hB⟩
    have HZ := Lib.hid (hz.wideG (fun b h => Nat.le_trans HB.out.size h))
    have HB2 := Lib.hid (HB.out.trans (hB.mono HB.out.size))
    clear hB hz
    go_wp2
    go_ret2
    exact ⟨_, ret_zb HM.out.symm, by rw [HX.out]; exact HZ.out, HB2.out⟩
  · have HD := Lib.hid (show decide (0 ≤ placeR s t) = false by rw [hp]; exact decide_eq_false h0)
    clear hp
    go_enter Try.func16, Try.ntmps16
    go_wp2_with fail
    refine (sat_calls _ _ s t _ H1.out L1.out H2.out L2.out).mono ?_
    rintro e w1 ⟨rfl, hB⟩
    have HB := Lib.hid hB
    clear hB
    rw [HD.out]
    go_wp2
    go_ret2
    exact ⟨_, ret_zb (moreG_no HD.out).symm, slc_nilG _ _ (nextG_none (moreG_no HD.out)), HB.out⟩
end Go.Proofs.Ytnebondinjjodaa

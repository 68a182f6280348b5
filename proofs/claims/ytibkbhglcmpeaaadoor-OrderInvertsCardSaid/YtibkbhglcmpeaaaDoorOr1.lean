/- Layer 16's law: OrderInverts. -/
import Derived.Test.YtibkbhglcmpeaaaDoorMgOr1
namespace Go.Proofs.YtibkbhglcmpeaaaDoor
set_option maxRecDepth 100000
open Go.RowKit Fl
set_option linter.unusedVariables false

theorem ok_mem {l : List Int} (h : okP l.length l) {i : Nat} (hi : i < l.length) : ∃ m : Nat, m < l.length ∧ l[m]? = some (i : Int) ∧ (invL l)[i]? = some (m : Int) := by
  have h1 := ok_once h i hi
  have h2 : (i : Int) ∈ l := List.count_pos_iff.1 (by omega)
  obtain ⟨m, hm, e⟩ := List.getElem_of_mem h2
  have e2 : l[m]? = some (i : Int) := by rw [List.getElem?_eq_getElem hm, e]
  exact ⟨m, hm, e2, by have := invL_at h e2; rwa [Int.toNat_natCast] at this⟩
set_option maxHeartbeats 16000000 in
theorem orderInverts_walk (v : Value) (l : List Int) (w : World) (hv : Slc w (fun _ => True) v l.length (ints l)) (hm : l.length ≤ maxLen) (hT : TabAt w) :
    Calls Tryd.prog 6 #[v] w (Yes16 w) := by
  have HT := Lib.hid hT
  have HV := Lib.hid hv
  have HB := Lib.hid (Below.refl w.heap.size w)
  obtain ⟨ao, cap, rfl, _⟩ := hv.opened
  obtain ⟨n, hn⟩ : ∃ n, l.length = n := ⟨_, rfl⟩
  have HN := Lib.hid hn
  rw [hn] at HV hm ⊢
  clear hv hT hn
  by_cases g1 : 300 < n
  · go_enter Tryd.func6, Tryd.ntmps6
    go_wp2_with fail
    refine (awake16_calls _ HT.out).mono ?_
    rintro e W11 ⟨rfl, hB⟩
    replace HB := Lib.hid (HB.out.trans (hB.mono HB.out.size))
    replace HT := Lib.hid (fun j hj => keep_below hB _ _ (HT.out j hj))
    replace HV := Lib.hid (HV.out.below hB)
    clear hB
    go_wp2_with fail
    go_ret
    exact ⟨rfl, HB.out⟩
  have HNM := Lib.hid (show n ≤ 300 by omega)
  go_enter Tryd.func6, Tryd.ntmps6
  go_wp2_with fail
  by_cases hok : okP n l
  rotate_left
  · have HOK := Lib.hid (show ¬ okP l.length l by rw [HN.out]; exact hok)
    have HN0 := Lib.hid (show n ≠ 0 from fun e => HOK.out (by rw [HN.out, e, List.length_eq_zero_iff.1 (HN.out.trans e)]; exact okP_nil _))
    have hn0 : ((0 : Int) != (n : Int)) = true := by have := HN0.out; simp; omega
    clear hok
    refine (oinvert_no _ l _ (by rw [HN.out]; exact HV.out) (by rw [HN.out]; have := HNM.out; omega) HOK.out).mono ?_
    rintro e W11 ⟨rfl, hB⟩
    replace HB := Lib.hid (HB.out.trans (hB.mono HB.out.size))
    replace HT := Lib.hid (fun j hj => keep_below hB _ _ (HT.out j hj))
    replace HV := Lib.hid (HV.out.below hB)
    clear hB
    go_wp2_with fail
    refine (ronce_calls _ l _ (by rw [HN.out]; exact HV.out) (by rw [HN.out]; have := HNM.out; omega)).mono ?_
    rintro e w9 ⟨⟨h1, _⟩ | ⟨_, rfl⟩, rfl⟩
    · exact absurd h1 HOK.out
    go_wp2_with fail
    go_loopw [5] (fun iv wr => iv = .int .i64 0 ∧ wr = W11) (fun iv _ => 0)
    case atStart => exact ⟨rfl, rfl⟩
    case round =>
      obtain ⟨rfl, rfl⟩ := hrel
      go_wp2_with fail
      refine (awake16_calls _ HT.out).mono ?_
      rintro e W12 ⟨rfl, hB⟩
      replace HB := Lib.hid (HB.out.trans (hB.mono HB.out.size))
      replace HT := Lib.hid (fun j hj => keep_below hB _ _ (HT.out j hj))
      replace HV := Lib.hid (HV.out.below hB)
      clear hB
      go_wp2_with fail
      go_ret
      exact ⟨rfl, HB.out⟩
  have HOK := Lib.hid (show okP l.length l by rw [HN.out]; exact hok)
  clear hok
  refine (oinvert_yes _ l _ (by rw [HN.out]; exact HV.out) (by rw [HN.out]; have := HNM.out; omega) HOK.out).mono ?_
  rintro e W11 ⟨v1, rfl, hv1, hB⟩
  replace HB := Lib.hid (HB.out.trans (hB.mono HB.out.size))
  replace HT := Lib.hid (fun j hj => keep_below hB _ _ (HT.out j hj))
  replace HV := Lib.hid (HV.out.below hB)
  rw [HN.out] at hv1
  have H1 := Lib.hid hv1
  obtain ⟨a1, c1, rfl, _⟩ := hv1.opened
  clear hv1
  clear hB
  go_wp2_with fail
  refine (ronce_calls _ l _ (by rw [HN.out]; exact HV.out) (by rw [HN.out]; have := HNM.out; omega)).mono ?_
  rintro e w9 ⟨⟨_, rfl⟩ | ⟨h1, _⟩, rfl⟩
  rotate_left
  · exact absurd HOK.out h1
  go_wp2_with fail
  go_loopw [5] (fun iv wr => ∃ i : Nat, i ≤ n ∧ iv = .int .i64 i ∧ wr = W11) (fun iv _ => n - (intOf iv).toNat)
  case atStart => exact ⟨0, by omega, rfl, rfl⟩
  case round =>
    obtain ⟨i, hi, rfl, rfl⟩ := hrel
    by_cases hlt : i < n
    · obtain ⟨m, hmn, hlm, him⟩ := ok_mem HOK.out (by rw [HN.out]; exact hlt)
      rw [HN.out] at hmn
      obtain ⟨b, off, cap2, x, e9, hx, hcx⟩ := Slc.at_map (Value.int .i64) (by rw [HN.out]; exact HV.out) m (by rw [HN.out]; exact hmn)
      obtain ⟨b2, off2, cap3, y, e8, hy, hcy⟩ := Slc.at_map (l := invL l) (Value.int .i64) (by rw [invL_len, HN.out]; exact H1.out) i (by rw [invL_len, HN.out]; exact hlt)
      rw [HN.out] at e9
      rw [invL_len, HN.out] at e8
      cases e9
      cases e8
      obtain rfl : x = (i : Int) := Option.some.inj (hx.symm.trans hlm)
      obtain rfl : y = (m : Int) := Option.some.inj (hy.symm.trans him)
      clear hx hy hlm him
      go_wp2_with fail
      go_roundw
      case rel => exact ⟨i + 1, by omega, by go_num, trivial⟩
      case measure => simp [intOf]; omega
    · go_wp2_with fail
      refine (awake16_calls _ HT.out).mono ?_
      rintro e W12 ⟨rfl, hB⟩
      replace HB := Lib.hid (HB.out.trans (hB.mono HB.out.size))
      replace HT := Lib.hid (fun j hj => keep_below hB _ _ (HT.out j hj))
      replace HV := Lib.hid (HV.out.below hB)
      replace H1 := Lib.hid (H1.out.below hB)
      clear hB
      go_wp2_with fail
      go_ret
      exact ⟨rfl, HB.out⟩

theorem orderInverts_frame (w : World) (v : Value) (l : List Int) (hr : RowC w v (l.map (Value.int .i64))) (hz : ∀ z ∈ l, (Lit.int .i64 z).wf = true) (hm : l.length ≤ maxLen) (hT : TabAt w) :
    Calls Tryd.prog 6 #[v] w fun e w' => e = .returned (.bool true) ∧ Below w.heap.size w w' :=
  orderInverts_walk v l w (by have := hr.slc; rw [List.length_map] at this; exact this) hm hT
end Go.Proofs.YtibkbhglcmpeaaaDoor

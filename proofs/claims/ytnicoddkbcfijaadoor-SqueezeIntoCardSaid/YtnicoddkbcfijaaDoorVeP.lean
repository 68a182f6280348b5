/- Package vec's law: the reference's Tidy of lists; shows. -/
import Derived.Test.YtnicoddkbcfijaaDoorVeO
namespace Go.Proofs.YtnicoddkbcfijaaDoor
open Go.RowKit Fl
set_option linter.unusedVariables false
set_option maxRecDepth 4000

set_option maxHeartbeats 1000000 in
theorem rtidys_yes {ok : Nat → Prop} (v : Value) (l : List Nat) (w : World) (hv : Slc w ok v l.length (f64s l)) (hm : l.length ≤ 2000000) (hf : ∀ x ∈ l, Fnt x) :
    Calls Tryd.prog 8 #[v] w fun e w' => ∃ v, e = .returned (.tuple #[v, .bool true]) ∧ Slc w' (fun b => w.heap.size ≤ b) v l.length (f64s (l.map ze)) ∧ Below w.heap.size w w' := by
  obtain ⟨i0, hi, hz0, hz1, hz2⟩ := info_parts info_f64
  have HF := Lib.hid hf
  have HV := Lib.hid hv
  obtain ⟨ao, cap, rfl, _⟩ := hv.opened
  have hst := run_store_float
  clear hv hf
  go_enter Tryd.func8, Tryd.ntmps8
  go_wp2
  go_loopw [4, 5] (fun v i wr => ∃ k : Nat, k ≤ l.length ∧ i = .int .i64 k ∧ wr.ownsRow w.heap.size 53 1 v k (f64s ((l.take k).map ze)) ∧ Below w.heap.size w wr) (fun _ i _ => l.length - (intOf i).toNat)
  case atStart => exact ⟨0, by omega, rfl, World.ownsRow_nil _ _ _ _, Below.refl _ _⟩
  case round =>
    obtain ⟨k, hk, rfl, hown, hB⟩ := hrel
    have HO := Lib.hid hown
    have HB := Lib.hid hB
    have hsz := hB.size
    by_cases hlt : k < l.length
    · obtain ⟨b, off, cap', x, e1, hx, hcx⟩ := Slc.at_map (Value.float .f64) HV.out k hlt
      cases e1
      have hcl := keep_below hB _ _ hcx
      have HX := Lib.hid hx
      have HT := Lib.hid (show (l.take (k + 1)).map ze = (l.take k).map ze ++ [ze x] by rw [List.take_succ_eq_append_getElem hlt, List.map_append, (List.getElem?_eq_some_iff.1 hx).2]; rfl)
      clear hown hB hcx hx
      have HFx := Lib.hid (HF.out x (List.mem_of_getElem? HX.out))
      go_wp2_with (first | (go_at_call 26; refine (rtidy_fin _ _ HFx.out).mono ?_; rintro e w' ⟨rfl, rfl⟩) | (at_builtin; refine wpList_append_own _ rfl _ _ 22 rfl w.heap.size 53 i0 (.float .f64 0) 1 8 Tryd.underlying22 hi hz0 hz1 hz2 rfl (by decide) _ _ _ rfl (HO.out.alloc _) ⟨wr.heap.size, 0, none⟩ 1 1 [.float .f64 (ze x)] rfl rfl ?c1 ?c2 ?c3 ?c4 ?c5 ?_))
      case c1 =>
        intro j u hj
        match j, hj with
        | 0, hj => simp at hj; subst hj; simp [Addr.add]
      case c2 => intro u hu; simp at hu; subst hu; rfl
      case c3 => unfold maxLen; omega
      case c4 => omega
      case c5 => simp; omega
      intro v' w3 hown' hgrow _
      have HO3 := Lib.hid hown'
      have HB3 := Lib.hid (grown_below (HB.out.alloc hsz _) (HO.out.alloc _) (Nat.le_refl _) (by simp; omega) hgrow)
      clear hown' hgrow
      go_wp2
      go_roundw
      case rel =>
        refine ⟨k + 1, by omega, by go_num, ?_, HB3.out⟩
        have := HO3.out
        rw [HT.out]
        simpa [f64s] using this
      case measure => simp [intOf]; omega
    · have hkl : k = l.length := by omega
      have HK := Lib.hid hkl
      clear hown hkl hB
      go_wp2
      go_ret2
      refine ⟨_, rfl, ?_, HB.out⟩
      have := Slc.owned HO.out
      rwa [HK.out, List.take_length] at this

set_option maxHeartbeats 1000000 in
theorem rtidys_no {ok : Nat → Prop} (v : Value) (l : List Nat) (w : World) (hv : Slc w ok v l.length (f64s l)) (hm : l.length ≤ 2000000) (hw : ∀ x ∈ l, x < 18446744073709551616) (hf : ∃ x ∈ l, ¬ Fnt x) :
    Calls Tryd.prog 8 #[v] w fun e w' => e = .returned (.tuple #[.slice none 0 0, .bool false]) ∧ Below w.heap.size w w' := by
  obtain ⟨i0, hi, hz0, hz1, hz2⟩ := info_parts info_f64
  have HF := Lib.hid hf
  have HWF := Lib.hid hw
  have HV := Lib.hid hv
  obtain ⟨ao, cap, rfl, _⟩ := hv.opened
  have hst := run_store_float
  clear hv hf hw
  go_enter Tryd.func8, Tryd.ntmps8
  go_wp2
  go_loopw [4, 5] (fun v i wr => ∃ k : Nat, k ≤ l.length ∧ i = .int .i64 k ∧ wr.ownsRow w.heap.size 53 1 v k (f64s ((l.take k).map ze)) ∧ Below w.heap.size w wr ∧ ∀ x ∈ l.take k, Fnt x) (fun _ i _ => l.length - (intOf i).toNat)
  case atStart => exact ⟨0, by omega, rfl, World.ownsRow_nil _ _ _ _, Below.refl _ _, by simp⟩
  case round =>
    obtain ⟨k, hk, rfl, hown, hB, hall⟩ := hrel
    have HO := Lib.hid hown
    have HB := Lib.hid hB
    have hsz := hB.size
    have HL := Lib.hid hall
    clear hall
    by_cases hlt : k < l.length
    · obtain ⟨b, off, cap', x, e1, hx, hcx⟩ := Slc.at_map (Value.float .f64) HV.out k hlt
      cases e1
      have hcl := keep_below hB _ _ hcx
      have HX := Lib.hid hx
      have HT := Lib.hid (show (l.take (k + 1)).map ze = (l.take k).map ze ++ [ze x] by rw [List.take_succ_eq_append_getElem hlt, List.map_append, (List.getElem?_eq_some_iff.1 hx).2]; rfl)
      clear hown hB hcx hx
      by_cases hfx : Fnt x
      · have HN : Hid (∀ y ∈ l.take (k + 1), Fnt y) := Lib.hid (by
          intro y hy
          rw [List.take_succ_eq_append_getElem hlt, List.mem_append, List.mem_singleton] at hy
          rcases hy with hy | hy
          · exact HL.out y hy
          · rw [hy, (List.getElem?_eq_some_iff.1 HX.out).2]; exact hfx)
        have HFx := Lib.hid (hfx)
        clear hfx
        go_wp2_with (first | (go_at_call 26; refine (rtidy_fin _ _ HFx.out).mono ?_; rintro e w' ⟨rfl, rfl⟩) | (at_builtin; refine wpList_append_own _ rfl _ _ 22 rfl w.heap.size 53 i0 (.float .f64 0) 1 8 Tryd.underlying22 hi hz0 hz1 hz2 rfl (by decide) _ _ _ rfl (HO.out.alloc _) ⟨wr.heap.size, 0, none⟩ 1 1 [.float .f64 (ze x)] rfl rfl ?c1 ?c2 ?c3 ?c4 ?c5 ?_))
        case c1 =>
          intro j u hj
          match j, hj with
          | 0, hj => simp at hj; subst hj; simp [Addr.add]
        case c2 => intro u hu; simp at hu; subst hu; rfl
        case c3 => unfold maxLen; omega
        case c4 => omega
        case c5 => simp; omega
        intro v' w3 hown' hgrow _
        have HO3 := Lib.hid hown'
        have HB3 := Lib.hid (grown_below (HB.out.alloc hsz _) (HO.out.alloc _) (Nat.le_refl _) (by simp; omega) hgrow)
        clear hown' hgrow
        go_wp2
        go_roundw
        case rel =>
          refine ⟨k + 1, by omega, by go_num, ?_, HB3.out, HN.out⟩
          have := HO3.out
          rw [HT.out]
          simpa [f64s] using this
        case measure => simp [intOf]; omega
      · have HFx := Lib.hid hfx
        have hwx := Lib.hid (HWF.out x (List.mem_of_getElem? HX.out))
        clear hfx
        go_wp2_with fail
        refine (rtidy_non _ _ hwx.out HFx.out).mono ?_
        rintro e w2 ⟨rfl, rfl⟩
        go_wp2
        go_ret2
        exact ⟨rfl, HB.out⟩
    · have hkl : k = l.length := by omega
      obtain ⟨x, hx, hn⟩ := HF.out
      exact absurd (HL.out x (by rw [hkl, List.take_length]; exact hx)) hn
end Go.Proofs.YtnicoddkbcfijaaDoor

/- ShapeMisses, walked. -/
import Derived.Test.YtnebondinjjodaaShG
namespace Go.Proofs.Ytnebondinjjodaa
open Go.RowKit
set_option linter.unusedVariables false
set_option maxRecDepth 8000

theorem ok_prod {s : List Int} {n f : Int} (h : prodR s 1048576 = (n, f)) (hf : f = 0) : nzp s ≤ 1048576 ∧ anyN s = false ∧ n = if anyZ s = true then 0 else nzp s := by
  subst hf
  unfold prodR at h
  by_cases h1 : 8 < s.length
  · rw [if_pos h1] at h; cases h
  rw [if_neg h1] at h
  by_cases h2 : anyN s = true
  · rw [if_pos h2] at h; cases h
  rw [if_neg h2] at h
  by_cases h3 : 1048576 < nzp s
  · rw [if_pos h3] at h; cases h
  rw [if_neg h3] at h
  by_cases h4 : 1048576 < (if anyZ s = true then 0 else nzp s)
  · rw [if_pos h4] at h; cases h
  rw [if_neg h4] at h
  exact ⟨by omega, by simpa using h2, (congrArg Prod.fst h).symm⟩
theorem pos_of {s : List Int} {n f i : Int} (h : prodR s 1048576 = (n, f)) (hf : f = 0) (h0 : 0 ≤ i) (h1 : i < n) : Pos s ∧ n = nzp s := by
  obtain ⟨_, hn, e⟩ := ok_prod h hf
  cases hz : anyZ s with
  | true => rw [hz] at e; simp at e; omega
  | false =>
    rw [hz] at e
    refine ⟨fun x hx => ?_, by simpa using e⟩
    have a : ¬ x < 0 := fun hlt => by
      have : anyN s = true := List.any_eq_true.2 ⟨x, hx, by simpa using hlt⟩
      rw [hn] at this; cases this
    have b : x ≠ 0 := fun h0 => by
      have : anyZ s = true := List.any_eq_true.2 ⟨x, hx, by simpa using h0⟩
      rw [hz] at this; cases this
    omega
theorem place_unp {s : List Int} {n f i : Int} (h : prodR s 1048576 = (n, f)) (hf : f = 0) (h0 : 0 ≤ i) (h1 : i < n) : placeR s (unp s i) = i := by
  obtain ⟨hp, e⟩ := pos_of h hf h0 h1
  unfold placeR
  rw [if_pos ⟨by unfold goodS; rw [h, hf]; rfl, (unp_len s i).symm⟩, plc_unp s i hp h0 (by rw [← e]; exact h1)]
  rfl

set_option maxHeartbeats 4000000 in
theorem shMisses_pnogood (w : World) (v v2 : Value) (s t : List Int) (i P n f : Int) (HS : Hid (Slc w (fun _ => True) v s.length (ints s))) (HT : Hid (Slc w (fun _ => True) v2 t.length (ints t))) (hl : s.length ≤ 60) (hl2 : t.length ≤ 60) (HPP : Hid (placeR s t = P)) (HP : Hid (prodR s 1048576 = (n, f))) (hp : 0 ≤ P) (hf : f ≠ 0) :
    Calls Try.prog 5 #[v, v2, .int .i64 i] w fun e w' => e = .returned (.bool true) ∧ Below w.heap.size w w' := by
  have HB := Lib.hid (Below.refl w.heap.size w)
  have HL := Lib.hid (show s.length ≤ 1000 by omega)
  have HL2 := Lib.hid (show t.length ≤ 1000 by omega)
  have HL3 := Lib.hid (show s.length ≤ 9223372036854775807 by omega)
  have HF := Lib.hid hf


  have HQ := Lib.hid (show decide (0 ≤ P) = true from decide_eq_true hp)
  have HAT := Lib.hid (show atG s t = P by unfold atG; rw [HPP.out, if_pos hp])
  have HHG := Lib.hid (show hasG s i = false by unfold hasG goodS; rw [HP.out, show ((f : Int) == 0) = false by simpa using HF.out]; rfl)
  have HGD := Lib.hid (show goodS s = false by unfold goodS; rw [HP.out]; simpa using HF.out)
  have HIX := Lib.hid (show idxG s i = [] by unfold idxG; rw [HHG.out]; rfl)
  have HST := Lib.hid (show strG s = [] by unfold strG; rw [HGD.out]; rfl)
  have hne : s.length ≠ 0 := fun h0 => by have h1 : s = [] := List.eq_nil_of_length_eq_zero h0; have h2 := HGD.out; rw [h1] at h2; exact absurd h2 (by decide)
  have hne2 : ((0 : Int) == (s.length : Int)) = false := beq_eq_false_iff_ne.2 (by omega)
  have hne3 : ((s.length : Int) == 0) = false := beq_eq_false_iff_ne.2 (by omega)
  have hnil : s ≠ [] := fun h => hne (by rw [h]; rfl)
  have hfb : (f == 0) = false := by simpa using hf






  obtain ⟨ao, cap, rfl, _⟩ := HS.out.opened
  obtain ⟨ao2, cap2, rfl, _⟩ := HT.out.opened
  clear hf

  go_enter Try.func5, Try.ntmps5
  go_wp2_with fail
  refine (sat_calls _ _ s t _ HS.out HL.out HT.out HL2.out).mono ?_
  rintro e W1 ⟨rfl, hB⟩
  replace HS := Lib.hid (HS.out.below hB)
  replace HT := Lib.hid (HT.out.below hB)
  replace HB := Lib.hid (HB.out.trans (hB.mono HB.out.size))
  rw [HAT.out, HPP.out, HQ.out]
  clear hB
  go_wp2_with fail
  refine (rplace_calls _ _ s t _ HS.out HT.out (by have := HL.out; omega) (by have := HL2.out; omega)).mono ?_
  rintro e W2 ⟨rfl, hB⟩
  replace HS := Lib.hid (HS.out.below hB)
  replace HT := Lib.hid (HT.out.below hB)
  replace HB := Lib.hid (HB.out.trans (hB.mono HB.out.size))
  rw [HPP.out]
  clear hB
  go_wp2_with fail
  refine (sindex_calls _ s i _ HS.out HL.out).mono ?_
  rintro e W3 ⟨z, rfl, hs, hB⟩
  replace HS := Lib.hid (HS.out.below hB)
  replace HT := Lib.hid (HT.out.below hB)
  replace HB := Lib.hid (HB.out.trans (hB.mono HB.out.size))
  rw [HHG.out]
  have HZ := Lib.hid (show Slc W3 _ z ([] : List Int).length (ints ([])) from by rw [HIX.out] at hs; exact hs)
  clear hs
  clear hB
  obtain ⟨aoz, capz, rfl, _⟩ := HZ.out.opened
  go_wp2_with fail
  refine (Calls.grow_same6 (rproduct_calls _ s 1048576 _ HS.out HL3.out)).mono ?_
  rintro e W4 ⟨rfl, hB⟩
  replace HS := Lib.hid (HS.out.below hB)
  replace HT := Lib.hid (HT.out.below hB)
  replace HZ := Lib.hid (HZ.out.below hB)
  replace HB := Lib.hid (HB.out.trans (hB.mono HB.out.size))
  rw [HP.out]
  clear hB
  go_wp2_with fail
  refine (sstrides_calls _ s _ HS.out HL.out).mono ?_
  rintro e W5 ⟨y, rfl, hs, hB⟩
  replace HS := Lib.hid (HS.out.below hB)
  replace HT := Lib.hid (HT.out.below hB)
  replace HZ := Lib.hid (HZ.out.below hB)
  replace HB := Lib.hid (HB.out.trans (hB.mono HB.out.size))
  have HY := Lib.hid (show Slc W5 _ y 0 (ints ([])) from by rw [HST.out] at hs; exact hs)
  clear hs
  clear hB
  obtain ⟨aoy, capy, rfl, _⟩ := HY.out.opened
  go_wp2_with fail
  refine (Calls.grow_same6 (rgood_calls _ s _ HS.out HL3.out)).mono ?_
  rintro e W6 ⟨rfl, hB⟩
  replace HS := Lib.hid (HS.out.below hB)
  replace HT := Lib.hid (HT.out.below hB)
  replace HZ := Lib.hid (HZ.out.below hB)
  replace HY := Lib.hid (HY.out.below hB)
  replace HB := Lib.hid (HB.out.trans (hB.mono HB.out.size))
  rw [HGD.out]
  clear hB
  go_wp2_with fail
  refine (awake6_calls _).mono ?_
  rintro e W7 ⟨rfl, hB⟩
  replace HS := Lib.hid (HS.out.below hB)
  replace HT := Lib.hid (HT.out.below hB)
  replace HZ := Lib.hid (HZ.out.below hB)
  replace HY := Lib.hid (HY.out.below hB)
  replace HB := Lib.hid (HB.out.trans (hB.mono HB.out.size))
  clear hB
  go_wp2
  go_ret
  exact ⟨rfl, HB.out⟩

set_option maxHeartbeats 4000000 in
theorem shMisses_pneg (w : World) (v v2 : Value) (s t : List Int) (i P n f : Int) (HS : Hid (Slc w (fun _ => True) v s.length (ints s))) (HT : Hid (Slc w (fun _ => True) v2 t.length (ints t))) (hl : s.length ≤ 60) (hl2 : t.length ≤ 60) (HPP : Hid (placeR s t = P)) (HP : Hid (prodR s 1048576 = (n, f))) (hp : 0 ≤ P) (hf : f = 0) (ha : ¬ 0 ≤ i) :
    Calls Try.prog 5 #[v, v2, .int .i64 i] w fun e w' => e = .returned (.bool true) ∧ Below w.heap.size w w' := by
  have HB := Lib.hid (Below.refl w.heap.size w)
  have HL := Lib.hid (show s.length ≤ 1000 by omega)
  have HL2 := Lib.hid (show t.length ≤ 1000 by omega)
  have HL3 := Lib.hid (show s.length ≤ 9223372036854775807 by omega)
  have HF := Lib.hid hf
  have HA2 := Lib.hid ha

  have HQ := Lib.hid (show decide (0 ≤ P) = true from decide_eq_true hp)
  have HAT := Lib.hid (show atG s t = P by unfold atG; rw [HPP.out, if_pos hp])
  have HHG := Lib.hid (show hasG s i = false by unfold hasG; rw [decide_eq_false (fun h => HA2.out h.1)]; simp)
  have HGD := Lib.hid (show goodS s = true by unfold goodS; rw [HP.out]; rw [HF.out]; rfl)
  have HIX := Lib.hid (show idxG s i = [] by unfold idxG; rw [HHG.out]; rfl)
  have HST := Lib.hid (show strG s = strd s by unfold strG; rw [HGD.out]; rfl)




  have hfb : (f == 0) = true := by rw [hf]; rfl






  obtain ⟨ao, cap, rfl, _⟩ := HS.out.opened
  obtain ⟨ao2, cap2, rfl, _⟩ := HT.out.opened
  clear hf

  go_enter Try.func5, Try.ntmps5
  go_wp2_with fail
  refine (sat_calls _ _ s t _ HS.out HL.out HT.out HL2.out).mono ?_
  rintro e W1 ⟨rfl, hB⟩
  replace HS := Lib.hid (HS.out.below hB)
  replace HT := Lib.hid (HT.out.below hB)
  replace HB := Lib.hid (HB.out.trans (hB.mono HB.out.size))
  rw [HAT.out, HPP.out, HQ.out]
  clear hB
  go_wp2_with fail
  refine (rplace_calls _ _ s t _ HS.out HT.out (by have := HL.out; omega) (by have := HL2.out; omega)).mono ?_
  rintro e W2 ⟨rfl, hB⟩
  replace HS := Lib.hid (HS.out.below hB)
  replace HT := Lib.hid (HT.out.below hB)
  replace HB := Lib.hid (HB.out.trans (hB.mono HB.out.size))
  rw [HPP.out]
  clear hB
  go_wp2_with fail
  refine (sindex_calls _ s i _ HS.out HL.out).mono ?_
  rintro e W3 ⟨z, rfl, hs, hB⟩
  replace HS := Lib.hid (HS.out.below hB)
  replace HT := Lib.hid (HT.out.below hB)
  replace HB := Lib.hid (HB.out.trans (hB.mono HB.out.size))
  rw [HHG.out]
  have HZ := Lib.hid (show Slc W3 _ z ([] : List Int).length (ints ([])) from by rw [HIX.out] at hs; exact hs)
  clear hs
  clear hB
  obtain ⟨aoz, capz, rfl, _⟩ := HZ.out.opened
  go_wp2_with fail
  refine (Calls.grow_same6 (rproduct_calls _ s 1048576 _ HS.out HL3.out)).mono ?_
  rintro e W4 ⟨rfl, hB⟩
  replace HS := Lib.hid (HS.out.below hB)
  replace HT := Lib.hid (HT.out.below hB)
  replace HZ := Lib.hid (HZ.out.below hB)
  replace HB := Lib.hid (HB.out.trans (hB.mono HB.out.size))
  rw [HP.out]
  clear hB
  go_wp2_with fail
  refine (sstrides_calls _ s _ HS.out HL.out).mono ?_
  rintro e W5 ⟨y, rfl, hs, hB⟩
  replace HS := Lib.hid (HS.out.below hB)
  replace HT := Lib.hid (HT.out.below hB)
  replace HZ := Lib.hid (HZ.out.below hB)
  replace HB := Lib.hid (HB.out.trans (hB.mono HB.out.size))
  have HY := Lib.hid (show Slc W5 _ y s.length (ints (strd s)) from by rw [HST.out, strd_len] at hs; exact hs)
  clear hs
  clear hB
  obtain ⟨aoy, capy, rfl, _⟩ := HY.out.opened
  go_wp2_with fail
  refine (Calls.grow_same6 (rgood_calls _ s _ HS.out HL3.out)).mono ?_
  rintro e W6 ⟨rfl, hB⟩
  replace HS := Lib.hid (HS.out.below hB)
  replace HT := Lib.hid (HT.out.below hB)
  replace HZ := Lib.hid (HZ.out.below hB)
  replace HY := Lib.hid (HY.out.below hB)
  replace HB := Lib.hid (HB.out.trans (hB.mono HB.out.size))
  rw [HGD.out]
  clear hB
  go_wp2_with fail
  refine (awake6_calls _).mono ?_
  rintro e W7 ⟨rfl, hB⟩
  replace HS := Lib.hid (HS.out.below hB)
  replace HT := Lib.hid (HT.out.below hB)
  replace HZ := Lib.hid (HZ.out.below hB)
  replace HY := Lib.hid (HY.out.below hB)
  replace HB := Lib.hid (HB.out.trans (hB.mono HB.out.size))
  clear hB
  go_wp2
  go_ret
  exact ⟨rfl, HB.out⟩

set_option maxHeartbeats 4000000 in
theorem shMisses_pbig (w : World) (v v2 : Value) (s t : List Int) (i P n f : Int) (HS : Hid (Slc w (fun _ => True) v s.length (ints s))) (HT : Hid (Slc w (fun _ => True) v2 t.length (ints t))) (hl : s.length ≤ 60) (hl2 : t.length ≤ 60) (HPP : Hid (placeR s t = P)) (HP : Hid (prodR s 1048576 = (n, f))) (hp : 0 ≤ P) (hf : f = 0) (ha : 0 ≤ i) (hb : ¬ i < n) :
    Calls Try.prog 5 #[v, v2, .int .i64 i] w fun e w' => e = .returned (.bool true) ∧ Below w.heap.size w w' := by
  have HB := Lib.hid (Below.refl w.heap.size w)
  have HL := Lib.hid (show s.length ≤ 1000 by omega)
  have HL2 := Lib.hid (show t.length ≤ 1000 by omega)
  have HL3 := Lib.hid (show s.length ≤ 9223372036854775807 by omega)
  have HF := Lib.hid hf
  have HA2 := Lib.hid ha
  have HB2 := Lib.hid hb
  have HQ := Lib.hid (show decide (0 ≤ P) = true from decide_eq_true hp)
  have HAT := Lib.hid (show atG s t = P by unfold atG; rw [HPP.out, if_pos hp])
  have HHG := Lib.hid (show hasG s i = false by unfold hasG; rw [HP.out, decide_eq_false (fun h => HB2.out h.2)]; simp)
  have HGD := Lib.hid (show goodS s = true by unfold goodS; rw [HP.out]; rw [HF.out]; rfl)
  have HIX := Lib.hid (show idxG s i = [] by unfold idxG; rw [HHG.out]; rfl)
  have HST := Lib.hid (show strG s = strd s by unfold strG; rw [HGD.out]; rfl)




  have hfb : (f == 0) = true := by rw [hf]; rfl






  obtain ⟨ao, cap, rfl, _⟩ := HS.out.opened
  obtain ⟨ao2, cap2, rfl, _⟩ := HT.out.opened
  clear hf

  go_enter Try.func5, Try.ntmps5
  go_wp2_with fail
  refine (sat_calls _ _ s t _ HS.out HL.out HT.out HL2.out).mono ?_
  rintro e W1 ⟨rfl, hB⟩
  replace HS := Lib.hid (HS.out.below hB)
  replace HT := Lib.hid (HT.out.below hB)
  replace HB := Lib.hid (HB.out.trans (hB.mono HB.out.size))
  rw [HAT.out, HPP.out, HQ.out]
  clear hB
  go_wp2_with fail
  refine (rplace_calls _ _ s t _ HS.out HT.out (by have := HL.out; omega) (by have := HL2.out; omega)).mono ?_
  rintro e W2 ⟨rfl, hB⟩
  replace HS := Lib.hid (HS.out.below hB)
  replace HT := Lib.hid (HT.out.below hB)
  replace HB := Lib.hid (HB.out.trans (hB.mono HB.out.size))
  rw [HPP.out]
  clear hB
  go_wp2_with fail
  refine (sindex_calls _ s i _ HS.out HL.out).mono ?_
  rintro e W3 ⟨z, rfl, hs, hB⟩
  replace HS := Lib.hid (HS.out.below hB)
  replace HT := Lib.hid (HT.out.below hB)
  replace HB := Lib.hid (HB.out.trans (hB.mono HB.out.size))
  rw [HHG.out]
  have HZ := Lib.hid (show Slc W3 _ z ([] : List Int).length (ints ([])) from by rw [HIX.out] at hs; exact hs)
  clear hs
  clear hB
  obtain ⟨aoz, capz, rfl, _⟩ := HZ.out.opened
  go_wp2_with fail
  refine (Calls.grow_same6 (rproduct_calls _ s 1048576 _ HS.out HL3.out)).mono ?_
  rintro e W4 ⟨rfl, hB⟩
  replace HS := Lib.hid (HS.out.below hB)
  replace HT := Lib.hid (HT.out.below hB)
  replace HZ := Lib.hid (HZ.out.below hB)
  replace HB := Lib.hid (HB.out.trans (hB.mono HB.out.size))
  rw [HP.out]
  clear hB
  go_wp2_with fail
  refine (sstrides_calls _ s _ HS.out HL.out).mono ?_
  rintro e W5 ⟨y, rfl, hs, hB⟩
  replace HS := Lib.hid (HS.out.below hB)
  replace HT := Lib.hid (HT.out.below hB)
  replace HZ := Lib.hid (HZ.out.below hB)
  replace HB := Lib.hid (HB.out.trans (hB.mono HB.out.size))
  have HY := Lib.hid (show Slc W5 _ y s.length (ints (strd s)) from by rw [HST.out, strd_len] at hs; exact hs)
  clear hs
  clear hB
  obtain ⟨aoy, capy, rfl, _⟩ := HY.out.opened
  go_wp2_with fail
  refine (Calls.grow_same6 (rgood_calls _ s _ HS.out HL3.out)).mono ?_
  rintro e W6 ⟨rfl, hB⟩
  replace HS := Lib.hid (HS.out.below hB)
  replace HT := Lib.hid (HT.out.below hB)
  replace HZ := Lib.hid (HZ.out.below hB)
  replace HY := Lib.hid (HY.out.below hB)
  replace HB := Lib.hid (HB.out.trans (hB.mono HB.out.size))
  rw [HGD.out]
  clear hB
  go_wp2_with fail
  refine (awake6_calls _).mono ?_
  rintro e W7 ⟨rfl, hB⟩
  replace HS := Lib.hid (HS.out.below hB)
  replace HT := Lib.hid (HT.out.below hB)
  replace HZ := Lib.hid (HZ.out.below hB)
  replace HY := Lib.hid (HY.out.below hB)
  replace HB := Lib.hid (HB.out.trans (hB.mono HB.out.size))
  clear hB
  go_wp2
  go_ret
  exact ⟨rfl, HB.out⟩

set_option maxHeartbeats 4000000 in
theorem shMisses_phas (w : World) (v v2 : Value) (s t : List Int) (i P n f : Int) (HS : Hid (Slc w (fun _ => True) v s.length (ints s))) (HT : Hid (Slc w (fun _ => True) v2 t.length (ints t))) (hl : s.length ≤ 60) (hl2 : t.length ≤ 60) (HPP : Hid (placeR s t = P)) (HP : Hid (prodR s 1048576 = (n, f))) (hp : 0 ≤ P) (hf : f = 0) (ha : 0 ≤ i) (hb : i < n) :
    Calls Try.prog 5 #[v, v2, .int .i64 i] w fun e w' => e = .returned (.bool true) ∧ Below w.heap.size w w' := by
  have HB := Lib.hid (Below.refl w.heap.size w)
  have HL := Lib.hid (show s.length ≤ 1000 by omega)
  have HL2 := Lib.hid (show t.length ≤ 1000 by omega)
  have HL3 := Lib.hid (show s.length ≤ 9223372036854775807 by omega)
  have HF := Lib.hid hf
  have HA2 := Lib.hid ha
  have HB2 := Lib.hid hb
  have HQ := Lib.hid (show decide (0 ≤ P) = true from decide_eq_true hp)
  have HAT := Lib.hid (show atG s t = P by unfold atG; rw [HPP.out, if_pos hp])
  have HHG := Lib.hid (show hasG s i = true by unfold hasG goodS; rw [HP.out, HF.out, decide_eq_true (show 0 ≤ i ∧ i < n from ⟨HA2.out, HB2.out⟩)]; rfl)
  have HGD := Lib.hid (show goodS s = true by unfold goodS; rw [HP.out]; rw [HF.out]; rfl)
  have HIX := Lib.hid (show idxG s i = unp s i by unfold idxG; rw [HHG.out]; rfl)
  have HST := Lib.hid (show strG s = strd s by unfold strG; rw [HGD.out]; rfl)




  have hfb : (f == 0) = true := by rw [hf]; rfl
  obtain ⟨U, hU⟩ : ∃ U, unp s i = U := ⟨_, rfl⟩
  have HU := Lib.hid hU
  have HUL := Lib.hid (show U.length ≤ 1000000 by rw [← hU, unp_len]; omega)
  have HUP := Lib.hid (show placeR s U = i by rw [← hU]; exact place_unp HP.out HF.out HA2.out HB2.out)
  rw [hU] at HIX
  clear hU
  obtain ⟨ao, cap, rfl, _⟩ := HS.out.opened
  obtain ⟨ao2, cap2, rfl, _⟩ := HT.out.opened
  clear hf

  go_enter Try.func5, Try.ntmps5
  go_wp2_with fail
  refine (sat_calls _ _ s t _ HS.out HL.out HT.out HL2.out).mono ?_
  rintro e W1 ⟨rfl, hB⟩
  replace HS := Lib.hid (HS.out.below hB)
  replace HT := Lib.hid (HT.out.below hB)
  replace HB := Lib.hid (HB.out.trans (hB.mono HB.out.size))
  rw [HAT.out, HPP.out, HQ.out]
  clear hB
  go_wp2_with fail
  refine (rplace_calls _ _ s t _ HS.out HT.out (by have := HL.out; omega) (by have := HL2.out; omega)).mono ?_
  rintro e W2 ⟨rfl, hB⟩
  replace HS := Lib.hid (HS.out.below hB)
  replace HT := Lib.hid (HT.out.below hB)
  replace HB := Lib.hid (HB.out.trans (hB.mono HB.out.size))
  rw [HPP.out]
  clear hB
  go_wp2_with fail
  refine (sindex_calls _ s i _ HS.out HL.out).mono ?_
  rintro e W3 ⟨z, rfl, hs, hB⟩
  replace HS := Lib.hid (HS.out.below hB)
  replace HT := Lib.hid (HT.out.below hB)
  replace HB := Lib.hid (HB.out.trans (hB.mono HB.out.size))
  rw [HHG.out]
  have HZ := Lib.hid (show Slc W3 _ z (U : List Int).length (ints (U)) from by rw [HIX.out] at hs; exact hs)
  clear hs
  clear hB
  obtain ⟨aoz, capz, rfl, _⟩ := HZ.out.opened
  go_wp2_with fail
  refine (Calls.grow_same6 (rproduct_calls _ s 1048576 _ HS.out HL3.out)).mono ?_
  rintro e W4 ⟨rfl, hB⟩
  replace HS := Lib.hid (HS.out.below hB)
  replace HT := Lib.hid (HT.out.below hB)
  replace HZ := Lib.hid (HZ.out.below hB)
  replace HB := Lib.hid (HB.out.trans (hB.mono HB.out.size))
  rw [HP.out]
  clear hB
  go_wp2_with fail
  refine (sstrides_calls _ s _ HS.out HL.out).mono ?_
  rintro e W5 ⟨y, rfl, hs, hB⟩
  replace HS := Lib.hid (HS.out.below hB)
  replace HT := Lib.hid (HT.out.below hB)
  replace HZ := Lib.hid (HZ.out.below hB)
  replace HB := Lib.hid (HB.out.trans (hB.mono HB.out.size))
  have HY := Lib.hid (show Slc W5 _ y s.length (ints (strd s)) from by rw [HST.out, strd_len] at hs; exact hs)
  clear hs
  clear hB
  obtain ⟨aoy, capy, rfl, _⟩ := HY.out.opened
  go_wp2_with fail
  refine (Calls.grow_same6 (rgood_calls _ s _ HS.out HL3.out)).mono ?_
  rintro e W6 ⟨rfl, hB⟩
  replace HS := Lib.hid (HS.out.below hB)
  replace HT := Lib.hid (HT.out.below hB)
  replace HZ := Lib.hid (HZ.out.below hB)
  replace HY := Lib.hid (HY.out.below hB)
  replace HB := Lib.hid (HB.out.trans (hB.mono HB.out.size))
  rw [HGD.out]
  clear hB
  go_wp2_with fail
  refine (rplace_calls _ _ s U _ HS.out HZ.out (by have := HL.out; omega) HUL.out).mono ?_
  rintro e W7 ⟨rfl, hB⟩
  replace HS := Lib.hid (HS.out.below hB)
  replace HT := Lib.hid (HT.out.below hB)
  replace HZ := Lib.hid (HZ.out.below hB)
  replace HY := Lib.hid (HY.out.below hB)
  replace HB := Lib.hid (HB.out.trans (hB.mono HB.out.size))
  rw [HUP.out]
  clear hB
  go_wp2_with fail
  refine (awake6_calls _).mono ?_
  rintro e W8 ⟨rfl, hB⟩
  replace HS := Lib.hid (HS.out.below hB)
  replace HT := Lib.hid (HT.out.below hB)
  replace HZ := Lib.hid (HZ.out.below hB)
  replace HY := Lib.hid (HY.out.below hB)
  replace HB := Lib.hid (HB.out.trans (hB.mono HB.out.size))
  clear hB
  go_wp2
  go_ret
  exact ⟨rfl, HB.out⟩

set_option maxHeartbeats 4000000 in
theorem shMisses_nnogood (w : World) (v v2 : Value) (s t : List Int) (i P n f : Int) (HS : Hid (Slc w (fun _ => True) v s.length (ints s))) (HT : Hid (Slc w (fun _ => True) v2 t.length (ints t))) (hl : s.length ≤ 60) (hl2 : t.length ≤ 60) (HPP : Hid (placeR s t = P)) (HP : Hid (prodR s 1048576 = (n, f))) (hp : ¬ 0 ≤ P) (hf : f ≠ 0) :
    Calls Try.prog 5 #[v, v2, .int .i64 i] w fun e w' => e = .returned (.bool true) ∧ Below w.heap.size w w' := by
  have HB := Lib.hid (Below.refl w.heap.size w)
  have HL := Lib.hid (show s.length ≤ 1000 by omega)
  have HL2 := Lib.hid (show t.length ≤ 1000 by omega)
  have HL3 := Lib.hid (show s.length ≤ 9223372036854775807 by omega)
  have HF := Lib.hid hf


  have HQ := Lib.hid (show decide (0 ≤ P) = false from decide_eq_false hp)
  have HAT := Lib.hid (show atG s t = 0 by unfold atG; rw [HPP.out, if_neg hp])
  have HHG := Lib.hid (show hasG s i = false by unfold hasG goodS; rw [HP.out, show ((f : Int) == 0) = false by simpa using HF.out]; rfl)
  have HGD := Lib.hid (show goodS s = false by unfold goodS; rw [HP.out]; simpa using HF.out)
  have HIX := Lib.hid (show idxG s i = [] by unfold idxG; rw [HHG.out]; rfl)
  have HST := Lib.hid (show strG s = [] by unfold strG; rw [HGD.out]; rfl)
  have hne : s.length ≠ 0 := fun h0 => by have h1 : s = [] := List.eq_nil_of_length_eq_zero h0; have h2 := HGD.out; rw [h1] at h2; exact absurd h2 (by decide)
  have hne2 : ((0 : Int) == (s.length : Int)) = false := beq_eq_false_iff_ne.2 (by omega)
  have hne3 : ((s.length : Int) == 0) = false := beq_eq_false_iff_ne.2 (by omega)
  have hnil : s ≠ [] := fun h => hne (by rw [h]; rfl)
  have hfb : (f == 0) = false := by simpa using hf






  obtain ⟨ao, cap, rfl, _⟩ := HS.out.opened
  obtain ⟨ao2, cap2, rfl, _⟩ := HT.out.opened
  clear hf

  go_enter Try.func5, Try.ntmps5
  go_wp2_with fail
  refine (sat_calls _ _ s t _ HS.out HL.out HT.out HL2.out).mono ?_
  rintro e W1 ⟨rfl, hB⟩
  replace HS := Lib.hid (HS.out.below hB)
  replace HT := Lib.hid (HT.out.below hB)
  replace HB := Lib.hid (HB.out.trans (hB.mono HB.out.size))
  rw [HAT.out, HPP.out, HQ.out]
  clear hB
  go_wp2_with fail
  refine (rplace_calls _ _ s t _ HS.out HT.out (by have := HL.out; omega) (by have := HL2.out; omega)).mono ?_
  rintro e W2 ⟨rfl, hB⟩
  replace HS := Lib.hid (HS.out.below hB)
  replace HT := Lib.hid (HT.out.below hB)
  replace HB := Lib.hid (HB.out.trans (hB.mono HB.out.size))
  rw [HPP.out]
  clear hB
  go_wp2_with fail
  refine (sindex_calls _ s i _ HS.out HL.out).mono ?_
  rintro e W3 ⟨z, rfl, hs, hB⟩
  replace HS := Lib.hid (HS.out.below hB)
  replace HT := Lib.hid (HT.out.below hB)
  replace HB := Lib.hid (HB.out.trans (hB.mono HB.out.size))
  rw [HHG.out]
  have HZ := Lib.hid (show Slc W3 _ z ([] : List Int).length (ints ([])) from by rw [HIX.out] at hs; exact hs)
  clear hs
  clear hB
  obtain ⟨aoz, capz, rfl, _⟩ := HZ.out.opened
  go_wp2_with fail
  refine (Calls.grow_same6 (rproduct_calls _ s 1048576 _ HS.out HL3.out)).mono ?_
  rintro e W4 ⟨rfl, hB⟩
  replace HS := Lib.hid (HS.out.below hB)
  replace HT := Lib.hid (HT.out.below hB)
  replace HZ := Lib.hid (HZ.out.below hB)
  replace HB := Lib.hid (HB.out.trans (hB.mono HB.out.size))
  rw [HP.out]
  clear hB
  go_wp2_with fail
  refine (sstrides_calls _ s _ HS.out HL.out).mono ?_
  rintro e W5 ⟨y, rfl, hs, hB⟩
  replace HS := Lib.hid (HS.out.below hB)
  replace HT := Lib.hid (HT.out.below hB)
  replace HZ := Lib.hid (HZ.out.below hB)
  replace HB := Lib.hid (HB.out.trans (hB.mono HB.out.size))
  have HY := Lib.hid (show Slc W5 _ y 0 (ints ([])) from by rw [HST.out] at hs; exact hs)
  clear hs
  clear hB
  obtain ⟨aoy, capy, rfl, _⟩ := HY.out.opened
  go_wp2_with fail
  refine (Calls.grow_same6 (rgood_calls _ s _ HS.out HL3.out)).mono ?_
  rintro e W6 ⟨rfl, hB⟩
  replace HS := Lib.hid (HS.out.below hB)
  replace HT := Lib.hid (HT.out.below hB)
  replace HZ := Lib.hid (HZ.out.below hB)
  replace HY := Lib.hid (HY.out.below hB)
  replace HB := Lib.hid (HB.out.trans (hB.mono HB.out.size))
  rw [HGD.out]
  clear hB
  go_wp2_with fail
  refine (awake6_calls _).mono ?_
  rintro e W7 ⟨rfl, hB⟩
  replace HS := Lib.hid (HS.out.below hB)
  replace HT := Lib.hid (HT.out.below hB)
  replace HZ := Lib.hid (HZ.out.below hB)
  replace HY := Lib.hid (HY.out.below hB)
  replace HB := Lib.hid (HB.out.trans (hB.mono HB.out.size))
  clear hB
  go_wp2
  go_ret
  exact ⟨rfl, HB.out⟩

set_option maxHeartbeats 4000000 in
theorem shMisses_nneg (w : World) (v v2 : Value) (s t : List Int) (i P n f : Int) (HS : Hid (Slc w (fun _ => True) v s.length (ints s))) (HT : Hid (Slc w (fun _ => True) v2 t.length (ints t))) (hl : s.length ≤ 60) (hl2 : t.length ≤ 60) (HPP : Hid (placeR s t = P)) (HP : Hid (prodR s 1048576 = (n, f))) (hp : ¬ 0 ≤ P) (hf : f = 0) (ha : ¬ 0 ≤ i) :
    Calls Try.prog 5 #[v, v2, .int .i64 i] w fun e w' => e = .returned (.bool true) ∧ Below w.heap.size w w' := by
  have HB := Lib.hid (Below.refl w.heap.size w)
  have HL := Lib.hid (show s.length ≤ 1000 by omega)
  have HL2 := Lib.hid (show t.length ≤ 1000 by omega)
  have HL3 := Lib.hid (show s.length ≤ 9223372036854775807 by omega)
  have HF := Lib.hid hf
  have HA2 := Lib.hid ha

  have HQ := Lib.hid (show decide (0 ≤ P) = false from decide_eq_false hp)
  have HAT := Lib.hid (show atG s t = 0 by unfold atG; rw [HPP.out, if_neg hp])
  have HHG := Lib.hid (show hasG s i = false by unfold hasG; rw [decide_eq_false (fun h => HA2.out h.1)]; simp)
  have HGD := Lib.hid (show goodS s = true by unfold goodS; rw [HP.out]; rw [HF.out]; rfl)
  have HIX := Lib.hid (show idxG s i = [] by unfold idxG; rw [HHG.out]; rfl)
  have HST := Lib.hid (show strG s = strd s by unfold strG; rw [HGD.out]; rfl)




  have hfb : (f == 0) = true := by rw [hf]; rfl






  obtain ⟨ao, cap, rfl, _⟩ := HS.out.opened
  obtain ⟨ao2, cap2, rfl, _⟩ := HT.out.opened
  clear hf

  go_enter Try.func5, Try.ntmps5
  go_wp2_with fail
  refine (sat_calls _ _ s t _ HS.out HL.out HT.out HL2.out).mono ?_
  rintro e W1 ⟨rfl, hB⟩
  replace HS := Lib.hid (HS.out.below hB)
  replace HT := Lib.hid (HT.out.below hB)
  replace HB := Lib.hid (HB.out.trans (hB.mono HB.out.size))
  rw [HAT.out, HPP.out, HQ.out]
  clear hB
  go_wp2_with fail
  refine (rplace_calls _ _ s t _ HS.out HT.out (by have := HL.out; omega) (by have := HL2.out; omega)).mono ?_
  rintro e W2 ⟨rfl, hB⟩
  replace HS := Lib.hid (HS.out.below hB)
  replace HT := Lib.hid (HT.out.below hB)
  replace HB := Lib.hid (HB.out.trans (hB.mono HB.out.size))
  rw [HPP.out]
  clear hB
  go_wp2_with fail
  refine (sindex_calls _ s i _ HS.out HL.out).mono ?_
  rintro e W3 ⟨z, rfl, hs, hB⟩
  replace HS := Lib.hid (HS.out.below hB)
  replace HT := Lib.hid (HT.out.below hB)
  replace HB := Lib.hid (HB.out.trans (hB.mono HB.out.size))
  rw [HHG.out]
  have HZ := Lib.hid (show Slc W3 _ z ([] : List Int).length (ints ([])) from by rw [HIX.out] at hs; exact hs)
  clear hs
  clear hB
  obtain ⟨aoz, capz, rfl, _⟩ := HZ.out.opened
  go_wp2_with fail
  refine (Calls.grow_same6 (rproduct_calls _ s 1048576 _ HS.out HL3.out)).mono ?_
  rintro e W4 ⟨rfl, hB⟩
  replace HS := Lib.hid (HS.out.below hB)
  replace HT := Lib.hid (HT.out.below hB)
  replace HZ := Lib.hid (HZ.out.below hB)
  replace HB := Lib.hid (HB.out.trans (hB.mono HB.out.size))
  rw [HP.out]
  clear hB
  go_wp2_with fail
  refine (sstrides_calls _ s _ HS.out HL.out).mono ?_
  rintro e W5 ⟨y, rfl, hs, hB⟩
  replace HS := Lib.hid (HS.out.below hB)
  replace HT := Lib.hid (HT.out.below hB)
  replace HZ := Lib.hid (HZ.out.below hB)
  replace HB := Lib.hid (HB.out.trans (hB.mono HB.out.size))
  have HY := Lib.hid (show Slc W5 _ y s.length (ints (strd s)) from by rw [HST.out, strd_len] at hs; exact hs)
  clear hs
  clear hB
  obtain ⟨aoy, capy, rfl, _⟩ := HY.out.opened
  go_wp2_with fail
  refine (Calls.grow_same6 (rgood_calls _ s _ HS.out HL3.out)).mono ?_
  rintro e W6 ⟨rfl, hB⟩
  replace HS := Lib.hid (HS.out.below hB)
  replace HT := Lib.hid (HT.out.below hB)
  replace HZ := Lib.hid (HZ.out.below hB)
  replace HY := Lib.hid (HY.out.below hB)
  replace HB := Lib.hid (HB.out.trans (hB.mono HB.out.size))
  rw [HGD.out]
  clear hB
  go_wp2_with fail
  refine (awake6_calls _).mono ?_
  rintro e W7 ⟨rfl, hB⟩
  replace HS := Lib.hid (HS.out.below hB)
  replace HT := Lib.hid (HT.out.below hB)
  replace HZ := Lib.hid (HZ.out.below hB)
  replace HY := Lib.hid (HY.out.below hB)
  replace HB := Lib.hid (HB.out.trans (hB.mono HB.out.size))
  clear hB
  go_wp2
  go_ret
  exact ⟨rfl, HB.out⟩

set_option maxHeartbeats 4000000 in
theorem shMisses_nbig (w : World) (v v2 : Value) (s t : List Int) (i P n f : Int) (HS : Hid (Slc w (fun _ => True) v s.length (ints s))) (HT : Hid (Slc w (fun _ => True) v2 t.length (ints t))) (hl : s.length ≤ 60) (hl2 : t.length ≤ 60) (HPP : Hid (placeR s t = P)) (HP : Hid (prodR s 1048576 = (n, f))) (hp : ¬ 0 ≤ P) (hf : f = 0) (ha : 0 ≤ i) (hb : ¬ i < n) :
    Calls Try.prog 5 #[v, v2, .int .i64 i] w fun e w' => e = .returned (.bool true) ∧ Below w.heap.size w w' := by
  have HB := Lib.hid (Below.refl w.heap.size w)
  have HL := Lib.hid (show s.length ≤ 1000 by omega)
  have HL2 := Lib.hid (show t.length ≤ 1000 by omega)
  have HL3 := Lib.hid (show s.length ≤ 9223372036854775807 by omega)
  have HF := Lib.hid hf
  have HA2 := Lib.hid ha
  have HB2 := Lib.hid hb
  have HQ := Lib.hid (show decide (0 ≤ P) = false from decide_eq_false hp)
  have HAT := Lib.hid (show atG s t = 0 by unfold atG; rw [HPP.out, if_neg hp])
  have HHG := Lib.hid (show hasG s i = false by unfold hasG; rw [HP.out, decide_eq_false (fun h => HB2.out h.2)]; simp)
  have HGD := Lib.hid (show goodS s = true by unfold goodS; rw [HP.out]; rw [HF.out]; rfl)
  have HIX := Lib.hid (show idxG s i = [] by unfold idxG; rw [HHG.out]; rfl)
  have HST := Lib.hid (show strG s = strd s by unfold strG; rw [HGD.out]; rfl)




  have hfb : (f == 0) = true := by rw [hf]; rfl






  obtain ⟨ao, cap, rfl, _⟩ := HS.out.opened
  obtain ⟨ao2, cap2, rfl, _⟩ := HT.out.opened
  clear hf

  go_enter Try.func5, Try.ntmps5
  go_wp2_with fail
  refine (sat_calls _ _ s t _ HS.out HL.out HT.out HL2.out).mono ?_
  rintro e W1 ⟨rfl, hB⟩
  replace HS := Lib.hid (HS.out.below hB)
  replace HT := Lib.hid (HT.out.below hB)
  replace HB := Lib.hid (HB.out.trans (hB.mono HB.out.size))
  rw [HAT.out, HPP.out, HQ.out]
  clear hB
  go_wp2_with fail
  refine (rplace_calls _ _ s t _ HS.out HT.out (by have := HL.out; omega) (by have := HL2.out; omega)).mono ?_
  rintro e W2 ⟨rfl, hB⟩
  replace HS := Lib.hid (HS.out.below hB)
  replace HT := Lib.hid (HT.out.below hB)
  replace HB := Lib.hid (HB.out.trans (hB.mono HB.out.size))
  rw [HPP.out]
  clear hB
  go_wp2_with fail
  refine (sindex_calls _ s i _ HS.out HL.out).mono ?_
  rintro e W3 ⟨z, rfl, hs, hB⟩
  replace HS := Lib.hid (HS.out.below hB)
  replace HT := Lib.hid (HT.out.below hB)
  replace HB := Lib.hid (HB.out.trans (hB.mono HB.out.size))
  rw [HHG.out]
  have HZ := Lib.hid (show Slc W3 _ z ([] : List Int).length (ints ([])) from by rw [HIX.out] at hs; exact hs)
  clear hs
  clear hB
  obtain ⟨aoz, capz, rfl, _⟩ := HZ.out.opened
  go_wp2_with fail
  refine (Calls.grow_same6 (rproduct_calls _ s 1048576 _ HS.out HL3.out)).mono ?_
  rintro e W4 ⟨rfl, hB⟩
  replace HS := Lib.hid (HS.out.below hB)
  replace HT := Lib.hid (HT.out.below hB)
  replace HZ := Lib.hid (HZ.out.below hB)
  replace HB := Lib.hid (HB.out.trans (hB.mono HB.out.size))
  rw [HP.out]
  clear hB
  go_wp2_with fail
  refine (sstrides_calls _ s _ HS.out HL.out).mono ?_
  rintro e W5 ⟨y, rfl, hs, hB⟩
  replace HS := Lib.hid (HS.out.below hB)
  replace HT := Lib.hid (HT.out.below hB)
  replace HZ := Lib.hid (HZ.out.below hB)
  replace HB := Lib.hid (HB.out.trans (hB.mono HB.out.size))
  have HY := Lib.hid (show Slc W5 _ y s.length (ints (strd s)) from by rw [HST.out, strd_len] at hs; exact hs)
  clear hs
  clear hB
  obtain ⟨aoy, capy, rfl, _⟩ := HY.out.opened
  go_wp2_with fail
  refine (Calls.grow_same6 (rgood_calls _ s _ HS.out HL3.out)).mono ?_
  rintro e W6 ⟨rfl, hB⟩
  replace HS := Lib.hid (HS.out.below hB)
  replace HT := Lib.hid (HT.out.below hB)
  replace HZ := Lib.hid (HZ.out.below hB)
  replace HY := Lib.hid (HY.out.below hB)
  replace HB := Lib.hid (HB.out.trans (hB.mono HB.out.size))
  rw [HGD.out]
  clear hB
  go_wp2_with fail
  refine (awake6_calls _).mono ?_
  rintro e W7 ⟨rfl, hB⟩
  replace HS := Lib.hid (HS.out.below hB)
  replace HT := Lib.hid (HT.out.below hB)
  replace HZ := Lib.hid (HZ.out.below hB)
  replace HY := Lib.hid (HY.out.below hB)
  replace HB := Lib.hid (HB.out.trans (hB.mono HB.out.size))
  clear hB
  go_wp2
  go_ret
  exact ⟨rfl, HB.out⟩

set_option maxHeartbeats 4000000 in
theorem shMisses_nhas (w : World) (v v2 : Value) (s t : List Int) (i P n f : Int) (HS : Hid (Slc w (fun _ => True) v s.length (ints s))) (HT : Hid (Slc w (fun _ => True) v2 t.length (ints t))) (hl : s.length ≤ 60) (hl2 : t.length ≤ 60) (HPP : Hid (placeR s t = P)) (HP : Hid (prodR s 1048576 = (n, f))) (hp : ¬ 0 ≤ P) (hf : f = 0) (ha : 0 ≤ i) (hb : i < n) :
    Calls Try.prog 5 #[v, v2, .int .i64 i] w fun e w' => e = .returned (.bool true) ∧ Below w.heap.size w w' := by
  have HB := Lib.hid (Below.refl w.heap.size w)
  have HL := Lib.hid (show s.length ≤ 1000 by omega)
  have HL2 := Lib.hid (show t.length ≤ 1000 by omega)
  have HL3 := Lib.hid (show s.length ≤ 9223372036854775807 by omega)
  have HF := Lib.hid hf
  have HA2 := Lib.hid ha
  have HB2 := Lib.hid hb
  have HQ := Lib.hid (show decide (0 ≤ P) = false from decide_eq_false hp)
  have HAT := Lib.hid (show atG s t = 0 by unfold atG; rw [HPP.out, if_neg hp])
  have HHG := Lib.hid (show hasG s i = true by unfold hasG goodS; rw [HP.out, HF.out, decide_eq_true (show 0 ≤ i ∧ i < n from ⟨HA2.out, HB2.out⟩)]; rfl)
  have HGD := Lib.hid (show goodS s = true by unfold goodS; rw [HP.out]; rw [HF.out]; rfl)
  have HIX := Lib.hid (show idxG s i = unp s i by unfold idxG; rw [HHG.out]; rfl)
  have HST := Lib.hid (show strG s = strd s by unfold strG; rw [HGD.out]; rfl)




  have hfb : (f == 0) = true := by rw [hf]; rfl
  obtain ⟨U, hU⟩ : ∃ U, unp s i = U := ⟨_, rfl⟩
  have HU := Lib.hid hU
  have HUL := Lib.hid (show U.length ≤ 1000000 by rw [← hU, unp_len]; omega)
  have HUP := Lib.hid (show placeR s U = i by rw [← hU]; exact place_unp HP.out HF.out HA2.out HB2.out)
  rw [hU] at HIX
  clear hU
  obtain ⟨ao, cap, rfl, _⟩ := HS.out.opened
  obtain ⟨ao2, cap2, rfl, _⟩ := HT.out.opened
  clear hf

  go_enter Try.func5, Try.ntmps5
  go_wp2_with fail
  refine (sat_calls _ _ s t _ HS.out HL.out HT.out HL2.out).mono ?_
  rintro e W1 ⟨rfl, hB⟩
  replace HS := Lib.hid (HS.out.below hB)
  replace HT := Lib.hid (HT.out.below hB)
  replace HB := Lib.hid (HB.out.trans (hB.mono HB.out.size))
  rw [HAT.out, HPP.out, HQ.out]
  clear hB
  go_wp2_with fail
  refine (rplace_calls _ _ s t _ HS.out HT.out (by have := HL.out; omega) (by have := HL2.out; omega)).mono ?_
  rintro e W2 ⟨rfl, hB⟩
  replace HS := Lib.hid (HS.out.below hB)
  replace HT := Lib.hid (HT.out.below hB)
  replace HB := Lib.hid (HB.out.trans (hB.mono HB.out.size))
  rw [HPP.out]
  clear hB
  go_wp2_with fail
  refine (sindex_calls _ s i _ HS.out HL.out).mono ?_
  rintro e W3 ⟨z, rfl, hs, hB⟩
  replace HS := Lib.hid (HS.out.below hB)
  replace HT := Lib.hid (HT.out.below hB)
  replace HB := Lib.hid (HB.out.trans (hB.mono HB.out.size))
  rw [HHG.out]
  have HZ := Lib.hid (show Slc W3 _ z (U : List Int).length (ints (U)) from by rw [HIX.out] at hs; exact hs)
  clear hs
  clear hB
  obtain ⟨aoz, capz, rfl, _⟩ := HZ.out.opened
  go_wp2_with fail
  refine (Calls.grow_same6 (rproduct_calls _ s 1048576 _ HS.out HL3.out)).mono ?_
  rintro e W4 ⟨rfl, hB⟩
  replace HS := Lib.hid (HS.out.below hB)
  replace HT := Lib.hid (HT.out.below hB)
  replace HZ := Lib.hid (HZ.out.below hB)
  replace HB := Lib.hid (HB.out.trans (hB.mono HB.out.size))
  rw [HP.out]
  clear hB
  go_wp2_with fail
  refine (sstrides_calls _ s _ HS.out HL.out).mono ?_
  rintro e W5 ⟨y, rfl, hs, hB⟩
  replace HS := Lib.hid (HS.out.below hB)
  replace HT := Lib.hid (HT.out.below hB)
  replace HZ := Lib.hid (HZ.out.below hB)
  replace HB := Lib.hid (HB.out.trans (hB.mono HB.out.size))
  have HY := Lib.hid (show Slc W5 _ y s.length (ints (strd s)) from by rw [HST.out, strd_len] at hs; exact hs)
  clear hs
  clear hB
  obtain ⟨aoy, capy, rfl, _⟩ := HY.out.opened
  go_wp2_with fail
  refine (Calls.grow_same6 (rgood_calls _ s _ HS.out HL3.out)).mono ?_
  rintro e W6 ⟨rfl, hB⟩
  replace HS := Lib.hid (HS.out.below hB)
  replace HT := Lib.hid (HT.out.below hB)
  replace HZ := Lib.hid (HZ.out.below hB)
  replace HY := Lib.hid (HY.out.below hB)
  replace HB := Lib.hid (HB.out.trans (hB.mono HB.out.size))
  rw [HGD.out]
  clear hB
  go_wp2_with fail
  refine (rplace_calls _ _ s U _ HS.out HZ.out (by have := HL.out; omega) HUL.out).mono ?_
  rintro e W7 ⟨rfl, hB⟩
  replace HS := Lib.hid (HS.out.below hB)
  replace HT := Lib.hid (HT.out.below hB)
  replace HZ := Lib.hid (HZ.out.below hB)
  replace HY := Lib.hid (HY.out.below hB)
  replace HB := Lib.hid (HB.out.trans (hB.mono HB.out.size))
  rw [HUP.out]
  clear hB
  go_wp2_with fail
  refine (awake6_calls _).mono ?_
  rintro e W8 ⟨rfl, hB⟩
  replace HS := Lib.hid (HS.out.below hB)
  replace HT := Lib.hid (HT.out.below hB)
  replace HZ := Lib.hid (HZ.out.below hB)
  replace HY := Lib.hid (HY.out.below hB)
  replace HB := Lib.hid (HB.out.trans (hB.mono HB.out.size))
  clear hB
  go_wp2
  go_ret
  exact ⟨rfl, HB.out⟩

theorem shapeMisses_calls (w : World) (v : Value) (s : List Int) (hr1 : RowC w v (s.map (Value.int .i64))) (hz1 : ∀ z ∈ s, (Lit.int .i64 z).wf = true) (hl1 : s.length ≤ maxLen) (v2 : Value) (t : List Int) (hr2 : RowC w v2 (t.map (Value.int .i64))) (hz2 : ∀ z ∈ t, (Lit.int .i64 z).wf = true) (hl2 : t.length ≤ maxLen) (i : Int) (hi : (Lit.int .i64 i).wf = true) :
    Calls Try.prog 5 #[v, v2, .int .i64 i] w fun e w' => e = .returned (.bool true) ∧ Below w.heap.size w w' := by
  have HS := Lib.hid (show Slc w (fun _ => True) v s.length (ints s) by have := hr1.slc; rw [List.length_map] at this; exact this)
  have HT := Lib.hid (show Slc w (fun _ => True) v2 t.length (ints t) by have := hr2.slc; rw [List.length_map] at this; exact this)
  unfold maxLen at hl1 hl2
  clear hr1 hz1 hr2 hz2 hi
  by_cases hb1 : 60 < s.length
  · obtain ⟨ao, cap, rfl, _⟩ := HS.out.opened
    obtain ⟨ao2, cap2, rfl, _⟩ := HT.out.opened
    go_enter Try.func5, Try.ntmps5
    go_wp2_with fail
    refine (awake6_calls w).mono ?_
    rintro e w1 ⟨rfl, hB⟩
    have HB := Lib.hid hB
    clear hB
    go_wp2
    go_ret
    exact ⟨rfl, HB.out⟩
  by_cases hb2 : 60 < t.length
  · obtain ⟨ao, cap, rfl, _⟩ := HS.out.opened
    obtain ⟨ao2, cap2, rfl, _⟩ := HT.out.opened
    go_enter Try.func5, Try.ntmps5
    go_wp2_with fail
    refine (awake6_calls w).mono ?_
    rintro e w1 ⟨rfl, hB⟩
    have HB := Lib.hid hB
    clear hB
    go_wp2
    go_ret
    exact ⟨rfl, HB.out⟩
  obtain ⟨n, f, hp⟩ : ∃ n f, prodR s 1048576 = (n, f) := ⟨_, _, rfl⟩
  have HP := Lib.hid hp
  obtain ⟨P, hq⟩ : ∃ P, placeR s t = P := ⟨_, rfl⟩
  have HQ := Lib.hid hq
  clear hp hq
  have h1 : s.length ≤ 60 := by omega
  have h2 : t.length ≤ 60 := by omega
  by_cases hP : 0 ≤ P <;> by_cases hf : f = 0
  · by_cases ha : 0 ≤ i
    · by_cases hb : i < n
      · exact shMisses_phas w v v2 s t i P n f HS HT h1 h2 HQ HP hP hf ha hb
      · exact shMisses_pbig w v v2 s t i P n f HS HT h1 h2 HQ HP hP hf ha hb
    · exact shMisses_pneg w v v2 s t i P n f HS HT h1 h2 HQ HP hP hf ha
  · exact shMisses_pnogood w v v2 s t i P n f HS HT h1 h2 HQ HP hP hf
  · by_cases ha : 0 ≤ i
    · by_cases hb : i < n
      · exact shMisses_nhas w v v2 s t i P n f HS HT h1 h2 HQ HP hP hf ha hb
      · exact shMisses_nbig w v v2 s t i P n f HS HT h1 h2 HQ HP hP hf ha hb
    · exact shMisses_nneg w v v2 s t i P n f HS HT h1 h2 HQ HP hP hf ha
  · exact shMisses_nnogood w v v2 s t i P n f HS HT h1 h2 HQ HP hP hf
end Go.Proofs.Ytnebondinjjodaa

/- BitvecCounts, walked. -/
import Derived.Test.YtkigkcncbobhaaaDoorBvR
namespace Go.Proofs.YtkigkcncbobhaaaDoor
open Go.RowKit
set_option linter.unusedVariables false

/-- A slice of n elements with what stands behind it. -/
theorem RowC.opened {w : World} {v : Value} {xs : List Value} (h : RowC w v xs) : ∃ ao cap, v = .slice ao xs.length cap ∧ xs.length ≤ cap ∧ cap ≤ maxLen ∧ ∀ i (h : i < xs.length), ∃ b off, ao = some ⟨b, off, none⟩ ∧ w.cell? ⟨b, off + i, none⟩ = some xs[i] := by
  obtain ⟨h1, ao, cap, rfl, h2, h3⟩ := h
  obtain ⟨_, ao', cap', e, hc⟩ := h1.sl
  simp only [Value.slice.injEq, true_and] at e
  obtain ⟨rfl, rfl⟩ := e
  exact ⟨_, _, rfl, h2, h3, hc⟩
theorem onesTo_take (l : List Bool) (m : Nat) (h : m ≤ l.length) : onesTo (sq (l.take m)) m = onesTo (sq l) m := by
  unfold onesTo
  congr 1
  apply List.filter_congr
  intro k hk
  have := List.mem_range.1 hk
  simp [sq, this]
theorem first_none {l : List Bool} (h : cnt (sq l) l.length = 0) : firstOf l = l.length := by
  have h1 : onesTo (sq l) l.length = [] := List.eq_nil_of_length_eq_zero (by rw [onesTo_cnt, h])
  have h2 : (List.range l.length).filter (sq l) = [] := List.map_eq_nil_iff.1 h1
  rw [firstOf, h2]; rfl
theorem first_some {l : List Bool} (h : 0 < (onesTo (sq l) l.length).length) : (onesTo (sq l) l.length)[0] = (firstOf l : Int) := by
  have e : (onesTo (sq l) l.length)[0]? = some (firstOf l : Int) := by
    unfold firstOf onesTo at *
    cases hf : (List.range l.length).filter (sq l) with
    | nil => rw [hf] at h; simp at h
    | cons a t => simp
  rw [List.getElem?_eq_getElem h] at e
  exact Option.some.inj e

theorem into_min (a : Int) (n m : Nat) (hm : min (max a 0) n = (m : Int)) : into a 0 n = m := by
  unfold into; split
  · omega
  · split <;> omega

set_option maxHeartbeats 2000000 in
theorem counts_calls (v : Value) (l : List Bool) (a : Int) (w : World) (hv : RowC w v (bools l)) (hl : l.length ≤ maxLen) (hT : TabAt w) :
    Calls Tryd.prog 5 #[v, .int .i64 a] w fun e w' => e = .returned (.bool true) ∧ Below w.heap.size w w' := by
  unfold maxLen at hl
  have HT := Lib.hid hT
  have HS := Lib.hid (hv.1.sl)
  obtain ⟨ao, cap, rfl, hcap, hcm, hcells⟩ := hv.opened
  rw [bools_len] at HS hcap ⊢
  clear hv hT
  by_cases hbig : 2000 < l.length
  · clear hcells
    go_enter Tryd.func5, Tryd.ntmps5
    go_wp2_with fail
    refine (awake_calls w HT.out).mono ?_
    rintro e w1 ⟨rfl, hB⟩
    have HB := Lib.hid hB
    clear hB
    go_wp2
    go_ret
    exact ⟨rfl, HB.out⟩
  · have hl2 : l.length ≤ 1048576 := by omega
    obtain ⟨m, hm⟩ : ∃ m : Nat, min (max a 0) (l.length : Int) = (m : Int) := ⟨(min (max a 0) (l.length : Int)).toNat, by omega⟩
    have hml : m ≤ l.length := by omega
    have HM := Lib.hid hm
    have hinto : Hid (into a 0 l.length = (m : Int)) := Lib.hid (into_min a l.length m hm)
    have HTK : Hid (∀ wx, (∀ a v, w.cell? a = some v → wx.cell? a = some v) → Sl wx (.slice ao m cap) (l.take m).length (bools (l.take m))) := Lib.hid (fun wx hk => by
      have e : (l.take m).length = m := by simp; omega
      rw [e]
      refine ⟨by rw [bools_len, e], ao, cap, rfl, fun i hi => ?_⟩
      rw [bools_len, e] at hi
      obtain ⟨b, off, ea, hc⟩ := hcells i (by rw [bools_len]; omega)
      refine ⟨b, off, ea, ?_⟩
      rw [hk _ _ hc, bools_get, bools_get]
      simp)
    obtain ⟨c, hc⟩ : ∃ c, cnt (sq l) l.length = c := ⟨_, rfl⟩
    have HC := Lib.hid hc
    have hcl := cnt_le (sq l) l.length
    rw [hc] at hcl
    obtain ⟨cm, hcm'⟩ : ∃ c, cnt (sq l) m = c := ⟨_, rfl⟩
    have HCM := Lib.hid hcm'
    obtain ⟨os, hos⟩ : ∃ os, onesTo (sq l) l.length = os := ⟨_, rfl⟩
    have HOS := Lib.hid hos
    have hoslen : os.length = c := by rw [← hos, onesTo_cnt, hc]
    have HOL := Lib.hid hoslen
    have HCT : Hid ((onesTo (sq (l.take m)) (l.take m).length).length = cm) := Lib.hid (by
      rw [show (l.take m).length = m by simp; omega, onesTo_take l m hml, onesTo_cnt, hcm'])
    obtain ⟨f, hf⟩ : ∃ f, firstOf l = f := ⟨_, rfl⟩
    have HF := Lib.hid hf
    have hf0 : Hid (c = 0 → f = l.length) := Lib.hid (fun h => by rw [← hf]; exact first_none (by rw [hc, h]))
    have hf1 : Hid (∀ h : 0 < os.length, os[0] = (f : Int)) := Lib.hid (fun h => by
      subst hos; rw [← hf]; exact first_some h)
    have b1 : ((c : Int) == (c : Int)) = true := by simp
    have b2 : ((cm : Int) == (cm : Int)) = true := by simp
    have b3 : ((f : Int) == (f : Int)) = true := by simp
    have b4 : Hid ((os == os) = true) := Lib.hid (by simp)
    clear hm hc hcm' hos hoslen hf hcells
    go_enter Tryd.func5, Tryd.ntmps5
    go_wp2_with fail
    refine (pack_calls _ l w HS.out hl2).mono ?_
    rintro e w1 ⟨v1, rfl, hb, hB⟩
    have HB1 := Lib.hid hB
    have HV1 := Lib.hid hb
    have HS1 := Lib.hid (HS.out.keep (keep_below hB))
    clear hb hB
    go_wp2_with fail
    refine (rones_calls _ l _ HS1.out hl2).mono ?_
    rintro e w2 ⟨v2, rfl, hs, hB⟩
    have hs' : Sl w2 v2 c (ints os) := by rw [HOS.out, HOL.out] at hs; exact hs
    have HB2 := Lib.hid (bthen' HB1.out hB)
    have hv2 := HV1.out.keep (keep_below hB)
    obtain ⟨bo, bcap, rfl, _⟩ := hv2.opened
    obtain ⟨oo, ocap, hol, rfl, hocell⟩ : ∃ oo ocap, (ints os).length = c ∧ v2 = .slice oo c ocap ∧ ∀ i (h : i < (ints os).length), ∃ b off, oo = some ⟨b, off, none⟩ ∧ w2.cell? ⟨b, off + i, none⟩ = some (ints os)[i] := by
      obtain ⟨h1, oo, ocap, h2, h3⟩ := hs'; exact ⟨oo, ocap, h1, h2, h3⟩
    obtain ⟨L, hL⟩ : ∃ L, (l.length + 63) / 64 = L := ⟨_, rfl⟩
    rw [hL] at hv2 ⊢
    obtain ⟨W0, hW0⟩ : ∃ W0, W0 = w2.alloc (.cells #[.int .i64 l.length, .slice bo L bcap] 26) := ⟨_, rfl⟩
    have HP : Hid (At2 W0 w2.heap.size (.int .i64 l.length) (.slice bo L bcap)) := Lib.hid (by rw [hW0]; exact At2.new _ _ _ _)
    have HV : Hid (IsBits W0 (.agg #[.int .i64 l.length, .slice bo L bcap]) l) := Lib.hid (by rw [hW0]; exact hv2.keep (keep_alloc _ _))
    have HO : Hid (Sl W0 (.slice oo c ocap) os.length (ints os)) := Lib.hid (by rw [hW0, HOL.out]; exact hs'.keep (keep_alloc _ _))
    have HB0 : Hid (Below w.heap.size w W0) := Lib.hid (by rw [hW0]; exact HB2.out.alloc HB2.out.size _)
    have HCO : Hid (0 < c → ∃ b off, oo = some ⟨b, off, none⟩ ∧ (w2.alloc (.cells #[.int .i64 l.length, .slice bo L bcap] 26)).cell? ⟨b, off, none⟩ = some (.int .i64 (f : Int))) := Lib.hid (fun h => by
      have h0 : 0 < (ints os).length := by omega
      obtain ⟨b, off, e, hc⟩ := hocell 0 h0
      rw [Nat.add_zero] at hc
      refine ⟨b, off, e, ?_⟩
      rw [keep_alloc _ _ _ _ hc, ints_get, hf1.out])
    have HT0 : Hid (TabAt W0) := Lib.hid (fun j hj => keep_below HB0.out _ _ (HT.out j hj))
    clear hs hs' hB hv2 hocell hL HV1 HS1 hol
    rcases Nat.eq_zero_or_pos c with hc0 | hc0
    · have hf' := hf0.out hc0
      subst hc0
      subst hf'
      go_wp2_with fail
      rw [← hW0]
      clear hW0
      refine (into_calls _ _ _ _).mono ?_
      rintro e w3 ⟨rfl, rfl⟩
      rw [hinto.out]
      go_wp2_with fail
      refine (rones_calls _ (l.take m) _ (HTK.out _ (keep_below HB0.out)) (by simp; omega)).mono ?_
      rintro e w4 ⟨v4, rfl, hs, hB⟩
      rw [HCT.out] at hs
      obtain ⟨_, o4, cap4, rfl, _⟩ := hs
      have HP4 := Lib.hid (HP.out.below hB)
      have HV4 := Lib.hid (HV.out.keep (keep_below hB))
      have HO4 := Lib.hid (HO.out.keep (keep_below hB))
      have HT4 : Hid (TabAt w4) := Lib.hid (fun j hj => keep_below hB _ _ (HT0.out j hj))
      have HB4 := Lib.hid (bthen' HB0.out hB)
      obtain ⟨pl, p0, p1, pf⟩ := HP4.out
      clear hB pf
      go_wp2_with fail
      refine (count_calls _ l _ HV4.out hl2).mono ?_
      rintro e w5 ⟨rfl, hB⟩
      rw [HC.out]
      have HP5 := Lib.hid (HP4.out.below hB)
      have HV5 := Lib.hid (HV4.out.keep (keep_below hB))
      have HO5 := Lib.hid (HO4.out.keep (keep_below hB))
      have HT5 : Hid (TabAt w5) := Lib.hid (fun j hj => keep_below hB _ _ (HT4.out j hj))
      have HB5 := Lib.hid (bthen' HB4.out hB)
      clear pl p0 p1 hB
      obtain ⟨pl, p0, p1, pf⟩ := HP5.out
      clear pf
      go_wp2_with fail
      refine (rank_calls _ l a m HM.out _ HV5.out hl2).mono ?_
      rintro e w6 ⟨rfl, hB⟩
      rw [HCM.out]
      have HP6 := Lib.hid (HP5.out.below hB)
      have HV6 := Lib.hid (HV5.out.keep (keep_below hB))
      have HO6 := Lib.hid (HO5.out.keep (keep_below hB))
      have HT6 : Hid (TabAt w6) := Lib.hid (fun j hj => keep_below hB _ _ (HT5.out j hj))
      have HB6 := Lib.hid (bthen' HB5.out hB)
      clear pl p0 p1 hB
      obtain ⟨pl, p0, p1, pf⟩ := HP6.out
      clear pf
      go_wp2_with fail
      refine (rank_calls _ l _ l.length (by omega) _ HV6.out hl2).mono ?_
      rintro e w7 ⟨rfl, hB⟩
      rw [HC.out]
      have HP7 := Lib.hid (HP6.out.below hB)
      have HV7 := Lib.hid (HV6.out.keep (keep_below hB))
      have HO7 := Lib.hid (HO6.out.keep (keep_below hB))
      have HT7 : Hid (TabAt w7) := Lib.hid (fun j hj => keep_below hB _ _ (HT6.out j hj))
      have HB7 := Lib.hid (bthen' HB6.out hB)
      clear pl p0 p1 hB
      obtain ⟨pl, p0, p1, pf⟩ := HP7.out
      clear pf
      go_wp2_with fail
      refine (first_calls _ l _ HV7.out hl2 HT7.out).mono ?_
      rintro e w8 ⟨rfl, hB⟩
      rw [HF.out]
      have HP8 := Lib.hid (HP7.out.below hB)
      have HV8 := Lib.hid (HV7.out.keep (keep_below hB))
      have HO8 := Lib.hid (HO7.out.keep (keep_below hB))
      have HT8 : Hid (TabAt w8) := Lib.hid (fun j hj => keep_below hB _ _ (HT7.out j hj))
      have HB8 := Lib.hid (bthen' HB7.out hB)
      clear pl p0 p1 hB
      obtain ⟨pl, p0, p1, pf⟩ := HP8.out
      clear pf
      go_wp2_with fail
      refine (ones_calls _ l _ HV8.out hl2 HT8.out).mono ?_
      rintro e w9 ⟨v9, rfl, hs9, hB⟩
      rw [HOS.out] at hs9
      have HO9 := Lib.hid (HO8.out.keep (keep_below hB))
      have HR9 := Lib.hid hs9
      have HT9 : Hid (TabAt w9) := Lib.hid (fun j hj => keep_below hB _ _ (HT8.out j hj))
      have HB9 := Lib.hid (bthen' HB8.out hB)
      clear hB hs9
      go_wp2_with fail
      refine (ints_calls _ _ os os _ HR9.out HO9.out (by rw [HOL.out]; unfold maxLen; omega)).mono ?_
      rintro e w10 ⟨rfl, hB⟩
      rw [b4.out]
      have HT10 : Hid (TabAt w10) := Lib.hid (fun j hj => keep_below hB _ _ (HT9.out j hj))
      have HB10 := Lib.hid (bthen' HB9.out hB)
      clear hB
      go_wp2_with fail
      refine (awake_calls _ HT10.out).mono ?_
      rintro e w11 ⟨rfl, hB⟩
      have HB11 := Lib.hid (bthen' HB10.out hB)
      clear hB
      go_wp2
      go_ret
      exact ⟨rfl, HB11.out⟩
    · obtain ⟨b, off, rfl, hcell⟩ := HCO.out hc0
      go_wp2_with fail
      rw [← hW0]
      clear hW0
      refine (into_calls _ _ _ _).mono ?_
      rintro e w3 ⟨rfl, rfl⟩
      rw [hinto.out]
      go_wp2_with fail
      refine (rones_calls _ (l.take m) _ (HTK.out _ (keep_below HB0.out)) (by simp; omega)).mono ?_
      rintro e w4 ⟨v4, rfl, hs, hB⟩
      rw [HCT.out] at hs
      obtain ⟨_, o4, cap4, rfl, _⟩ := hs
      have HP4 := Lib.hid (HP.out.below hB)
      have HV4 := Lib.hid (HV.out.keep (keep_below hB))
      have HO4 := Lib.hid (HO.out.keep (keep_below hB))
      have HT4 : Hid (TabAt w4) := Lib.hid (fun j hj => keep_below hB _ _ (HT0.out j hj))
      have HB4 := Lib.hid (bthen' HB0.out hB)
      obtain ⟨pl, p0, p1, pf⟩ := HP4.out
      clear hB pf
      go_wp2_with fail
      refine (count_calls _ l _ HV4.out hl2).mono ?_
      rintro e w5 ⟨rfl, hB⟩
      rw [HC.out]
      have HP5 := Lib.hid (HP4.out.below hB)
      have HV5 := Lib.hid (HV4.out.keep (keep_below hB))
      have HO5 := Lib.hid (HO4.out.keep (keep_below hB))
      have HT5 : Hid (TabAt w5) := Lib.hid (fun j hj => keep_below hB _ _ (HT4.out j hj))
      have HB5 := Lib.hid (bthen' HB4.out hB)
      clear pl p0 p1 hB
      obtain ⟨pl, p0, p1, pf⟩ := HP5.out
      clear pf
      go_wp2_with fail
      refine (rank_calls _ l a m HM.out _ HV5.out hl2).mono ?_
      rintro e w6 ⟨rfl, hB⟩
      rw [HCM.out]
      have HP6 := Lib.hid (HP5.out.below hB)
      have HV6 := Lib.hid (HV5.out.keep (keep_below hB))
      have HO6 := Lib.hid (HO5.out.keep (keep_below hB))
      have HT6 : Hid (TabAt w6) := Lib.hid (fun j hj => keep_below hB _ _ (HT5.out j hj))
      have HB6 := Lib.hid (bthen' HB5.out hB)
      clear pl p0 p1 hB
      obtain ⟨pl, p0, p1, pf⟩ := HP6.out
      clear pf
      go_wp2_with fail
      refine (rank_calls _ l _ l.length (by omega) _ HV6.out hl2).mono ?_
      rintro e w7 ⟨rfl, hB⟩
      rw [HC.out]
      have HP7 := Lib.hid (HP6.out.below hB)
      have HV7 := Lib.hid (HV6.out.keep (keep_below hB))
      have HO7 := Lib.hid (HO6.out.keep (keep_below hB))
      have HT7 : Hid (TabAt w7) := Lib.hid (fun j hj => keep_below hB _ _ (HT6.out j hj))
      have HB7 := Lib.hid (bthen' HB6.out hB)
      clear pl p0 p1 hB
      obtain ⟨pl, p0, p1, pf⟩ := HP7.out
      clear pf
      go_wp2_with fail
      refine (first_calls _ l _ HV7.out hl2 HT7.out).mono ?_
      rintro e w8 ⟨rfl, hB⟩
      rw [HF.out]
      have HP8 := Lib.hid (HP7.out.below hB)
      have HV8 := Lib.hid (HV7.out.keep (keep_below hB))
      have HO8 := Lib.hid (HO7.out.keep (keep_below hB))
      have HT8 : Hid (TabAt w8) := Lib.hid (fun j hj => keep_below hB _ _ (HT7.out j hj))
      have HB8 := Lib.hid (bthen' HB7.out hB)
      clear pl p0 p1 hB
      obtain ⟨pl, p0, p1, pf⟩ := HP8.out
      clear pf
      go_wp2_with fail
      refine (ones_calls _ l _ HV8.out hl2 HT8.out).mono ?_
      rintro e w9 ⟨v9, rfl, hs9, hB⟩
      rw [HOS.out] at hs9
      have HO9 := Lib.hid (HO8.out.keep (keep_below hB))
      have HR9 := Lib.hid hs9
      have HT9 : Hid (TabAt w9) := Lib.hid (fun j hj => keep_below hB _ _ (HT8.out j hj))
      have HB9 := Lib.hid (bthen' HB8.out hB)
      clear hB hs9
      go_wp2_with fail
      refine (ints_calls _ _ os os _ HR9.out HO9.out (by rw [HOL.out]; unfold maxLen; omega)).mono ?_
      rintro e w10 ⟨rfl, hB⟩
      rw [b4.out]
      have HT10 : Hid (TabAt w10) := Lib.hid (fun j hj => keep_below hB _ _ (HT9.out j hj))
      have HB10 := Lib.hid (bthen' HB9.out hB)
      clear hB
      go_wp2_with fail
      refine (awake_calls _ HT10.out).mono ?_
      rintro e w11 ⟨rfl, hB⟩
      have HB11 := Lib.hid (bthen' HB10.out hB)
      clear hB
      go_wp2
      go_ret
      exact ⟨rfl, HB11.out⟩

theorem counts_frame (w : World) (v : Value) (l : List Bool) (hr : RowC w v (l.map Value.bool)) (hl : l.length ≤ maxLen) (a : Int) (_ : (Lit.int .i64 a).wf = true) (hT : TabAt w) :
    Calls Tryd.prog 5 #[v, .int .i64 a] w fun e w' => e = .returned (.bool true) ∧ Below w.heap.size w w' := counts_calls v l a w hr hl hT
end Go.Proofs.YtkigkcncbobhaaaDoor

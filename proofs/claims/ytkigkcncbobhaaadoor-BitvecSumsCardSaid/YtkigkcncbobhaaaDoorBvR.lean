/- The law's helpers: shows, awake. -/
import Derived.Test.YtkigkcncbobhaaaDoorBvC
import Derived.Test.YtkigkcncbobhaaaDoorBvD
import Derived.Test.YtkigkcncbobhaaaDoorBvE
import Derived.Test.YtkigkcncbobhaaaDoorBvF
import Derived.Test.YtkigkcncbobhaaaDoorBvG
import Derived.Test.YtkigkcncbobhaaaDoorBvH
import Derived.Test.YtkigkcncbobhaaaDoorBvK
import Derived.Test.YtkigkcncbobhaaaDoorBvO
import Derived.Test.YtkigkcncbobhaaaDoorBvP
import Derived.Test.YtkigkcncbobhaaaDoorBvQ
namespace Go.Proofs.YtkigkcncbobhaaaDoor
open Go.RowKit
set_option linter.unusedVariables false

theorem words_le (l : List Bool) (h : l.length ≤ 1048576) : (words l).length ≤ maxLen := by rw [words_len]; unfold maxLen; omega

set_option maxHeartbeats 1000000 in
theorem shows_calls (vb vl : Value) (l : List Bool) (w : World) (hb : IsBits w vb l) (hv : Sl w vl l.length (bools l)) (hl : l.length ≤ 1048576) :
    Calls Tryd.prog 11 #[vb, vl] w fun e w' => e = .returned (.bool true) ∧ Below w.heap.size w w' := by
  have HV := Lib.hid hb
  have HS := Lib.hid hv
  obtain ⟨ao, cap, rfl, _⟩ := hb.opened
  obtain ⟨_, ao2, cap2, rfl, _⟩ := hv
  obtain ⟨L, hL⟩ : ∃ L, (l.length + 63) / 64 = L := ⟨_, rfl⟩
  rw [hL] at HV ⊢
  clear hb hL
  obtain ⟨W0, hW0⟩ : ∃ W0, W0 = w.alloc (.cells #[.int .i64 l.length, .slice ao L cap] 26) := ⟨_, rfl⟩
  have hP0 : At2 W0 w.heap.size (.int .i64 l.length) (.slice ao L cap) := by rw [hW0]; exact At2.new _ _ _ _
  have HB0 : Hid (Below w.heap.size w W0) := Lib.hid (by rw [hW0]; exact (Below.refl _ _).alloc (Nat.le_refl _) _)
  have HV0 := Lib.hid (HV.out.keep (keep_below HB0.out))
  have HS0 := Lib.hid (HS.out.keep (keep_below HB0.out))
  have HP0 := Lib.hid hP0
  have heq : ((l.length : Int) == (l.length : Int)) = true := by simp
  clear hP0
  go_enter Tryd.func11, Tryd.ntmps11
  go_wp2_with fail
  rw [← hW0]
  clear hW0
  refine (len_calls _ l _ HV0.out).mono ?_
  rintro e w1 ⟨rfl, hB⟩
  have HP1 := Lib.hid (HP0.out.below hB)
  have HV1 := Lib.hid (HV0.out.keep (keep_below hB))
  have HS1 := Lib.hid (HS0.out.keep (keep_below hB))
  have HB1 := Lib.hid (bthen' HB0.out hB)
  obtain ⟨pl, p0, p1, pf⟩ := HP1.out
  clear hB pf
  go_wp2_with fail
  refine (tidy_calls _ l _ HV1.out hl).mono ?_
  rintro e w2 ⟨rfl, hB⟩
  have HP2 := Lib.hid (HP1.out.below hB)
  have HV2 := Lib.hid (HV1.out.keep (keep_below hB))
  have HS2 := Lib.hid (HS1.out.keep (keep_below hB))
  have HB2 := Lib.hid (bthen' HB1.out hB)
  clear pl p0 p1 hB
  obtain ⟨pl, p0, p1, pf⟩ := HP2.out
  clear pf
  go_wp2_with fail
  refine (unpack_calls _ l _ HV2.out hl).mono ?_
  rintro e w3 ⟨v3, rfl, hs, hB⟩
  have HP3 := Lib.hid (HP2.out.below hB)
  have HV3 := Lib.hid (HV2.out.keep (keep_below hB))
  have HS3 := Lib.hid (HS2.out.keep (keep_below hB))
  have HB3 := Lib.hid (bthen' HB2.out hB)
  have HR := Lib.hid hs
  clear pl p0 p1 hB hs
  go_wp2_with fail
  refine (bools_calls _ _ l l _ HR.out HS3.out (by unfold maxLen; omega)).mono ?_
  rintro e w4 ⟨rfl, hB⟩
  have HP4 := Lib.hid (HP3.out.below hB)
  have HV4 := Lib.hid (HV3.out.keep (keep_below hB))
  have HS4 := Lib.hid (HS3.out.keep (keep_below hB))
  have HB4 := Lib.hid (bthen' HB3.out hB)
  have e1 : (l == l) = true := by simp
  rw [e1]
  clear hB e1 HR
  obtain ⟨pl, p0, p1, pf⟩ := HP4.out
  clear pf
  go_wp2_with fail
  refine (words_calls _ l _ HV4.out hl).mono ?_
  rintro e w5 ⟨v5, rfl, hs, hB⟩
  have HS5 := Lib.hid (HS4.out.keep (keep_below hB))
  have HB5 := Lib.hid (bthen' HB4.out hB)
  have HR := Lib.hid hs
  clear pl p0 p1 hB hs
  go_wp2_with fail
  refine (rwords_calls _ l _ HS5.out hl).mono ?_
  rintro e w6 ⟨v6, rfl, hs, hB⟩
  have HB6 := Lib.hid (bthen' HB5.out hB)
  have HR6 := Lib.hid (HR.out.keep (keep_below hB))
  have HQ := Lib.hid hs
  clear hB hs
  go_wp2_with fail
  refine (nums_calls _ _ _ _ _ HR6.out HQ.out (words_le l hl)).mono ?_
  rintro e w7 ⟨rfl, hB⟩
  have HB7 := Lib.hid (bthen' HB6.out hB)
  have e1 : (words l == words l) = true := by simp
  rw [e1]
  clear hB e1
  go_wp2
  go_ret
  exact ⟨rfl, HB7.out⟩

/-- A slice made of its elements. -/
theorem sl_lit (w : World) (e : TypeId) (cs : Array Value) (n : Nat) (xs : List Value) (hn : cs.size = n) (hx : cs.toList = xs) (hm : n ≤ 2000000) : Sl (w.alloc (.cells cs e)) (.slice (some ⟨w.heap.size, 0, none⟩) n n) n xs := by
  subst hx
  exact Sl.owned (World.ownsRow_lit (base := 0) (e := e) (size := 1) w cs n (Nat.zero_le _) (by unfold maxLen; omega) (by omega))

set_option maxHeartbeats 2000000 in
theorem awake_calls (w : World) (hT : TabAt w) :
    Calls Tryd.prog 9 #[] w fun e w' => e = .returned (.bool true) ∧ Below w.heap.size w w' := by
  obtain ⟨l, hl⟩ : ∃ l, l = [false, true, true] := ⟨_, rfl⟩
  have HL := Lib.hid hl
  have hlen : l.length = 3 := by rw [hl]; rfl
  have HLen := Lib.hid hlen
  have hl2 : Hid (l.length ≤ 1048576) := Lib.hid (by omega)
  have E1 : Hid ((words l == [6]) = true) := Lib.hid (by rw [hl]; decide +kernel)
  have E2 : Hid (cnt (sq l) l.length = 2) := Lib.hid (by rw [hl]; decide +kernel)
  have E3 : Hid ((onesTo (sq l) l.length == [1, 2]) = true) := Lib.hid (by rw [hl]; decide +kernel)
  have E4 : Hid ((((List.range l.length).map fun k => pfx (sq l) (k + 1)) == [false, true, false]) = true) := Lib.hid (by rw [hl]; decide +kernel)
  have E5 : Hid ((((List.range l.length).map fun k => por (sq l) (k + 1)) == [false, true, true]) = true) := Lib.hid (by rw [hl]; decide +kernel)
  have HS0 : Hid (Sl (w.alloc (.cells #[.bool false, .bool true, .bool true] 4)) (.slice (some ⟨w.heap.size, 0, none⟩) 3 3) l.length (bools l)) := Lib.hid (by
    have := sl_lit w 4 #[.bool false, .bool true, .bool true] 3 (bools l) rfl (by rw [hl]; rfl) (by omega)
    rwa [hlen])
  have HB0 : Hid (Below w.heap.size w (w.alloc (.cells #[.bool false, .bool true, .bool true] 4))) := Lib.hid ((Below.refl _ _).alloc (Nat.le_refl _) _)
  clear hl hlen
  go_enter Tryd.func9, Tryd.ntmps9
  go_wp2_with fail
  refine (pack_calls _ l _ HS0.out hl2.out).mono ?_
  rintro e w1 ⟨v1, rfl, hv, hB⟩
  have HB1 := Lib.hid (bthen' HB0.out hB)
  obtain ⟨ao, cap, rfl, _⟩ := hv.opened
  obtain ⟨L, hL⟩ : ∃ L, (l.length + 63) / 64 = L := ⟨_, rfl⟩
  obtain ⟨n, hn⟩ : ∃ n, l.length = n := ⟨_, rfl⟩
  rw [hL, hn] at hv ⊢
  obtain ⟨W0, hW0⟩ : ∃ W0, W0 = w1.alloc (.cells #[.int .i64 n, .slice ao L cap] 26) := ⟨_, rfl⟩
  have HP := Lib.hid (show At2 W0 w1.heap.size (.int .i64 n) (.slice ao L cap) by rw [hW0]; exact At2.new _ _ _ _)
  have HV : Hid (IsBits W0 (.agg #[.int .i64 n, .slice ao L cap]) l) := Lib.hid (by rw [hW0]; exact hv.keep (keep_alloc _ _))
  have HB : Hid (Below w.heap.size w W0) := Lib.hid (by rw [hW0]; exact HB1.out.alloc HB1.out.size _)
  clear hv hB hL hn
  go_wp2_with fail
  rw [← hW0]
  clear hW0
  have HP1 := HP
  have HV1 := HV
  have HB1' := HB
  have HT1 : Hid (TabAt W0) := Lib.hid (fun j hj => keep_below HB.out _ _ (hT j hj))
  clear HP HV HB hT
  refine (words_calls _ l _ HV1.out hl2.out).mono ?_
  rintro e w2 ⟨v2, rfl, hs, hB⟩
  have HP2 := Lib.hid (HP1.out.below hB)
  have HV2 := Lib.hid (HV1.out.keep (keep_below hB))
  have HT2 : Hid (TabAt w2) := Lib.hid (fun j hj => keep_below hB _ _ (HT1.out j hj))
  have HB2 := Lib.hid (bthen' HB1'.out hB)
  have HR := Lib.hid (hs.keep (keep_alloc w2 (.cells #[.int .u64 6] 55)))
  have HQ := Lib.hid (sl_lit w2 55 #[.int .u64 6] 1 (u64s [6]) rfl rfl (by omega))
  have HP2' := HP2.out.alloc (.cells #[.int .u64 6] 55)
  have HPa := Lib.hid HP2'
  have HVa := Lib.hid (HV2.out.keep (keep_alloc w2 (.cells #[.int .u64 6] 55)))
  have HTa : Hid (TabAt (w2.alloc (.cells #[.int .u64 6] 55))) := Lib.hid (fun j hj => keep_alloc _ _ _ _ (HT2.out j hj))
  have HBa := Lib.hid (HB2.out.alloc HB2.out.size (.cells #[.int .u64 6] 55))
  clear hs hB HP2'
  go_wp2_with fail
  refine (nums_calls _ _ _ _ _ HR.out HQ.out (words_le l hl2.out)).mono ?_
  rintro e w3 ⟨rfl, hB⟩
  rw [E1.out]
  have HP3 := Lib.hid (HPa.out.below hB)
  have HV3 := Lib.hid (HVa.out.keep (keep_below hB))
  have HT3 : Hid (TabAt w3) := Lib.hid (fun j hj => keep_below hB _ _ (HTa.out j hj))
  have HB3 := Lib.hid (bthen' HBa.out hB)
  clear hB HPa HVa HTa HBa HR HQ
  obtain ⟨pl, p0, p1, pf⟩ := HP3.out
  clear pf
  go_wp2_with fail
  refine (count_calls _ l _ HV3.out hl2.out).mono ?_
  rintro e w4 ⟨rfl, hB⟩
  rw [E2.out]
  have HP4 := Lib.hid (HP3.out.below hB)
  have HV4 := Lib.hid (HV3.out.keep (keep_below hB))
  have HT4 : Hid (TabAt w4) := Lib.hid (fun j hj => keep_below hB _ _ (HT3.out j hj))
  have HB4 := Lib.hid (bthen' HB3.out hB)
  clear pl p0 p1 hB
  obtain ⟨pl, p0, p1, pf⟩ := HP4.out
  clear pf
  go_wp2_with fail
  refine (ones_calls _ l _ HV4.out hl2.out HT4.out).mono ?_
  rintro e w5 ⟨v5, rfl, hs, hB⟩
  have HP5 := Lib.hid (HP4.out.below hB)
  have HV5 := Lib.hid (HV4.out.keep (keep_below hB))
  have HT5 : Hid (TabAt w5) := Lib.hid (fun j hj => keep_below hB _ _ (HT4.out j hj))
  have HB5 := Lib.hid (bthen' HB4.out hB)
  have HR := Lib.hid (hs.keep (keep_alloc w5 (.cells #[.int .i64 1, .int .i64 2] 3)))
  have HQ := Lib.hid (sl_lit w5 3 #[.int .i64 1, .int .i64 2] 2 (ints [1, 2]) rfl rfl (by omega))
  have HPa := Lib.hid (HP5.out.alloc (.cells #[.int .i64 1, .int .i64 2] 3))
  have HVa := Lib.hid (HV5.out.keep (keep_alloc w5 (.cells #[.int .i64 1, .int .i64 2] 3)))
  have HTa : Hid (TabAt (w5.alloc (.cells #[.int .i64 1, .int .i64 2] 3))) := Lib.hid (fun j hj => keep_alloc _ _ _ _ (HT5.out j hj))
  have HBa := Lib.hid (HB5.out.alloc HB5.out.size (.cells #[.int .i64 1, .int .i64 2] 3))
  clear pl p0 p1 hs hB
  go_wp2_with fail
  refine (ints_calls _ _ _ _ _ HR.out HQ.out (by have := onesTo_le (sq l) l.length; have := hl2.out; unfold maxLen; omega)).mono ?_
  rintro e w6 ⟨rfl, hB⟩
  rw [E3.out]
  have HP6 := Lib.hid (HPa.out.below hB)
  have HV6 := Lib.hid (HVa.out.keep (keep_below hB))
  have HT6 : Hid (TabAt w6) := Lib.hid (fun j hj => keep_below hB _ _ (HTa.out j hj))
  have HB6 := Lib.hid (bthen' HBa.out hB)
  clear hB HPa HVa HTa HBa HR HQ
  obtain ⟨pl, p0, p1, pf⟩ := HP6.out
  clear pf
  go_wp2_with fail
  refine (parity_calls _ l _ HV6.out hl2.out).mono ?_
  rintro e w7 ⟨v7, rfl, hv7, hB⟩
  have HP7 := Lib.hid (HP6.out.below hB)
  have HV7 := Lib.hid (HV6.out.keep (keep_below hB))
  have HT7 : Hid (TabAt w7) := Lib.hid (fun j hj => keep_below hB _ _ (HT6.out j hj))
  have HB7 := Lib.hid (bthen' HB6.out hB)
  have HV7' := Lib.hid hv7
  clear hv7 hB
  go_wp2_with fail
  refine (unpack_calls _ _ _ HV7'.out (by simpa using hl2.out)).mono ?_
  rintro e w8 ⟨v8, rfl, hs, hB⟩
  have HP8 := Lib.hid (HP7.out.below hB)
  have HV8 := Lib.hid (HV7.out.keep (keep_below hB))
  have HT8 : Hid (TabAt w8) := Lib.hid (fun j hj => keep_below hB _ _ (HT7.out j hj))
  have HB8 := Lib.hid (bthen' HB7.out hB)
  have HR := Lib.hid (hs.keep (keep_alloc w8 (.cells #[.bool false, .bool true, .bool false] 4)))
  have HQ := Lib.hid (sl_lit w8 4 #[.bool false, .bool true, .bool false] 3 (bools [false, true, false]) rfl rfl (by omega))
  have HPa := Lib.hid (HP8.out.alloc (.cells #[.bool false, .bool true, .bool false] 4))
  have HVa := Lib.hid (HV8.out.keep (keep_alloc w8 (.cells #[.bool false, .bool true, .bool false] 4)))
  have HTa : Hid (TabAt (w8.alloc (.cells #[.bool false, .bool true, .bool false] 4))) := Lib.hid (fun j hj => keep_alloc _ _ _ _ (HT8.out j hj))
  have HBa := Lib.hid (HB8.out.alloc HB8.out.size (.cells #[.bool false, .bool true, .bool false] 4))
  clear pl p0 p1 hs hB
  go_wp2_with fail
  refine (bools_calls _ _ _ _ _ HR.out HQ.out (by have := hl2.out; unfold maxLen; simp; omega)).mono ?_
  rintro e w9 ⟨rfl, hB⟩
  rw [E4.out]
  have HP9 := Lib.hid (HPa.out.below hB)
  have HV9 := Lib.hid (HVa.out.keep (keep_below hB))
  have HT9 : Hid (TabAt w9) := Lib.hid (fun j hj => keep_below hB _ _ (HTa.out j hj))
  have HB9 := Lib.hid (bthen' HBa.out hB)
  clear hB HPa HVa HTa HBa HR HQ
  obtain ⟨pl, p0, p1, pf⟩ := HP9.out
  clear pf
  go_wp2_with fail
  refine (fill_calls _ l _ HV9.out hl2.out).mono ?_
  rintro e w10 ⟨v10, rfl, hv10, hB⟩
  have HP10 := Lib.hid (HP9.out.below hB)
  have HV10 := Lib.hid (HV9.out.keep (keep_below hB))
  have HT10 : Hid (TabAt w10) := Lib.hid (fun j hj => keep_below hB _ _ (HT9.out j hj))
  have HB10 := Lib.hid (bthen' HB9.out hB)
  have HV10' := Lib.hid hv10
  clear hv10 hB
  go_wp2_with fail
  refine (unpack_calls _ _ _ HV10'.out (by simpa using hl2.out)).mono ?_
  rintro e w11 ⟨v11, rfl, hs, hB⟩
  have HP11 := Lib.hid (HP10.out.below hB)
  have HV11 := Lib.hid (HV10.out.keep (keep_below hB))
  have HT11 : Hid (TabAt w11) := Lib.hid (fun j hj => keep_below hB _ _ (HT10.out j hj))
  have HB11 := Lib.hid (bthen' HB10.out hB)
  have HR := Lib.hid (hs.keep (keep_alloc w11 (.cells #[.bool false, .bool true, .bool true] 4)))
  have HQ := Lib.hid (sl_lit w11 4 #[.bool false, .bool true, .bool true] 3 (bools [false, true, true]) rfl rfl (by omega))
  have HPa := Lib.hid (HP11.out.alloc (.cells #[.bool false, .bool true, .bool true] 4))
  have HVa := Lib.hid (HV11.out.keep (keep_alloc w11 (.cells #[.bool false, .bool true, .bool true] 4)))
  have HTa : Hid (TabAt (w11.alloc (.cells #[.bool false, .bool true, .bool true] 4))) := Lib.hid (fun j hj => keep_alloc _ _ _ _ (HT11.out j hj))
  have HBa := Lib.hid (HB11.out.alloc HB11.out.size (.cells #[.bool false, .bool true, .bool true] 4))
  clear pl p0 p1 hs hB
  go_wp2_with fail
  refine (bools_calls _ _ _ _ _ HR.out HQ.out (by have := hl2.out; unfold maxLen; simp; omega)).mono ?_
  rintro e w12 ⟨rfl, hB⟩
  rw [E5.out]
  have HBz := Lib.hid (bthen' HBa.out hB)
  clear hB
  go_wp2
  go_ret
  exact ⟨rfl, HBz.out⟩
end Go.Proofs.YtkigkcncbobhaaaDoor

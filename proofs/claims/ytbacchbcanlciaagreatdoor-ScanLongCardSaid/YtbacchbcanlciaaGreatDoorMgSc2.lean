/- Merged: Sc5, ScL. -/
import Derived.Test.YtbacchbcanlciaaGreatDoorMgFo1
import Derived.Test.YtbacchbcanlciaaGreatDoorMgSc1
import Derived.Test.YtbacchbcanlciaaGreatDoorMgKp1
import Derived.Test.YtbacchbcanlciaaGreatDoorMgVe1
namespace Go.Proofs.YtbacchbcanlciaaGreatDoor
set_option maxRecDepth 100000
open Go.RowKit Fl
set_option linter.unusedVariables false

set_option maxHeartbeats 8000000 in
theorem foflags1_calls (f : Int) (v : Value) (l : List Bool) (outer n inner : Nat) (w : World) (hv : IsBits w v l) (hl : l.length ≤ 1048576) (hll : l.length = outer * n * inner) (hn : 0 < n) (hno : n ≤ 1048576) (him : inner ≤ 1048576) (hom : outer ≤ 1048576) (hoi : outer * inner ≤ 1048576) (hi1 : inner = 1) (h64n : n < 64) (hT : TabAt w) :
  Calls Tryz.prog 46 #[.int .i64 f, v, .int .i64 (outer : Int), .int .i64 (n : Int), .int .i64 (inner : Int)] w (TriedF f (rowsL (l.map flagW) outer n inner) w) := by
 have HL := Lib.hid hl; have HI1 := Lib.hid hi1; have H64 := Lib.hid h64n; have HLL := Lib.hid hll; have HN := Lib.hid hn; have HNO := Lib.hid hno; have HIM := Lib.hid him; have HOM := Lib.hid hom; have HOI := Lib.hid hoi
 obtain ⟨P, hP⟩ : ∃ P, rowsL (l.map flagW) outer n inner = P := ⟨_, rfl⟩
 have HP := Lib.hid hP; rw [hP]
 obtain ⟨m, hm⟩ : ∃ m, l.length = m := ⟨_, rfl⟩
 obtain ⟨ao, cap, rfl, hcx⟩ := hv.opened
 have HV := Lib.hid hv
 rw [hm] at HV ⊢
 have HM := Lib.hid hm
 obtain ⟨L, hL⟩ : ∃ L, (m + 63) / 64 = L := ⟨_, rfl⟩
 rw [hL] at HV ⊢
 obtain ⟨W1, hW1⟩ : ∃ W1, W1 = (w.alloc (.cells #[.int .i64 m, .slice ao L cap] 63)).alloc (.cells #[.nilIface] 25) := ⟨_, rfl⟩
 have HA := Lib.hid (show At2 W1 w.heap.size (.int .i64 m) (.slice ao L cap) by rw [hW1]; exact (At2.new _ _ _ _).alloc _)
 have HR := Lib.hid (show At1 W1 (w.heap.size + 1) .nilIface by
  rw [hW1]; have := At1.new (w.alloc (.cells #[.int .i64 m, .slice ao L cap] 63)) .nilIface 25; simpa using this)
 have HB := Lib.hid (show Below w.heap.size w W1 by rw [hW1]; exact ((Below.refl _ _).alloc (Nat.le_refl _) _).alloc (by simp) _)
 have HWS := Lib.hid (show W1.heap.size = w.heap.size + 2 by rw [hW1]; simp)
 have HW1 := Lib.hid (Below.refl W1.heap.size W1)
 replace HV := Lib.hid (HV.out.keep (keep_below HB.out))
 have HTB := Lib.hid (show TabAt W1 from fun j hj => keep_below HB.out _ _ (hT j hj))
 have hfold := hW1.symm
 clear hi1 h64n hcx hL hv hl hll hn hno him hom hoi hT hW1 hm hP; have cHA0 := HA.out.2.1; have cHA1 := HA.out.2.2.1; have cHR0 := HR.out.2.1; have zHR0 := HR.out.2.2 0
 go_enter Tryz.func46, Tryz.ntmps46
 go_wp2_with fail
 clear hfold
 refine (fotable_calls f _).mono ?_
 rintro e W11 ⟨t, c, rfl, hc, hB⟩
 clear cHA0 cHA1 cHR0 zHR0; replace HB := cb hB HB; replace HW1 := cb hB HW1; replace HTB := HTB.go hB; replace HV := HV.go hB; replace HA := HA.go hB; replace HR := HR.go hB; have HC := Lib.hid hc; clear hc; clear hB; have hnm := HNO.out; have him := HIM.out
 cases c
 ·have h1 := HI1.out
  have hn64 : ¬ 64 ≤ n := by have := H64.out; omega
  have h64 : ¬ 64 ≤ inner := by omega
  have hb1 : ((inner : Int) == 1) = true := by rw [h1]; rfl
  clear h1
  by_cases hf1 : f = 1
  ·have hb3 : (f == 1) = true := by simp [hf1]
   clear hf1; have cHA0 := HA.out.2.1; have cHA1 := HA.out.2.2.1; have cHR0 := HR.out.2.1; have zHR0 := HR.out.2.2 0
   go_wp2_with fail
   all_goals refine bodyPost_ret (v := .tuple #[.agg #[.nilIface], .bool false]) (by simp [results, Tryz.results46, go_sem, cHR0]) rfl ⟨.nilIface, false, rfl, .inr ⟨rfl, rfl⟩, HB.out.setCell (by show w.heap.size ≤ w.heap.size + 1; omega) _⟩
  have hb3 : (f == 1) = false := by simp [hf1]
  by_cases hf2 : f = 2
  ·have hb4 : (f == 2) = true := by simp [hf2]
   clear hf1 hf2; have cHA0 := HA.out.2.1; have cHA1 := HA.out.2.2.1; have cHR0 := HR.out.2.1; have zHR0 := HR.out.2.2 0
   go_wp2_with fail
   all_goals refine bodyPost_ret (v := .tuple #[.agg #[.nilIface], .bool false]) (by simp [results, Tryz.results46, go_sem, cHR0]) rfl ⟨.nilIface, false, rfl, .inr ⟨rfl, rfl⟩, HB.out.setCell (by show w.heap.size ≤ w.heap.size + 1; omega) _⟩
  have hb4 : (f == 2) = false := by simp [hf2]
  clear hf1 hf2; have cHA0 := HA.out.2.1; have cHA1 := HA.out.2.2.1; have cHR0 := HR.out.2.1; have zHR0 := HR.out.2.2 0
  go_wp2_with fail
  all_goals refine bodyPost_ret (v := .tuple #[.agg #[.nilIface], .bool false]) (by simp [results, Tryz.results46, go_sem, cHR0]) rfl ⟨.nilIface, false, rfl, .inr ⟨rfl, rfl⟩, HB.out.setCell (by show w.heap.size ≤ w.heap.size + 1; omega) _⟩
 ·have h1 := HI1.out
  have hn64 : ¬ 64 ≤ n := by have := H64.out; omega
  have h64 : ¬ 64 ≤ inner := by omega
  have hb1 : ((inner : Int) == 1) = true := by rw [h1]; rfl
  clear h1
  by_cases hf1 : f = 1
  ·have hb3 : (f == 1) = true := by simp [hf1]
   clear hf1; have cHA0 := HA.out.2.1; have cHA1 := HA.out.2.2.1; have cHR0 := HR.out.2.1; have zHR0 := HR.out.2.2 0
   go_wp2_with fail
   all_goals refine bodyPost_ret (v := .tuple #[.agg #[.nilIface], .bool false]) (by simp [results, Tryz.results46, go_sem, cHR0]) rfl ⟨.nilIface, false, rfl, .inr ⟨rfl, rfl⟩, HB.out.setCell (by show w.heap.size ≤ w.heap.size + 1; omega) _⟩
  have hb3 : (f == 1) = false := by simp [hf1]
  by_cases hf2 : f = 2
  ·have hb4 : (f == 2) = true := by simp [hf2]
   clear hf1 hf2; have cHA0 := HA.out.2.1; have cHA1 := HA.out.2.2.1; have cHR0 := HR.out.2.1; have zHR0 := HR.out.2.2 0
   go_wp2_with fail
   all_goals refine bodyPost_ret (v := .tuple #[.agg #[.nilIface], .bool false]) (by simp [results, Tryz.results46, go_sem, cHR0]) rfl ⟨.nilIface, false, rfl, .inr ⟨rfl, rfl⟩, HB.out.setCell (by show w.heap.size ≤ w.heap.size + 1; omega) _⟩
  have hb4 : (f == 2) = false := by simp [hf2]
  clear hf1 hf2; have cHA0 := HA.out.2.1; have cHA1 := HA.out.2.2.1; have cHR0 := HR.out.2.1; have zHR0 := HR.out.2.2 0
  go_wp2_with fail
  all_goals refine bodyPost_ret (v := .tuple #[.agg #[.nilIface], .bool false]) (by simp [results, Tryz.results46, go_sem, cHR0]) rfl ⟨.nilIface, false, rfl, .inr ⟨rfl, rfl⟩, HB.out.setCell (by show w.heap.size ≤ w.heap.size + 1; omega) _⟩
set_option maxHeartbeats 8000000 in
theorem fofold1_calls {ok : Nat → Prop} (f : Int) (u : Value) (V : VV) (outer n inner : Nat) (w : World) (hA : IsV w ok u V) (oA : V.ok) (nA : V.nm) (hl : V.len = outer * n * inner) (hno : n ≤ 1048576) (him : inner ≤ 1048576) (hom : outer ≤ 1048576) (hoi : outer * inner ≤ 1048576) (hi1 : inner = 1) (h64n : n < 64) (hT : TabAt w) :
  Calls Tryz.prog 16 #[.int .i64 f, .agg #[u], .int .i64 (outer : Int), .int .i64 (n : Int), .int .i64 (inner : Int)] w fun e w' => ∃ u', e = .returned (.tuple #[.agg #[u'], .int .i64 (foE f V outer n inner)]) ∧ IsV w' (fun b => ok b ∨ w.heap.size ≤ b) u' (foV f V outer n inner) ∧ Below w.heap.size w w' := by
 obtain ⟨E, hEE⟩ : ∃ E : Int, E = foE f V outer n inner := ⟨_, rfl⟩
 obtain ⟨R, hRR⟩ : ∃ R : VV, R = foV f V outer n inner := ⟨_, rfl⟩
 rw [← hRR, ← hEE]
 have HRR := Lib.hid hRR; have HEE := Lib.hid hEE; have hsu := hA.store; have HOA := Lib.hid oA; have HI1 := Lib.hid hi1; have H64 := Lib.hid h64n; have HNA := Lib.hid nA; have HLL := Lib.hid hl; have HNO := Lib.hid hno; have HIM := Lib.hid him; have HOM := Lib.hid hom; have HOI := Lib.hid hoi
 have HVM := Lib.hid (VV.ok_len oA)
 obtain ⟨W1, hW1⟩ : ∃ W1, W1 = (w.alloc (.cells #[u] 25)).alloc (.cells #[.nilIface] 25) := ⟨_, rfl⟩
 have HB := Lib.hid (show Below w.heap.size w W1 by rw [hW1]; exact (below_new _ _).alloc (by simp) _)
 have HA := Lib.hid (show At1 W1 w.heap.size u by rw [hW1]; exact (At1.new w _ _).below (below_new _ _))
 have HR := Lib.hid (show At1 W1 (w.heap.size + 1) .nilIface by rw [hW1]; have := At1.new (w.alloc (.cells #[u] 25)) .nilIface 25; simpa using this)
 have HU := Lib.hid (show IsV W1 (fun b => ok b ∧ b < w.heap.size) u V from (hA.wide (ok' := fun b => ok b ∧ b < w.heap.size) (fun b hb h => ⟨h, hb⟩)).grow HB.out)
 have HT := Lib.hid (show TabAt W1 from fun j hj => keep_below HB.out _ _ (hT j hj))
 have HWS := Lib.hid (show W1.heap.size = w.heap.size + 2 by rw [hW1]; simp)
 have HW1 := Lib.hid (Below.refl W1.heap.size W1)
 obtain ⟨M, hM⟩ : ∃ M : Nat, (if (inner : Int) < (if (n : Int) < (outer : Int) then (n : Int) else (outer : Int)) then (inner : Int) else (if (n : Int) < (outer : Int) then (n : Int) else (outer : Int))) = (M : Int) := ⟨_, (Int.toNat_of_nonneg (by (repeat' split) <;> omega)).symm⟩
 have hmin : ∀ (ts : Array TypeId) (t : TypeId) (w : World), (Builtin.min_ ts t #[.int .i64 (outer : Int), .int .i64 (n : Int), .int .i64 (inner : Int)]).run Tryz.prog w = .ok (.int .i64 (M : Int)) w := fun ts t w => by rw [run_min_int3, hM]
 have h1 : ¬ (M : Int) < 0 := by omega
 obtain ⟨D, hD⟩ : ∃ D, outer * inner = D := ⟨_, rfl⟩
 rw [hD] at HOI
 have HDE := Lib.hid hD
 have hfold := hW1.symm
 have HPR := Lib.hid hsu; clear hi1 h64n hA hT oA nA hl hW1 hEE hRR hno him hom hoi hD hM
 by_cases hk : fknown f = true
 rotate_left
 ·have HKN := Lib.hid (show fknown f = false by simpa using hk)
  have HE1 := Lib.hid (foE_1 (V := V) (outer := outer) (n := n) (inner := inner) HKN.out)
  clear hk; have cHA0 := HA.out.2.1; have cHR0 := HR.out.2.1; have zHR0 := HR.out.2.2 0
  go_enter Tryz.func16, Tryz.ntmps16
  go_wp2_with ((with_reducible refine (foknown_calls _ _).mono ?_); rintro e w' ⟨rfl, rfl⟩; rw [HKN.out])
  clear hfold
  refine bodyPost_ret (v := .tuple #[.agg #[.nilIface], .int .i64 1]) (by simp [results, Tryz.results16, go_sem, cHR0]) rfl ⟨.nilIface, by rw [HEE.out, HE1.out], ?_, HB.out.setCell (by show w.heap.size ≤ w.heap.size + 1; omega) _⟩
  rw [HRR.out, foV_bad (by rw [HE1.out]; decide)]; exact .none
 have HKN := Lib.hid hk
 obtain ⟨q, hq⟩ : ∃ q, decide (V.cls = 0 ∨ (V.cls = 1 ∧ (n : Int) = 1)) = q := ⟨_, rfl⟩
 have HQ0 := Lib.hid hq
 cases q
 ·have HE1 := Lib.hid (show foE f V outer n inner = 24 from foE_24 hk (by
   have h9 := of_decide_eq_false hq
   rcases VV.cls3 V with h | h | h
   ·exact absurd (.inl h) h9
   ·exact .inr ⟨h, fun h8 => h9 (.inr ⟨h, by omega⟩)⟩
   ·exact .inl h))
  clear hk hq; have cHA0 := HA.out.2.1; have cHR0 := HR.out.2.1; have zHR0 := HR.out.2.2 0
  go_enter Tryz.func16, Tryz.ntmps16
  go_wp2_with ((with_reducible refine (foknown_calls _ _).mono ?_); rintro e w' ⟨rfl, rfl⟩; rw [HKN.out])
  clear hfold
  refine (class_calls _ V _ HU.out).mono ?_
  rintro e W11 ⟨rfl, hB⟩
  clear cHA0 cHR0 zHR0; replace HB := cb hB HB; replace HW1 := cb hB HW1; replace HT := HT.go hB; replace HU := HU.go hB; replace HA := HA.go hB; replace HR := HR.go hB; clear hB; have cHA0 := HA.out.2.1; have cHR0 := HR.out.2.1; have zHR0 := HR.out.2.2 0
  go_wp2_with fail
  refine (foall_calls _ _ _).mono ?_
  rintro e w' ⟨rfl, rfl⟩
  rw [HQ0.out]
  go_wp2_with fail
  refine bodyPost_ret (v := .tuple #[.agg #[.nilIface], .int .i64 24]) (by simp [results, Tryz.results16, go_sem, cHR0]) rfl ⟨.nilIface, by rw [HEE.out, HE1.out], ?_, HB.out.setCell (by show w.heap.size ≤ w.heap.size + 1; omega) _⟩
  rw [HRR.out, foV_bad (by rw [HE1.out]; decide)]; exact .none
 ·by_cases h11 : n = 1
  ·have HE1 := Lib.hid (show foE f V outer n inner = 0 from foE_one hk (by have h9 := of_decide_eq_true hq; omega) h11)
   have HV1 := Lib.hid (show R = V by rw [HRR.out, foV_one HE1.out h11])
   have hb1 : ((n : Int) == 1) = true := by rw [h11]; rfl
   clear hk hq h11; have cHA0 := HA.out.2.1; have cHR0 := HR.out.2.1; have zHR0 := HR.out.2.2 0
   go_enter Tryz.func16, Tryz.ntmps16
   go_wp2_with ((with_reducible refine (foknown_calls _ _).mono ?_); rintro e w' ⟨rfl, rfl⟩; rw [HKN.out])
   clear hfold
   refine (class_calls _ V _ HU.out).mono ?_
   rintro e W11 ⟨rfl, hB⟩
   clear cHA0 cHR0 zHR0; replace HB := cb hB HB; replace HW1 := cb hB HW1; replace HT := HT.go hB; replace HU := HU.go hB; replace HA := HA.go hB; replace HR := HR.go hB; clear hB; have cHA0 := HA.out.2.1; have cHR0 := HR.out.2.1; have zHR0 := HR.out.2.2 0
   go_wp2_with fail
   refine (foall_calls _ _ _).mono ?_
   rintro e w' ⟨rfl, rfl⟩
   rw [HQ0.out]
   go_wp2_with fail
   refine bodyPost_ret (v := .tuple #[.agg #[u], .int .i64 0]) (by simp [results, Tryz.results16, go_sem, cHR0]) rfl ⟨u, by rw [HEE.out, HE1.out], ?_, HB.out.setCell (by show w.heap.size ≤ w.heap.size + 1; omega) _⟩
   rw [HV1.out]
   exact HU.out.keep (Kept.setCell _ _ _ (by simp)) (fun b _ h => .inl h.1)
  have hb1 : ((n : Int) == 1) = false := by rw [beq_eq_false_iff_ne]; omega
  have HC0 := Lib.hid (show V.cls = 0 by have h9 := of_decide_eq_true hq; omega)
  have HNL := Lib.hid (show V.nums.length = outer * n * inner by rw [VV.nums_len0 HC0.out, HLL.out])
  have HLE := Lib.hid (show (V.len : Int) = ((outer * n * inner : Nat) : Int) by rw [HLL.out])
  have HSZ := Lib.hid (show outer * n * inner ≤ 1048576 by rw [← HLL.out]; exact HVM.out)
  have HN1 := Lib.hid h11
  by_cases h00 : n = 0
  ·have hb0 : ((n : Int) == 0) = true := by rw [h00]; rfl
   obtain ⟨s, hs⟩ : ∃ s, fstart f = s := ⟨_, rfl⟩
   have HS := Lib.hid hs
   have HE1 := Lib.hid (show foE f V outer n inner = if s.2 = true then 0 else 24 by
    split
    ·rename_i h; rw [foE_num hk HC0.out h11 (by rw [hs, h]; simp), h00, rowsL_err0 _ _ _ (by rw [hs]; exact h)]
    ·rename_i h; exact foE_start hk h00 (by rw [hs]; simpa using h))
   have HV1 := Lib.hid (show R = if s.2 = true then sqL (List.replicate D s.1) else .none by
    rw [HRR.out]
    split
    ·rename_i h
     rw [foV_num (by rw [HE1.out, if_pos h]) h11, h00, rowsL_out0 _ _ _ (by rw [hs]; exact h), HDE.out, hs]
    ·rename_i h; exact foV_bad (by rw [HE1.out, if_neg h]; decide))
   have qD : IntKind.i64.wrap ((outer : Int) * (inner : Int)) = (D : Int) := by rw [← Int.natCast_mul, HDE.out]; exact IntWalk.i64_in _ (by have := HOI.out; omega)
   obtain ⟨sE, hsE⟩ : ∃ sE : Int, (if s.2 = true then (0 : Int) else 24) = sE := ⟨_, rfl⟩
   obtain ⟨sV, hsV⟩ : ∃ sV : VV, (if s.2 = true then sqL (List.replicate D s.1) else VV.none) = sV := ⟨_, rfl⟩
   have HSE := Lib.hid hsE; have HSV := Lib.hid hsV
   rw [hsE] at HE1
   rw [hsV] at HV1
   clear hk hq h11 h00 hs hsE hsV; have cHA0 := HA.out.2.1; have cHR0 := HR.out.2.1; have zHR0 := HR.out.2.2 0
   go_enter Tryz.func16, Tryz.ntmps16
   go_wp2_with ((with_reducible refine (foknown_calls _ _).mono ?_); rintro e w' ⟨rfl, rfl⟩; rw [HKN.out])
   clear hfold
   refine (class_calls _ V _ HU.out).mono ?_
   rintro e W11 ⟨rfl, hB⟩
   clear cHA0 cHR0 zHR0; replace HB := cb hB HB; replace HW1 := cb hB HW1; replace HT := HT.go hB; replace HU := HU.go hB; replace HA := HA.go hB; replace HR := HR.go hB; clear hB; have cHA0 := HA.out.2.1; have cHR0 := HR.out.2.1; have zHR0 := HR.out.2.2 0
   go_wp2_with fail
   refine (foall_calls _ _ _).mono ?_
   rintro e w' ⟨rfl, rfl⟩
   rw [HQ0.out]
   go_wp2_with fail
   refine (vlen_calls _ V _ HU.out).mono ?_
   rintro e W12 ⟨rfl, hB⟩
   clear cHA0 cHR0 zHR0; replace HB := cb hB HB; replace HW1 := cb hB HW1; replace HT := HT.go hB; replace HU := HU.go hB; replace HA := HA.go hB; replace HR := HR.go hB; rw [HLE.out]; clear hB; have cHA0 := HA.out.2.1; have cHR0 := HR.out.2.1; have zHR0 := HR.out.2.2 0
   go_wp2_with fail
   refine (fosized_calls outer n inner _ HSZ.out HNO.out HIM.out HOM.out (by rw [HDE.out]; exact HOI.out)).mono ?_
   rintro e w' ⟨rfl, rfl⟩
   go_wp2_with fail
   have hO := HW1.out.size
   refine (fonone_calls f D _ HOI.out HT.out).mono ?_
   rintro e W13 ⟨uq, rfl, huq, hB⟩
   clear cHA0 cHR0 zHR0; replace HB := cb hB HB; replace HW1 := cb hB HW1; replace HT := HT.go hB; replace HU := HU.go hB; replace HA := HA.go hB; replace HR := HR.go hB
   rw [HS.out, HSE.out]
   rw [HS.out, HSV.out] at huq
   have HQ := Lib.hid (show IsV W13 (fun b => w.heap.size + 2 ≤ b) uq sV from huq.wide (fun b _ (h : W12.heap.size ≤ b) => by have := HWS.out; omega))
   have hsq := huq.store; clear huq hO; clear hB; have cHA0 := HA.out.2.1; have cHR0 := HR.out.2.1; have zHR0 := HR.out.2.2 0
   go_wp2_with fail
   refine bodyPost_ret (v := .tuple #[.agg #[uq], .int .i64 sE]) (by simp [results, Tryz.results16, go_sem, cHR0]) rfl ⟨uq, by rw [HEE.out, HE1.out], ?_, HB.out.setCell (by show w.heap.size ≤ w.heap.size + 1; omega) _⟩
   rw [HV1.out]
   exact HQ.out.keep (Kept.setCell _ _ _ (by simp)) (fun b _ (h : w.heap.size + 2 ≤ b) => .inr (by omega))
  have hb0 : ((n : Int) == 0) = false := by rw [beq_eq_false_iff_ne]; omega
  have HN0 := Lib.hid (show 0 < n by omega)
  obtain ⟨P, hP⟩ : ∃ P, rowsL V.nums outer n inner = P := ⟨_, rfl⟩
  have HPE := Lib.hid hP
  have HE1 := Lib.hid (show foE f V outer n inner = errG (rowN f) P by rw [foE_num hk HC0.out h11 (by omega), hP])
  have HV1 := Lib.hid (show R = if errG (rowN f) P = 0 then sqL (outG (rowN f) P) else .none by
   rw [HRR.out]
   split
   ·rename_i h; rw [foV_num (by rw [HE1.out]; exact h) h11, hP]
   ·rename_i h; exact foV_bad (by rw [HE1.out]; exact h))
  have HNN := Lib.hid (VV.nums_num HOA.out HNA.out)
  clear hk hq h11 h00 hP; have cHA0 := HA.out.2.1; have cHR0 := HR.out.2.1; have zHR0 := HR.out.2.2 0
  go_enter Tryz.func16, Tryz.ntmps16
  go_wp2_with ((with_reducible refine (foknown_calls _ _).mono ?_); rintro e w' ⟨rfl, rfl⟩; rw [HKN.out])
  clear hfold
  refine (class_calls _ V _ HU.out).mono ?_
  rintro e W11 ⟨rfl, hB⟩
  clear cHA0 cHR0 zHR0; replace HB := cb hB HB; replace HW1 := cb hB HW1; replace HT := HT.go hB; replace HU := HU.go hB; replace HA := HA.go hB; replace HR := HR.go hB; clear hB; have cHA0 := HA.out.2.1; have cHR0 := HR.out.2.1; have zHR0 := HR.out.2.2 0
  go_wp2_with fail
  refine (foall_calls _ _ _).mono ?_
  rintro e w' ⟨rfl, rfl⟩
  rw [HQ0.out]
  go_wp2_with fail
  refine (vlen_calls _ V _ HU.out).mono ?_
  rintro e W12 ⟨rfl, hB⟩
  clear cHA0 cHR0 zHR0; replace HB := cb hB HB; replace HW1 := cb hB HW1; replace HT := HT.go hB; replace HU := HU.go hB; replace HA := HA.go hB; replace HR := HR.go hB; rw [HLE.out]; clear hB; have cHA0 := HA.out.2.1; have cHR0 := HR.out.2.1; have zHR0 := HR.out.2.2 0
  go_wp2_with fail
  refine (fosized_calls outer n inner _ HSZ.out HNO.out HIM.out HOM.out (by rw [HDE.out]; exact HOI.out)).mono ?_
  rintro e w' ⟨rfl, rfl⟩
  go_wp2_with fail
  refine (packed_x _ V _ HU.out).mono ?_
  rintro e W13 ⟨vp, rfl, hvp, hB⟩
  clear cHA0 cHR0 zHR0; replace HB := cb hB HB; replace HW1 := cb hB HW1; replace HT := HT.go hB; replace HU := HU.go hB; replace HA := HA.go hB; replace HR := HR.go hB; have HVP := Lib.hid hvp.bits
  obtain ⟨ap, cp, rfl, _⟩ := HVP.out.opened
  clear hvp; clear hB
  obtain ⟨W14, hWn, hB, hNB⟩ := ahd2 W13 (.int .i64 V.packed.length) (.slice ap ((V.packed.length + 63) / 64) cp) 63
  replace HB := cb hB HB; replace HW1 := cb hB HW1; replace HT := HT.go hB; replace HU := HU.go hB; replace HA := HA.go hB; replace HR := HR.go hB; replace HVP := HVP.go hB; have HP := Lib.hid hNB; clear hNB hB; have cHA0 := HA.out.2.1; have cHR0 := HR.out.2.1; have zHR0 := HR.out.2.2 0; have cHP0 := HP.out.2.1; have cHP1 := HP.out.2.2.1
  obtain ⟨bt, hbt⟩ : ∃ bt, V.isBit = bt := ⟨_, rfl⟩
  rw [hbt]
  cases bt
  ·clear hbt
   go_wp2_with fail
   clear hWn
   refine (vnums_calls _ V _ HU.out HOA.out HT.out).mono ?_
   rintro e W15 ⟨vn, rfl, hvn, hB⟩
   clear cHA0 cHR0 zHR0 cHP0 cHP1; replace HB := cb hB HB; replace HW1 := cb hB HW1; replace HT := HT.go hB; replace HU := HU.go hB; replace HA := HA.go hB; replace HR := HR.go hB; replace HVP := HVP.go hB; replace HP := HP.go hB; have HVN := Lib.hid hvn.any; clear hvn; clear hB; have cHA0 := HA.out.2.1; have cHR0 := HR.out.2.1; have zHR0 := HR.out.2.2 0; have cHP0 := HP.out.2.1; have cHP1 := HP.out.2.2.1
   go_wp2_with fail
   have hO := HW1.out.size
   refine (fonumbers_calls f _ V.nums outer n inner _ HVN.out HNL.out (by rw [HNL.out]; exact HSZ.out) HNN.out HN0.out HNO.out HIM.out HOM.out (by rw [HDE.out]; exact HOI.out) HT.out).mono ?_
   rintro e W16 ⟨uq, rfl, huq, hB⟩
   clear cHA0 cHR0 zHR0 cHP0 cHP1; replace HB := cb hB HB; replace HW1 := cb hB HW1; replace HT := HT.go hB; replace HU := HU.go hB; replace HA := HA.go hB; replace HR := HR.go hB; replace HVP := HVP.go hB; replace HP := HP.go hB; replace HVN := HVN.go hB
   rw [HPE.out] at huq ⊢
   rw [← HV1.out] at huq
   rw [← HE1.out, ← HEE.out]
   have HQ := Lib.hid (show IsV W16 (fun b => w.heap.size + 2 ≤ b) uq R from huq.wide (fun b _ (h : W15.heap.size ≤ b) => by have := HWS.out; omega))
   have hsq := huq.store; clear huq hO; clear hB; have cHA0 := HA.out.2.1; have cHR0 := HR.out.2.1; have zHR0 := HR.out.2.2 0; have cHP0 := HP.out.2.1; have cHP1 := HP.out.2.2.1
   go_wp2_with fail
   refine bodyPost_ret (v := .tuple #[.agg #[uq], .int .i64 E]) (by simp [results, Tryz.results16, go_sem, cHR0]) rfl ⟨uq, rfl, ?_, HB.out.setCell (by show w.heap.size ≤ w.heap.size + 1; omega) _⟩
   exact HQ.out.keep (Kept.setCell _ _ _ (by simp)) (fun b _ (h : w.heap.size + 2 ≤ b) => .inr (by omega))
  ·have HPL := Lib.hid (VV.bit_nums hbt)
   have HPN := Lib.hid (show rowsL (V.packed.map flagW) outer n inner = P by rw [← HPL.out.1, HPE.out])
   have HPK := Lib.hid (show V.packed.length = outer * n * inner by rw [HPL.out.2.1, HLL.out])
   clear hbt
   go_wp2_with fail
   clear hWn; have hO := HW1.out.size
   refine (foflags1_calls f _ V.packed outer n inner _ HVP.out (by rw [HPK.out]; exact HSZ.out) HPK.out HN0.out HNO.out HIM.out HOM.out (by rw [HDE.out]; exact HOI.out) HI1.out H64.out HT.out).mono ?_
   rintro e W15 ⟨uz, r, rfl, hr, hB⟩
   clear cHA0 cHR0 zHR0 cHP0 cHP1; replace HB := cb hB HB; replace HW1 := cb hB HW1; replace HT := HT.go hB; replace HU := HU.go hB; replace HA := HA.go hB; replace HR := HR.go hB; replace HVP := HVP.go hB; replace HP := HP.go hB
   rw [HPN.out] at hr
   have HSO := Lib.hid (show w.heap.size + 2 ≤ W14.heap.size by have := HWS.out; omega)
   clear hO; clear hB
   rcases hr with ⟨rfl, he, hi⟩ | ⟨rfl, hz⟩
   ·have HI := Lib.hid (show IsV W15 (fun b => w.heap.size + 2 ≤ b) uz (sqL (outG (rowN f) P)) from hi.wide (fun b _ h => Nat.le_trans HSO.out h))
    have hsz := hi.store; have HE2 := Lib.hid he; clear hi he
    obtain ⟨W16, hWn, hB, hNB⟩ := ahd1 W15 (uz) 25
    replace HB := cb hB HB; replace HW1 := cb hB HW1; replace HT := HT.go hB; replace HU := HU.go hB; replace HA := HA.go hB; replace HR := HR.go hB; replace HVP := HVP.go hB; replace HP := HP.go hB; replace HI := HI.go hB; have HZA := Lib.hid hNB; clear hNB hB; have cHA0 := HA.out.2.1; have cHR0 := HR.out.2.1; have zHR0 := HR.out.2.2 0; have cHP0 := HP.out.2.1; have cHP1 := HP.out.2.2.1; have cHZA0 := HZA.out.2.1
    go_wp2_with fail
    clear hWn
    refine bodyPost_ret (v := .tuple #[.agg #[uz], .int .i64 0]) (by simp [results, Tryz.results16, go_sem, cHR0]) rfl ⟨uz, by rw [HEE.out, HE1.out, HE2.out], ?_, HB.out.setCell (by show w.heap.size ≤ w.heap.size + 1; omega) _⟩
    rw [HV1.out, if_pos HE2.out]
    exact HI.out.keep (Kept.setCell _ _ _ (by simp)) (fun b _ (h : w.heap.size + 2 ≤ b) => .inr (by omega))
   ·have hsz : ∀ (w : World) (a : Addr) (m : Mode), (store a uz m).run Tryz.prog w = stored Tryz.prog w a uz m := by subst hz; exact fun w a m => run_store Tryz.prog w a _ m rfl
    clear hz
    obtain ⟨W16, hWn, hB, hNB⟩ := ahd1 W15 (uz) 25
    replace HB := cb hB HB; replace HW1 := cb hB HW1; replace HT := HT.go hB; replace HU := HU.go hB; replace HA := HA.go hB; replace HR := HR.go hB; replace HVP := HVP.go hB; replace HP := HP.go hB; have HZA := Lib.hid hNB; clear hNB hB; have cHA0 := HA.out.2.1; have cHR0 := HR.out.2.1; have zHR0 := HR.out.2.2 0; have cHP0 := HP.out.2.1; have cHP1 := HP.out.2.2.1; have cHZA0 := HZA.out.2.1
    go_wp2_with fail
    clear hWn
    refine (vnums_calls _ V _ HU.out HOA.out HT.out).mono ?_
    rintro e W17 ⟨vn, rfl, hvn, hB⟩
    clear cHA0 cHR0 zHR0 cHP0 cHP1 cHZA0; replace HB := cb hB HB; replace HW1 := cb hB HW1; replace HT := HT.go hB; replace HU := HU.go hB; replace HA := HA.go hB; replace HR := HR.go hB; replace HVP := HVP.go hB; replace HP := HP.go hB; replace HZA := HZA.go hB; have HVN := Lib.hid hvn.any; clear hvn; clear hB; have cHA0 := HA.out.2.1; have cHR0 := HR.out.2.1; have zHR0 := HR.out.2.2 0; have cHP0 := HP.out.2.1
    have cHP1 := HP.out.2.2.1; have cHZA0 := HZA.out.2.1
    go_wp2_with fail
    have hO := HW1.out.size
    refine (fonumbers_calls f _ V.nums outer n inner _ HVN.out HNL.out (by rw [HNL.out]; exact HSZ.out) HNN.out HN0.out HNO.out HIM.out HOM.out (by rw [HDE.out]; exact HOI.out) HT.out).mono ?_
    rintro e W18 ⟨uq, rfl, huq, hB⟩
    clear cHA0 cHR0 zHR0 cHP0 cHP1 cHZA0; replace HB := cb hB HB; replace HW1 := cb hB HW1; replace HT := HT.go hB; replace HU := HU.go hB; replace HA := HA.go hB; replace HR := HR.go hB; replace HVP := HVP.go hB; replace HP := HP.go hB; replace HZA := HZA.go hB; replace HVN := HVN.go hB
    rw [HPE.out] at huq ⊢
    rw [← HV1.out] at huq
    rw [← HE1.out, ← HEE.out]
    have HQ := Lib.hid (show IsV W18 (fun b => w.heap.size + 2 ≤ b) uq R from huq.wide (fun b _ (h : W17.heap.size ≤ b) => by have := HWS.out; omega))
    have hsq := huq.store; clear huq hO; clear hB; have cHA0 := HA.out.2.1; have cHR0 := HR.out.2.1; have zHR0 := HR.out.2.2 0; have cHP0 := HP.out.2.1; have cHP1 := HP.out.2.2.1; have cHZA0 := HZA.out.2.1
    go_wp2_with fail
    refine bodyPost_ret (v := .tuple #[.agg #[uq], .int .i64 E]) (by simp [results, Tryz.results16, go_sem, cHR0]) rfl ⟨uq, rfl, ?_, HB.out.setCell (by show w.heap.size ≤ w.heap.size + 1; omega) _⟩
    exact HQ.out.keep (Kept.setCell _ _ _ (by simp)) (fun b _ (h : w.heap.size + 2 ≤ b) => .inr (by omega))
theorem fofold1_at {ok : Nat → Prop} (f : Int) (u : Value) (V : VV) (outer n inner : Nat) (o nn ii : Int) (w : World) (ho : o = (outer : Int)) (hn : nn = (n : Int)) (hi : ii = (inner : Int)) (hA : IsV w ok u V) (oA : V.ok) (nA : V.nm) (hl : V.len = outer * n * inner) (hno : n ≤ 1048576) (him : inner ≤ 1048576) (hom : outer ≤ 1048576) (hoi : outer * inner ≤ 1048576) (hi1 : inner = 1) (h64n : n < 64) (hT : TabAt w) :
  Calls Tryz.prog 16 #[.int .i64 f, .agg #[u], .int .i64 o, .int .i64 nn, .int .i64 ii] w fun e w' => ∃ u', e = .returned (.tuple #[.agg #[u'], .int .i64 (foE f V outer n inner)]) ∧ IsV w' (fun b => ok b ∨ w.heap.size ≤ b) u' (foV f V outer n inner) ∧ Below w.heap.size w w' := by
 subst ho hn hi
 exact fofold1_calls f u V outer n inner w hA oA nA hl hno him hom hoi hi1 h64n hT
set_option maxHeartbeats 8000000 in
theorem scflags1_calls (f : Int) (v : Value) (l : List Bool) (outer n inner : Nat) (w : World) (hv : IsBits w v l) (hl : l.length ≤ 1048576) (hll : l.length = outer * n * inner) (hpos : 0 < l.length) (hno : n ≤ 1048576) (him : inner ≤ 1048576) (hi1 : inner = 1) (hT : TabAt w) :
  Calls Tryz.prog 34 #[.int .i64 f, v, .int .i64 (outer : Int), .int .i64 (n : Int), .int .i64 (inner : Int)] w (TriedS f l outer n inner w) := by
 have HL := Lib.hid hl; have HI1 := Lib.hid hi1; have HLL := Lib.hid hll; have HPOS := Lib.hid hpos; have HNO := Lib.hid hno; have HIM := Lib.hid him
 obtain ⟨m, hm⟩ : ∃ m, l.length = m := ⟨_, rfl⟩
 obtain ⟨ao, cap, rfl, hcx⟩ := hv.opened
 have HV := Lib.hid hv
 rw [hm] at HV ⊢
 have HM := Lib.hid hm
 obtain ⟨L, hL⟩ : ∃ L, (m + 63) / 64 = L := ⟨_, rfl⟩
 rw [hL] at HV ⊢
 obtain ⟨W1, hW1⟩ : ∃ W1, W1 = (w.alloc (.cells #[.int .i64 m, .slice ao L cap] 63)).alloc (.cells #[.nilIface] 25) := ⟨_, rfl⟩
 have HA := Lib.hid (show At2 W1 w.heap.size (.int .i64 m) (.slice ao L cap) by rw [hW1]; exact (At2.new _ _ _ _).alloc _)
 have HR := Lib.hid (show At1 W1 (w.heap.size + 1) .nilIface by
  rw [hW1]; have := At1.new (w.alloc (.cells #[.int .i64 m, .slice ao L cap] 63)) .nilIface 25; simpa using this)
 have HB := Lib.hid (show Below w.heap.size w W1 by rw [hW1]; exact ((Below.refl _ _).alloc (Nat.le_refl _) _).alloc (by simp) _)
 replace HV := Lib.hid (HV.out.keep (keep_below HB.out))
 have HTB := Lib.hid (show TabAt W1 from fun j hj => keep_below HB.out _ _ (hT j hj))
 have hfold := hW1.symm
 clear hi1 hcx hL hv hl hll hpos hno him hT hW1 hm; have cHA0 := HA.out.2.1; have cHA1 := HA.out.2.2.1; have cHR0 := HR.out.2.1; have zHR0 := HR.out.2.2 0
 go_enter Tryz.func34, Tryz.ntmps34
 go_wp2_with fail
 clear hfold
 refine (sctable_calls f _ HTB.out).mono ?_
 rintro e W11 ⟨t, c, rfl, hc, hB⟩
 clear cHA0 cHA1 cHR0 zHR0; replace HB := cb hB HB; replace HV := HV.go hB; replace HTB := HTB.go hB; replace HA := HA.go hB; replace HR := HR.go hB; have HC := Lib.hid hc; clear hc; clear hB; have hnm := HNO.out; have him := HIM.out
 cases c
 ·have cHA0 := HA.out.2.1; have cHA1 := HA.out.2.2.1; have cHR0 := HR.out.2.1; have zHR0 := HR.out.2.2 0
  go_wp2_with fail
  all_goals refine bodyPost_ret (v := .tuple #[.agg #[.nilIface], .bool false]) (by simp [results, Tryz.results34, go_sem, cHR0]) rfl ⟨.nilIface, false, rfl, .inr ⟨rfl, rfl⟩, HB.out.setCell (by show w.heap.size ≤ w.heap.size + 1; omega) _⟩
 ·have HCT := Lib.hid (HC.out rfl)
  have h1 := HI1.out
  have h64 : ¬ 64 ≤ inner := by omega
  by_cases hn64 : 64 ≤ n
  ·subst h1
   have HN64 := Lib.hid hn64
   have HL1 := Lib.hid (show l.length = outer * n by rw [HLL.out, Nat.mul_one])
   have cHA0 := HA.out.2.1; have cHA1 := HA.out.2.2.1; have cHR0 := HR.out.2.1; have zHR0 := HR.out.2.2 0
   go_wp2_with fail
   refine (scrows_calls t _ l outer n _ HV.out HCT.out.1 HL.out HL1.out HPOS.out HN64.out HTB.out).mono ?_
   rintro e W12 ⟨uq, rfl, huq, hB⟩
   clear cHA0 cHA1 cHR0 zHR0; replace HB := cb hB HB; replace HV := HV.go hB; replace HTB := HTB.go hB; replace HA := HA.go hB; replace HR := HR.go hB; have HQ := Lib.hid huq; have hsq := huq.store; clear huq; clear hB; have cHA0 := HA.out.2.1; have cHA1 := HA.out.2.2.1; have cHR0 := HR.out.2.1; have zHR0 := HR.out.2.2 0
   go_wp2_with fail
   refine bodyPost_ret (v := .tuple #[.agg #[uq], .bool true]) (by simp [results, Tryz.results34, go_sem, cHR0]) rfl ⟨uq, true, rfl, .inl ⟨rfl, t, HCT.out.2, ?_⟩, HB.out.setCell (by show w.heap.size ≤ w.heap.size + 1; omega) _⟩
   exact HQ.out.bits_set HR.out.2.1 (.inl rfl) _
  ·have hb1 : ((inner : Int) == 1) = true := by rw [h1]; rfl
   clear h1; have cHA0 := HA.out.2.1; have cHA1 := HA.out.2.2.1; have cHR0 := HR.out.2.1; have zHR0 := HR.out.2.2 0
   go_wp2_with fail
   all_goals refine bodyPost_ret (v := .tuple #[.agg #[.nilIface], .bool false]) (by simp [results, Tryz.results34, go_sem, cHR0]) rfl ⟨.nilIface, false, rfl, .inr ⟨rfl, rfl⟩, HB.out.setCell (by show w.heap.size ≤ w.heap.size + 1; omega) _⟩
set_option maxHeartbeats 8000000 in
theorem scscan1_calls {ok : Nat → Prop} (f : Int) (u : Value) (V : VV) (outer n inner : Nat) (w : World) (hA : IsV w ok u V) (oA : V.ok) (nA : V.nm) (hl : V.len = outer * n * inner) (hno : n ≤ 1048576) (him : inner ≤ 1048576) (hom : outer ≤ 1048576) (hi1 : inner = 1) (hT : TabAt w) :
  Calls Tryz.prog 9 #[.int .i64 f, .agg #[u], .int .i64 (outer : Int), .int .i64 (n : Int), .int .i64 (inner : Int)] w fun e w' => ∃ u', e = .returned (.tuple #[.agg #[u'], .int .i64 (scE f V outer n inner)]) ∧ IsV w' (fun _ => True) u' (scV f V outer n inner) ∧ Below w.heap.size w w' := by
 obtain ⟨E, hEE⟩ : ∃ E : Int, E = scE f V outer n inner := ⟨_, rfl⟩
 obtain ⟨R, hRR⟩ : ∃ R : VV, R = scV f V outer n inner := ⟨_, rfl⟩
 rw [← hRR, ← hEE]
 have HRR := Lib.hid hRR; have HEE := Lib.hid hEE; have hsu := hA.store; have HOA := Lib.hid oA; have HI1 := Lib.hid hi1; have HNA := Lib.hid nA; have HLL := Lib.hid hl; have HNO := Lib.hid hno; have HIM := Lib.hid him; have HOM := Lib.hid hom
 have HVM := Lib.hid (VV.ok_len oA)
 obtain ⟨W1, hW1⟩ : ∃ W1, W1 = (w.alloc (.cells #[u] 25)).alloc (.cells #[.nilIface] 25) := ⟨_, rfl⟩
 have HB := Lib.hid (show Below w.heap.size w W1 by rw [hW1]; exact (below_new _ _).alloc (by simp) _)
 have HA := Lib.hid (show At1 W1 w.heap.size u by rw [hW1]; exact (At1.new w _ _).below (below_new _ _))
 have HR := Lib.hid (show At1 W1 (w.heap.size + 1) .nilIface by rw [hW1]; have := At1.new (w.alloc (.cells #[u] 25)) .nilIface 25; simpa using this)
 have HU := Lib.hid (show IsV W1 (fun b => ok b ∧ b < w.heap.size) u V from (hA.wide (ok' := fun b => ok b ∧ b < w.heap.size) (fun b hb h => ⟨h, hb⟩)).grow HB.out)
 have HT := Lib.hid (show TabAt W1 from fun j hj => keep_below HB.out _ _ (hT j hj))
 have HWS := Lib.hid (show W1.heap.size = w.heap.size + 2 by rw [hW1]; simp)
 have HW1 := Lib.hid (Below.refl W1.heap.size W1)
 obtain ⟨M, hM⟩ : ∃ M : Nat, (if (inner : Int) < (if (n : Int) < (outer : Int) then (n : Int) else (outer : Int)) then (inner : Int) else (if (n : Int) < (outer : Int) then (n : Int) else (outer : Int))) = (M : Int) := ⟨_, (Int.toNat_of_nonneg (by (repeat' split) <;> omega)).symm⟩
 have hmin : ∀ (ts : Array TypeId) (t : TypeId) (w : World), (Builtin.min_ ts t #[.int .i64 (outer : Int), .int .i64 (n : Int), .int .i64 (inner : Int)]).run Tryz.prog w = .ok (.int .i64 (M : Int)) w := fun ts t w => by rw [run_min_int3, hM]
 have h1 : ¬ (M : Int) < 0 := by omega
 have hfold := hW1.symm
 clear hi1 hA hT oA nA hl hW1 hEE hRR hno him hom hM
 by_cases hk : fknown f = true
 rotate_left
 ·have HKN := Lib.hid (show fknown f = false by simpa using hk)
  have HE1 := Lib.hid (scE_1 (V := V) (outer := outer) (n := n) (inner := inner) HKN.out)
  clear hk; have cHA0 := HA.out.2.1; have cHR0 := HR.out.2.1; have zHR0 := HR.out.2.2 0
  go_enter Tryz.func9, Tryz.ntmps9
  go_wp2_with ((with_reducible refine (foknown_calls _ _).mono ?_); rintro e w' ⟨rfl, rfl⟩; rw [HKN.out])
  clear hfold
  refine bodyPost_ret (v := .tuple #[.agg #[.nilIface], .int .i64 1]) (by simp [results, Tryz.results9, go_sem, cHR0]) rfl ⟨.nilIface, by rw [HEE.out, HE1.out], ?_, HB.out.setCell (by show w.heap.size ≤ w.heap.size + 1; omega) _⟩
  rw [HRR.out, scV_bad (by rw [HE1.out]; decide)]; exact .none
 have HKN := Lib.hid hk
 obtain ⟨q, hq⟩ : ∃ q, decide (V.cls = 0 ∨ (V.cls = 1 ∧ (n : Int) ≤ 1)) = q := ⟨_, rfl⟩
 have HQ0 := Lib.hid hq
 cases q
 ·have HE1 := Lib.hid (show scE f V outer n inner = 24 from scE_24 hk (by
   have h9 := of_decide_eq_false hq
   rcases VV.cls3 V with h | h | h
   ·exact absurd (.inl h) h9
   ·exact .inr ⟨h, Nat.lt_of_not_le fun h8 => h9 (.inr ⟨h, by omega⟩)⟩
   ·exact .inl h))
  clear hk hq; have cHA0 := HA.out.2.1; have cHR0 := HR.out.2.1; have zHR0 := HR.out.2.2 0
  go_enter Tryz.func9, Tryz.ntmps9
  go_wp2_with ((with_reducible refine (foknown_calls _ _).mono ?_); rintro e w' ⟨rfl, rfl⟩; rw [HKN.out])
  clear hfold
  refine (class_calls _ V _ HU.out).mono ?_
  rintro e W11 ⟨rfl, hB⟩
  clear cHA0 cHR0 zHR0; replace HB := cb hB HB; replace HW1 := cb hB HW1; replace HT := HT.go hB; replace HU := HU.go hB; replace HA := HA.go hB; replace HR := HR.go hB; clear hB; have cHA0 := HA.out.2.1; have cHR0 := HR.out.2.1; have zHR0 := HR.out.2.2 0
  go_wp2_with fail
  refine (scall_calls _ _ _).mono ?_
  rintro e w' ⟨rfl, rfl⟩
  rw [HQ0.out]
  go_wp2_with fail
  refine bodyPost_ret (v := .tuple #[.agg #[.nilIface], .int .i64 24]) (by simp [results, Tryz.results9, go_sem, cHR0]) rfl ⟨.nilIface, by rw [HEE.out, HE1.out], ?_, HB.out.setCell (by show w.heap.size ≤ w.heap.size + 1; omega) _⟩
  rw [HRR.out, scV_bad (by rw [HE1.out]; decide)]; exact .none
 ·by_cases h11 : n ≤ 1
  ·have HE1 := Lib.hid (show scE f V outer n inner = 0 from scE_one hk (by have h9 := of_decide_eq_true hq; omega) h11)
   have HV1 := Lib.hid (show R = V by rw [HRR.out, scV_one HE1.out h11])
   have hb1 : (n : Int) ≤ 1 := by omega
   clear hk hq h11; have cHA0 := HA.out.2.1; have cHR0 := HR.out.2.1; have zHR0 := HR.out.2.2 0
   go_enter Tryz.func9, Tryz.ntmps9
   go_wp2_with ((with_reducible refine (foknown_calls _ _).mono ?_); rintro e w' ⟨rfl, rfl⟩; rw [HKN.out])
   clear hfold
   refine (class_calls _ V _ HU.out).mono ?_
   rintro e W11 ⟨rfl, hB⟩
   clear cHA0 cHR0 zHR0; replace HB := cb hB HB; replace HW1 := cb hB HW1; replace HT := HT.go hB; replace HU := HU.go hB; replace HA := HA.go hB; replace HR := HR.go hB; clear hB; have cHA0 := HA.out.2.1; have cHR0 := HR.out.2.1; have zHR0 := HR.out.2.2 0
   go_wp2_with fail
   refine (scall_calls _ _ _).mono ?_
   rintro e w' ⟨rfl, rfl⟩
   rw [HQ0.out]
   go_wp2_with fail
   refine bodyPost_ret (v := .tuple #[.agg #[u], .int .i64 0]) (by simp [results, Tryz.results9, go_sem, cHR0]) rfl ⟨u, by rw [HEE.out, HE1.out], ?_, HB.out.setCell (by show w.heap.size ≤ w.heap.size + 1; omega) _⟩
   rw [HV1.out]
   exact HU.out.keep (Kept.setCell _ _ _ (by simp)) (fun b _ h => trivial)
  have hb1 : ¬ (n : Int) ≤ 1 := by omega
  have HC0 := Lib.hid (show V.cls = 0 by have h9 := of_decide_eq_true hq; omega)
  have HNL := Lib.hid (show V.nums.length = outer * n * inner by rw [VV.nums_len0 HC0.out, HLL.out])
  have HLE := Lib.hid (show (V.len : Int) = ((outer * n * inner : Nat) : Int) by rw [HLL.out])
  have HSZ := Lib.hid (show outer * n * inner ≤ 1048576 by rw [← HLL.out]; exact HVM.out)
  have HN0 := Lib.hid (show 0 < n by omega)
  obtain ⟨P, hP⟩ : ∃ P, upRows V.nums outer n inner = P := ⟨_, rfl⟩
  have HPE := Lib.hid hP
  have HE1 := Lib.hid (show scE f V outer n inner = errG (rowN f) P by rw [scE_num hk HC0.out (by omega), hP])
  have HV1 := Lib.hid (show R = if errG (rowN f) P = 0 then sqL (outG (rowN f) P) else .none by
   rw [HRR.out]
   split
   ·rename_i h; rw [scV_num (by rw [HE1.out]; exact h) (by omega), hP]
   ·rename_i h; exact scV_bad (by rw [HE1.out]; exact h))
  have HNN := Lib.hid (VV.nums_num HOA.out HNA.out)
  clear hk hq h11 hP; have cHA0 := HA.out.2.1; have cHR0 := HR.out.2.1; have zHR0 := HR.out.2.2 0
  go_enter Tryz.func9, Tryz.ntmps9
  go_wp2_with ((with_reducible refine (foknown_calls _ _).mono ?_); rintro e w' ⟨rfl, rfl⟩; rw [HKN.out])
  clear hfold
  refine (class_calls _ V _ HU.out).mono ?_
  rintro e W11 ⟨rfl, hB⟩
  clear cHA0 cHR0 zHR0; replace HB := cb hB HB; replace HW1 := cb hB HW1; replace HT := HT.go hB; replace HU := HU.go hB; replace HA := HA.go hB; replace HR := HR.go hB; clear hB; have cHA0 := HA.out.2.1; have cHR0 := HR.out.2.1; have zHR0 := HR.out.2.2 0
  go_wp2_with fail
  refine (scall_calls _ _ _).mono ?_
  rintro e w' ⟨rfl, rfl⟩
  rw [HQ0.out]
  go_wp2_with fail
  refine (vlen_calls _ V _ HU.out).mono ?_
  rintro e W12 ⟨rfl, hB⟩
  clear cHA0 cHR0 zHR0; replace HB := cb hB HB; replace HW1 := cb hB HW1; replace HT := HT.go hB; replace HU := HU.go hB; replace HA := HA.go hB; replace HR := HR.go hB; rw [HLE.out]; clear hB; have cHA0 := HA.out.2.1; have cHR0 := HR.out.2.1; have zHR0 := HR.out.2.2 0
  go_wp2_with fail
  refine (scsized_calls outer n inner _ HSZ.out HN0.out HNO.out HOM.out HIM.out).mono ?_
  rintro e w' ⟨rfl, rfl⟩
  go_wp2_with fail
  refine (vlen_calls _ V _ HU.out).mono ?_
  rintro e W13 ⟨rfl, hB⟩
  clear cHA0 cHR0 zHR0; replace HB := cb hB HB; replace HW1 := cb hB HW1; replace HT := HT.go hB; replace HU := HU.go hB; replace HA := HA.go hB; replace HR := HR.go hB; clear hB; have cHA0 := HA.out.2.1; have cHR0 := HR.out.2.1; have zHR0 := HR.out.2.2 0
  by_cases h00 : V.len = 0
  ·have hb0 : ((V.len : Int) == 0) = true := by rw [h00]; rfl
   have HP0 := Lib.hid (show P = [] from List.eq_nil_of_length_eq_zero (by rw [← HPE.out, upRows_len, ← HLL.out]; exact h00))
   have HR0 := Lib.hid (show R = .bits [] by rw [HV1.out, HP0.out]; exact (bits_sq (l := []) (by decide)).symm)
   clear h00
   go_wp2_with fail
   refine (vnone_calls 0 _).mono ?_
   rintro e W14 ⟨uq, rfl, huq, hB⟩
   clear cHA0 cHR0 zHR0; replace HB := cb hB HB; replace HW1 := cb hB HW1; replace HT := HT.go hB; replace HU := HU.go hB; replace HA := HA.go hB; replace HR := HR.go hB; have HQ := Lib.hid huq; have hsq := huq.store; clear huq; clear hB; have cHA0 := HA.out.2.1; have cHR0 := HR.out.2.1; have zHR0 := HR.out.2.2 0
   go_wp2_with fail
   refine bodyPost_ret (v := .tuple #[.agg #[uq], .int .i64 0]) (by simp [results, Tryz.results9, go_sem, cHR0]) rfl ⟨uq, by rw [HEE.out, HE1.out, HP0.out]; rfl, ?_, HB.out.setCell (by show w.heap.size ≤ w.heap.size + 1; omega) _⟩
   rw [HR0.out]
   exact HQ.out.any.bits_set HR.out.2.1 (.inl rfl) _
  have hb0 : ((V.len : Int) == 0) = false := by rw [beq_eq_false_iff_ne]; omega
  have HLP := Lib.hid (show 0 < V.len by omega)
  clear h00
  go_wp2_with fail
  refine (packed_x _ V _ HU.out).mono ?_
  rintro e W14 ⟨vp, rfl, hvp, hB⟩
  clear cHA0 cHR0 zHR0; replace HB := cb hB HB; replace HW1 := cb hB HW1; replace HT := HT.go hB; replace HU := HU.go hB; replace HA := HA.go hB; replace HR := HR.go hB; have HVP := Lib.hid hvp.bits
  obtain ⟨ap, cp, rfl, _⟩ := HVP.out.opened
  clear hvp; clear hB
  obtain ⟨W15, hWn, hB, hNB⟩ := ahd2 W14 (.int .i64 V.packed.length) (.slice ap ((V.packed.length + 63) / 64) cp) 63
  replace HB := cb hB HB; replace HW1 := cb hB HW1; replace HT := HT.go hB; replace HU := HU.go hB; replace HA := HA.go hB; replace HR := HR.go hB; replace HVP := HVP.go hB; have HP := Lib.hid hNB; clear hNB hB; have cHA0 := HA.out.2.1; have cHR0 := HR.out.2.1; have zHR0 := HR.out.2.2 0; have cHP0 := HP.out.2.1; have cHP1 := HP.out.2.2.1
  obtain ⟨bt, hbt⟩ : ∃ bt, V.isBit = bt := ⟨_, rfl⟩
  rw [hbt]
  cases bt
  ·clear hbt
   go_wp2_with fail
   clear hWn
   refine (vnums_calls _ V _ HU.out HOA.out HT.out).mono ?_
   rintro e W16 ⟨vn, rfl, hvn, hB⟩
   clear cHA0 cHR0 zHR0 cHP0 cHP1; replace HB := cb hB HB; replace HW1 := cb hB HW1; replace HT := HT.go hB; replace HU := HU.go hB; replace HA := HA.go hB; replace HR := HR.go hB; replace HVP := HVP.go hB; replace HP := HP.go hB; have HVN := Lib.hid hvn.any; clear hvn; clear hB; have cHA0 := HA.out.2.1; have cHR0 := HR.out.2.1; have zHR0 := HR.out.2.2 0; have cHP0 := HP.out.2.1; have cHP1 := HP.out.2.2.1
   go_wp2_with fail
   have hO := HW1.out.size
   refine (scnumbers_calls f _ V.nums outer n inner _ HKN.out HVN.out HNL.out (by rw [HNL.out]; exact HSZ.out) HNN.out HN0.out HNO.out HIM.out HOM.out HT.out).mono ?_
   rintro e W17 ⟨uq, rfl, huq, hB⟩
   clear cHA0 cHR0 zHR0 cHP0 cHP1; replace HB := cb hB HB; replace HW1 := cb hB HW1; replace HT := HT.go hB; replace HU := HU.go hB; replace HA := HA.go hB; replace HR := HR.go hB; replace HVP := HVP.go hB; replace HP := HP.go hB; replace HVN := HVN.go hB
   rw [HPE.out] at huq ⊢
   rw [← HV1.out] at huq
   rw [← HE1.out, ← HEE.out]
   have HQ := Lib.hid (show IsV W17 (fun b => w.heap.size + 2 ≤ b) uq R from huq.wide (fun b _ (h : W16.heap.size ≤ b) => by have := HWS.out; omega))
   have hsq := huq.store; clear huq hO; clear hB; have cHA0 := HA.out.2.1; have cHR0 := HR.out.2.1; have zHR0 := HR.out.2.2 0; have cHP0 := HP.out.2.1; have cHP1 := HP.out.2.2.1
   go_wp2_with fail
   refine bodyPost_ret (v := .tuple #[.agg #[uq], .int .i64 E]) (by simp [results, Tryz.results9, go_sem, cHR0]) rfl ⟨uq, rfl, ?_, HB.out.setCell (by show w.heap.size ≤ w.heap.size + 1; omega) _⟩
   exact HQ.out.keep (Kept.setCell _ _ _ (by simp)) (fun b _ (h : w.heap.size + 2 ≤ b) => trivial)
  ·have HPL := Lib.hid (VV.bit_nums hbt)
   have HPK := Lib.hid (show V.packed.length = outer * n * inner by rw [HPL.out.2.1, HLL.out])
   clear hbt
   go_wp2_with fail
   clear hWn; have hO := HW1.out.size
   refine (scflags1_calls f _ V.packed outer n inner _ HVP.out (by rw [HPK.out]; exact HSZ.out) HPK.out (by rw [HPL.out.2.1]; exact HLP.out) HNO.out HIM.out HI1.out HT.out).mono ?_
   rintro e W16 ⟨uz, r, rfl, hr, hB⟩
   clear cHA0 cHR0 zHR0 cHP0 cHP1; replace HB := cb hB HB; replace HW1 := cb hB HW1; replace HT := HT.go hB; replace HU := HU.go hB; replace HA := HA.go hB; replace HR := HR.go hB; replace HVP := HVP.go hB; replace HP := HP.go hB
   have HSO := Lib.hid (show w.heap.size + 2 ≤ W15.heap.size by have := HWS.out; omega)
   clear hO; clear hB
   rcases hr with ⟨rfl, t, htc, hi⟩ | ⟨rfl, hz⟩
   ·have HUF := Lib.hid (ups_flags htc V.packed outer n inner HN0.out)
    have HI := Lib.hid hi
    have HEZ := Lib.hid (show errG (rowN f) P = 0 by rw [← HPE.out, HPL.out.1]; exact HUF.out.1)
    have HRZ := Lib.hid (show R = .bits (upB t V.packed outer n inner) by
     rw [HV1.out, if_pos HEZ.out, ← HPE.out, HPL.out.1, HUF.out.2]
     exact (bits_sq (by rw [upB_len]; exact HSZ.out)).symm)
    have hsz := hi.store; clear hi htc
    obtain ⟨W17, hWn, hB, hNB⟩ := ahd1 W16 (uz) 25
    replace HB := cb hB HB; replace HW1 := cb hB HW1; replace HT := HT.go hB; replace HU := HU.go hB; replace HA := HA.go hB; replace HR := HR.go hB; replace HVP := HVP.go hB; replace HP := HP.go hB; replace HI := HI.go hB; have HZA := Lib.hid hNB; clear hNB hB; have cHA0 := HA.out.2.1; have cHR0 := HR.out.2.1; have zHR0 := HR.out.2.2 0; have cHP0 := HP.out.2.1; have cHP1 := HP.out.2.2.1; have cHZA0 := HZA.out.2.1
    go_wp2_with fail
    clear hWn
    refine bodyPost_ret (v := .tuple #[.agg #[uz], .int .i64 0]) (by simp [results, Tryz.results9, go_sem, cHR0]) rfl ⟨uz, by rw [HEE.out, HE1.out, HEZ.out], ?_, HB.out.setCell (by show w.heap.size ≤ w.heap.size + 1; omega) _⟩
    rw [HRZ.out]
    exact HI.out.bits_set HR.out.2.1 (.inl rfl) _
   ·have hsz : ∀ (w : World) (a : Addr) (m : Mode), (store a uz m).run Tryz.prog w = stored Tryz.prog w a uz m := by subst hz; exact fun w a m => run_store Tryz.prog w a _ m rfl
    clear hz
    obtain ⟨W17, hWn, hB, hNB⟩ := ahd1 W16 (uz) 25
    replace HB := cb hB HB; replace HW1 := cb hB HW1; replace HT := HT.go hB; replace HU := HU.go hB; replace HA := HA.go hB; replace HR := HR.go hB; replace HVP := HVP.go hB; replace HP := HP.go hB; have HZA := Lib.hid hNB; clear hNB hB; have cHA0 := HA.out.2.1; have cHR0 := HR.out.2.1; have zHR0 := HR.out.2.2 0; have cHP0 := HP.out.2.1; have cHP1 := HP.out.2.2.1; have cHZA0 := HZA.out.2.1
    go_wp2_with fail
    clear hWn
    refine (vnums_calls _ V _ HU.out HOA.out HT.out).mono ?_
    rintro e W18 ⟨vn, rfl, hvn, hB⟩
    clear cHA0 cHR0 zHR0 cHP0 cHP1 cHZA0; replace HB := cb hB HB; replace HW1 := cb hB HW1; replace HT := HT.go hB; replace HU := HU.go hB; replace HA := HA.go hB; replace HR := HR.go hB; replace HVP := HVP.go hB; replace HP := HP.go hB; replace HZA := HZA.go hB; have HVN := Lib.hid hvn.any; clear hvn; clear hB; have cHA0 := HA.out.2.1; have cHR0 := HR.out.2.1; have zHR0 := HR.out.2.2 0; have cHP0 := HP.out.2.1
    have cHP1 := HP.out.2.2.1; have cHZA0 := HZA.out.2.1
    go_wp2_with fail
    have hO := HW1.out.size
    refine (scnumbers_calls f _ V.nums outer n inner _ HKN.out HVN.out HNL.out (by rw [HNL.out]; exact HSZ.out) HNN.out HN0.out HNO.out HIM.out HOM.out HT.out).mono ?_
    rintro e W19 ⟨uq, rfl, huq, hB⟩
    clear cHA0 cHR0 zHR0 cHP0 cHP1 cHZA0; replace HB := cb hB HB; replace HW1 := cb hB HW1; replace HT := HT.go hB; replace HU := HU.go hB; replace HA := HA.go hB; replace HR := HR.go hB; replace HVP := HVP.go hB; replace HP := HP.go hB; replace HZA := HZA.go hB; replace HVN := HVN.go hB
    rw [HPE.out] at huq ⊢
    rw [← HV1.out] at huq
    rw [← HE1.out, ← HEE.out]
    have HQ := Lib.hid (show IsV W19 (fun b => w.heap.size + 2 ≤ b) uq R from huq.wide (fun b _ (h : W18.heap.size ≤ b) => by have := HWS.out; omega))
    have hsq := huq.store; clear huq hO; clear hB; have cHA0 := HA.out.2.1; have cHR0 := HR.out.2.1; have zHR0 := HR.out.2.2 0; have cHP0 := HP.out.2.1; have cHP1 := HP.out.2.2.1; have cHZA0 := HZA.out.2.1
    go_wp2_with fail
    refine bodyPost_ret (v := .tuple #[.agg #[uq], .int .i64 E]) (by simp [results, Tryz.results9, go_sem, cHR0]) rfl ⟨uq, rfl, ?_, HB.out.setCell (by show w.heap.size ≤ w.heap.size + 1; omega) _⟩
    exact HQ.out.keep (Kept.setCell _ _ _ (by simp)) (fun b _ (h : w.heap.size + 2 ≤ b) => trivial)
theorem scscan1_at {ok : Nat → Prop} (f : Int) (u : Value) (V : VV) (outer n inner : Nat) (o nn ii : Int) (w : World) (ho : o = (outer : Int)) (hn : nn = (n : Int)) (hi : ii = (inner : Int)) (hA : IsV w ok u V) (oA : V.ok) (nA : V.nm) (hl : V.len = outer * n * inner) (hno : n ≤ 1048576) (him : inner ≤ 1048576) (hom : outer ≤ 1048576) (hi1 : inner = 1) (hT : TabAt w) :
  Calls Tryz.prog 9 #[.int .i64 f, .agg #[u], .int .i64 o, .int .i64 nn, .int .i64 ii] w fun e w' => ∃ u', e = .returned (.tuple #[.agg #[u'], .int .i64 (scE f V outer n inner)]) ∧ IsV w' (fun _ => True) u' (scV f V outer n inner) ∧ Below w.heap.size w w' := by
 subst ho hn hi
 exact scscan1_calls f u V outer n inner w hA oA nA hl hno him hom hi1 hT
end Go.Proofs.YtbacchbcanlciaaGreatDoor

namespace Go.Proofs.YtbacchbcanlciaaGreatDoor
set_option maxRecDepth 100000
open Go.RowKit Fl
set_option linter.unusedVariables false

def Yes14 (w : World) (e : Ending) (w' : World) : Prop := e = .returned (.bool true) ∧ Below w.heap.size w w'
theorem aw14_fin : ∀ x ∈ ([4607182418800017408, 4611686018427387904, 4613937818241073152] : List Nat), Fnt x := by
 intro x hx
 simp only [List.mem_cons, List.not_mem_nil, or_false] at hx
 rcases hx with rfl | rfl | rfl <;> exact ⟨by decide, by decide⟩
theorem aw14_ze : ([4607182418800017408, 4611686018427387904, 4613937818241073152] : List Nat).map ze = [4607182418800017408, 4611686018427387904, 4613937818241073152] := by decide +kernel
theorem fone_rt1 (a b : Nat) : fone 1 a b = rs (addw a b) := by rw [fone_a a b (by decide)]; unfold oneA; rw [if_pos rfl]
theorem fone_rt2 (a b : Nat) : fone 2 a b = rs (subw a b) := by rw [fone_a a b (by decide)]; unfold oneA; rw [if_neg (by decide), if_pos rfl]
theorem aw14_rows : upRows [4607182418800017408, 4611686018427387904, 4613937818241073152] 1 3 1 = [[4607182418800017408], [4607182418800017408, 4611686018427387904], [4607182418800017408, 4611686018427387904, 4613937818241073152]] := by decide +kernel
theorem aw14_of {f : Int} {a b c : Nat} (h1 : rowN f [4607182418800017408] = (a, 0)) (h2 : rowN f [4607182418800017408, 4611686018427387904] = (b, 0)) (h3 : rowN f [4607182418800017408, 4611686018427387904, 4613937818241073152] = (c, 0)) : errG (rowN f) (upRows [4607182418800017408, 4611686018427387904, 4613937818241073152] 1 3 1) = 0 ∧ outG (rowN f) (upRows [4607182418800017408, 4611686018427387904, 4613937818241073152] 1 3 1) = [a, b, c] := by
 rw [aw14_rows]
 refine ⟨errG_all fun r h => ?_, ?_⟩
 ·simp only [List.mem_cons, List.not_mem_nil, or_false] at h
  rcases h with rfl | rfl | rfl
  ·rw [h1]
  ·rw [h2]
  ·rw [h3]
 ·show [(rowN f _).1, (rowN f _).1, (rowN f _).1] = _
  rw [h1, h2, h3]
theorem aw14_a : errG (rowN 1) (upRows [4607182418800017408, 4611686018427387904, 4613937818241073152] 1 3 1) = 0 ∧ outG (rowN 1) (upRows [4607182418800017408, 4611686018427387904, 4613937818241073152] 1 3 1) = [4607182418800017408, 4613937818241073152, 4618441417868443648] := by
 have e1 : rs (addw 4607182418800017408 4611686018427387904) = (4613937818241073152, 0) := by decide +kernel
 have e2 : rs (addw 4611686018427387904 4613937818241073152) = (4617315517961601024, 0) := by decide +kernel
 have e3 : rs (addw 4607182418800017408 4617315517961601024) = (4618441417868443648, 0) := by decide +kernel
 have h0 : rowN 1 [4611686018427387904] = (4611686018427387904, 0) := rfl
 have h00 : rowN 1 [4613937818241073152] = (4613937818241073152, 0) := rfl
 refine aw14_of rfl ?_ ?_
 ·rw [rowN_cons 1 _ (by simp), h0]; simp only [fone_rt1, e1, nrm, if_true]
 ·rw [rowN_cons 1 _ (by simp), rowN_cons 1 _ (by simp), h00]; simp only [fone_rt1, e2, e3, nrm, if_true]
theorem aw14_b : errG (rowN 2) (upRows [4607182418800017408, 4611686018427387904, 4613937818241073152] 1 3 1) = 0 ∧ outG (rowN 2) (upRows [4607182418800017408, 4611686018427387904, 4613937818241073152] 1 3 1) = [4607182418800017408, 13830554455654793216, 4611686018427387904] := by
 have e1 : rs (subw 4607182418800017408 4611686018427387904) = (13830554455654793216, 0) := by decide +kernel
 have e2 : rs (subw 4611686018427387904 4613937818241073152) = (13830554455654793216, 0) := by decide +kernel
 have e3 : rs (subw 4607182418800017408 13830554455654793216) = (4611686018427387904, 0) := by decide +kernel
 have h0 : rowN 2 [4611686018427387904] = (4611686018427387904, 0) := rfl
 have h00 : rowN 2 [4613937818241073152] = (4613937818241073152, 0) := rfl
 refine aw14_of rfl ?_ ?_
 ·rw [rowN_cons 2 _ (by simp), h0]; simp only [fone_rt2, e1, nrm, if_true]
 ·rw [rowN_cons 2 _ (by simp), rowN_cons 2 _ (by simp), h00]; simp only [fone_rt2, e2, e3, nrm, if_true]
theorem aw14 {V : VV} (h : KepK [4607182418800017408, 4611686018427387904, 4613937818241073152] V) : V.len = 3 ∧ (scE 1 V 1 3 1 = 0 ∧ (scV 1 V 1 3 1).nums = [4607182418800017408, 4613937818241073152, 4618441417868443648] ∧ (scV 1 V 1 3 1).ok) ∧ (scE 2 V 1 3 1 = 0 ∧ (scV 2 V 1 3 1).nums = [4607182418800017408, 13830554455654793216, 4611686018427387904] ∧ (scV 2 V 1 3 1).ok) := by
 obtain ⟨⟨h1, h2, h3, h4, h5⟩, h6⟩ := h
 have ea : scE 1 V 1 3 1 = 0 := by rw [scE_num (by decide) h3 (by decide), h4]; exact aw14_a.1
 have eb : scE 2 V 1 3 1 = 0 := by rw [scE_num (by decide) h3 (by decide), h4]; exact aw14_b.1
 have hl : V.nums.length = 1 * 3 * 1 := by rw [h4]; rfl
 obtain ⟨ma, ka⟩ := scan_meet (f := 1) h1 h2 h3 hl
 obtain ⟨mb, kb⟩ := scan_meet (f := 2) h1 h2 h3 hl
 refine ⟨h5, ⟨ea, ?_, (ka ea).2.1⟩, ⟨eb, ?_, (kb eb).2.1⟩⟩
 ·rw [(ka ea).1, rsL_yes (by rw [← ma]; exact ea), h4]; exact aw14_a.2
 ·rw [(kb eb).1, rsL_yes (by rw [← mb]; exact eb), h4]; exact aw14_b.2
set_option maxHeartbeats 8000000 in
theorem awake14_calls (w : World) (hT : TabAt w) : Calls Tryz.prog 6 #[] w (Yes14 w) := by
 obtain ⟨W1, hW1⟩ : ∃ W1, W1 = w.alloc (.cells #[.float .f64 4607182418800017408, .float .f64 4611686018427387904, .float .f64 4613937818241073152] 42) := ⟨_, rfl⟩
 have HB := Lib.hid (show Below w.heap.size w W1 by rw [hW1]; exact below_new _ _)
 have HV := Lib.hid (show Slc W1 (fun _ => True) (.slice (some ⟨w.heap.size, 0, none⟩) 3 3) [4607182418800017408, 4611686018427387904, 4613937818241073152].length (f64s [4607182418800017408, 4611686018427387904, 4613937818241073152]) by
  rw [hW1]; exact (Slc.owned (World.ownsRow_lit (base := 0) (e := 42) (size := 1) w #[.float .f64 4607182418800017408, .float .f64 4611686018427387904, .float .f64 4613937818241073152] 3 (Nat.zero_le _) (by unfold maxLen; omega) rfl)).keep (Kept.refl _ _) (fun _ _ _ => trivial))
 have HT := Lib.hid (show TabAt W1 from fun j hj => keep_below HB.out _ _ (hT j hj))
 have hfold := hW1.symm
 clear hW1 hT
 go_enter Tryz.func6, Tryz.ntmps6
 go_wp2_with fail
 clear hfold
 refine (kept14_yes _ [4607182418800017408, 4611686018427387904, 4613937818241073152] 2 _ HV.out (by decide) aw14_fin HT.out).mono ?_
 rintro e W11 ⟨u, V, rfl, hu, hk, hB⟩
 replace HB := cb hB HB; replace HT := HT.go hB; replace HV := HV.go hB; have HU := Lib.hid (IsV.any hu)
 have HK := Lib.hid (show KepK [4607182418800017408, 4611686018427387904, 4613937818241073152] V from hk _ (congrArg some aw14_ze))
 have hsu := hu.store; clear hu hk; clear hB; clear HV
 obtain ⟨W12, hWn, hB, hNB⟩ := ahd1 W11 (u) 25
 replace HB := cb hB HB; replace HT := HT.go hB; replace HU := HU.go hB; have HA := Lib.hid hNB; clear hNB hB; have cHA0 := HA.out.2.1
 go_wp2_with fail
 clear hWn
 have HS := Lib.hid (aw14 HK.out)
 refine (scscan1_at 1 _ V 1 3 1 _ _ _ _ rfl rfl rfl HU.out HK.out.1.1 HK.out.1.2.1 (by rw [HS.out.1]) (by decide) (by decide) (by decide) rfl HT.out).mono ?_
 rintro e W13 ⟨ua, rfl, hua, hB⟩
 clear cHA0; replace HB := cb hB HB; replace HT := HT.go hB; replace HU := HU.go hB; replace HA := HA.go hB
 rw [HS.out.2.1.1]
 have HUA := Lib.hid hua; have hsua := hua.store; clear hua; clear hB
 obtain ⟨W14, hWn, hB, hNB⟩ := ahd1 W13 (ua) 25
 replace HB := cb hB HB; replace HT := HT.go hB; replace HU := HU.go hB; replace HA := HA.go hB; replace HUA := HUA.go hB; have HAA := Lib.hid hNB; clear hNB hB; have cHA0 := HA.out.2.1; have cHAA0 := HAA.out.2.1
 go_wp2_with fail
 clear hWn
 refine (scscan1_at 2 _ V 1 3 1 _ _ _ _ rfl rfl rfl HU.out HK.out.1.1 HK.out.1.2.1 (by rw [HS.out.1]) (by decide) (by decide) (by decide) rfl HT.out).mono ?_
 rintro e W15 ⟨ub, rfl, hub, hB⟩
 clear cHA0 cHAA0; replace HB := cb hB HB; replace HT := HT.go hB; replace HU := HU.go hB; replace HA := HA.go hB; replace HUA := HUA.go hB; replace HAA := HAA.go hB
 rw [HS.out.2.2.1]
 have HUB := Lib.hid hub; have hsub := hub.store; clear hub; clear hB
 obtain ⟨W16, hWn, hB, hNB⟩ := ahd1 W15 (ub) 25
 replace HB := cb hB HB; replace HT := HT.go hB; replace HU := HU.go hB; replace HA := HA.go hB; replace HUA := HUA.go hB; replace HAA := HAA.go hB; replace HUB := HUB.go hB; have HBB := Lib.hid hNB; clear hNB hB; have cHA0 := HA.out.2.1; have cHAA0 := HAA.out.2.1; have cHBB0 := HBB.out.2.1
 go_wp2_with fail
 clear hWn
 refine (vnums_calls _ (scV 1 V 1 3 1) _ HUA.out HS.out.2.1.2.2 HT.out).mono ?_
 rintro e W17 ⟨va, rfl, hva, hB⟩
 clear cHA0 cHAA0 cHBB0; replace HB := cb hB HB; replace HT := HT.go hB; replace HU := HU.go hB; replace HA := HA.go hB; replace HUA := HUA.go hB; replace HAA := HAA.go hB; replace HUB := HUB.go hB; replace HBB := HBB.go hB
 rw [HS.out.2.1.2.1] at hva
 have Hva := Lib.hid hva.any; clear hva; clear hB; have cHA0 := HA.out.2.1; have cHAA0 := HAA.out.2.1; have cHBB0 := HBB.out.2.1
 go_wp2_with fail
 obtain ⟨W18, hWn⟩ : ∃ xw9, W17.alloc (.cells #[.float .f64 4607182418800017408, .float .f64 4613937818241073152, .float .f64 4618441417868443648] 42) = xw9 := ⟨_, rfl⟩
 have hB : Below W17.heap.size W17 W18 := by rw [← hWn]; exact below_new _ _
 have hNB : Slc W18 (fun _ => True) (.slice (some ⟨W17.heap.size, 0, none⟩) 3 3) 3 (f64s [4607182418800017408, 4613937818241073152, 4618441417868443648]) := by
  rw [← hWn]; exact (Slc.owned (World.ownsRow_lit (base := 0) (e := 42) (size := 1) W17 #[.float .f64 4607182418800017408, .float .f64 4613937818241073152, .float .f64 4618441417868443648] 3 (Nat.zero_le _) (by unfold maxLen; omega) rfl)).keep (Kept.refl _ _) (fun _ _ _ => trivial)
 rw [hWn]; clear hWn; clear cHA0 cHAA0 cHBB0; replace HB := cb hB HB; replace HT := HT.go hB; replace HU := HU.go hB; replace HA := HA.go hB; replace HUA := HUA.go hB; replace HAA := HAA.go hB; replace HUB := HUB.go hB; replace HBB := HBB.go hB; replace Hva := Hva.go hB; have HLva := Lib.hid hNB; clear hNB hB
 refine (floats_same _ _ [4607182418800017408, 4613937818241073152, 4618441417868443648] _ Hva.out HLva.out (by decide) (by intro x hx; simp only [List.mem_cons, List.not_mem_nil, or_false] at hx; rcases hx with rfl | rfl | rfl <;> exact ⟨⟨by decide, by decide⟩, by decide +kernel⟩)).mono ?_
 rintro e W19 ⟨rfl, hB⟩
 replace HB := cb hB HB; replace HT := HT.go hB; replace HU := HU.go hB; replace HA := HA.go hB; replace HUA := HUA.go hB; replace HAA := HAA.go hB; replace HUB := HUB.go hB; replace HBB := HBB.go hB; replace Hva := Hva.go hB; replace HLva := HLva.go hB; clear hB; have cHA0 := HA.out.2.1; have cHAA0 := HAA.out.2.1; have cHBB0 := HBB.out.2.1
 go_wp2_with fail
 refine (vnums_calls _ (scV 2 V 1 3 1) _ HUB.out HS.out.2.2.2.2 HT.out).mono ?_
 rintro e W20 ⟨vb, rfl, hvb, hB⟩
 clear cHA0 cHAA0 cHBB0; replace HB := cb hB HB; replace HT := HT.go hB; replace HU := HU.go hB; replace HA := HA.go hB; replace HUA := HUA.go hB; replace HAA := HAA.go hB; replace HUB := HUB.go hB; replace HBB := HBB.go hB; replace Hva := Hva.go hB; replace HLva := HLva.go hB
 rw [HS.out.2.2.2.1] at hvb
 have Hvb := Lib.hid hvb.any; clear hvb; clear hB; have cHA0 := HA.out.2.1; have cHAA0 := HAA.out.2.1; have cHBB0 := HBB.out.2.1
 go_wp2_with fail
 obtain ⟨W21, hWn⟩ : ∃ xw9, W20.alloc (.cells #[.float .f64 4607182418800017408, .float .f64 13830554455654793216, .float .f64 4611686018427387904] 42) = xw9 := ⟨_, rfl⟩
 have hB : Below W20.heap.size W20 W21 := by rw [← hWn]; exact below_new _ _
 have hNB : Slc W21 (fun _ => True) (.slice (some ⟨W20.heap.size, 0, none⟩) 3 3) 3 (f64s [4607182418800017408, 13830554455654793216, 4611686018427387904]) := by
  rw [← hWn]; exact (Slc.owned (World.ownsRow_lit (base := 0) (e := 42) (size := 1) W20 #[.float .f64 4607182418800017408, .float .f64 13830554455654793216, .float .f64 4611686018427387904] 3 (Nat.zero_le _) (by unfold maxLen; omega) rfl)).keep (Kept.refl _ _) (fun _ _ _ => trivial)
 rw [hWn]; clear hWn; clear cHA0 cHAA0 cHBB0; replace HB := cb hB HB; replace HT := HT.go hB; replace HU := HU.go hB; replace HA := HA.go hB; replace HUA := HUA.go hB; replace HAA := HAA.go hB; replace HUB := HUB.go hB; replace HBB := HBB.go hB; replace Hva := Hva.go hB; replace HLva := HLva.go hB; replace Hvb := Hvb.go hB; have HLvb := Lib.hid hNB; clear hNB hB
 refine (floats_same _ _ [4607182418800017408, 13830554455654793216, 4611686018427387904] _ Hvb.out HLvb.out (by decide) (by intro x hx; simp only [List.mem_cons, List.not_mem_nil, or_false] at hx; rcases hx with rfl | rfl | rfl <;> exact ⟨⟨by decide, by decide⟩, by decide +kernel⟩)).mono ?_
 rintro e W22 ⟨rfl, hB⟩
 replace HB := cb hB HB; replace HT := HT.go hB; replace HU := HU.go hB; replace HA := HA.go hB; replace HUA := HUA.go hB; replace HAA := HAA.go hB; replace HUB := HUB.go hB; replace HBB := HBB.go hB; replace Hva := Hva.go hB; replace HLva := HLva.go hB; replace Hvb := Hvb.go hB; replace HLvb := HLvb.go hB; clear hB; have cHA0 := HA.out.2.1; have cHAA0 := HAA.out.2.1; have cHBB0 := HBB.out.2.1
 go_wp2_with fail
 go_ret
 exact ⟨rfl, HB.out⟩
end Go.Proofs.YtbacchbcanlciaaGreatDoor

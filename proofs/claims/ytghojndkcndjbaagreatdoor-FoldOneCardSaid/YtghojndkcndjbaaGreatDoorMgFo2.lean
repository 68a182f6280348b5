/- Merged: FoK, FoQ. -/
import Derived.Test.YtghojndkcndjbaaGreatDoorMgFo1
import Derived.Test.YtghojndkcndjbaaGreatDoorMgKp1
import Derived.Test.YtghojndkcndjbaaGreatDoorMgVe1
import Derived.Test.YtghojndkcndjbaaGreatDoorMgAr1
import Derived.Test.YtghojndkcndjbaaGreatDoorMgRe1
import Derived.Test.YtghojndkcndjbaaGreatDoorMgLo1
import Derived.Test.YtghojndkcndjbaaGreatDoorMgSq1
/- Layer 13's laws: awake. -/
namespace Go.Proofs.YtghojndkcndjbaaGreatDoor
set_option maxRecDepth 100000
open Go.RowKit Fl
set_option linter.unusedVariables false

def Yes13 (w : World) (e : Ending) (w' : World) : Prop := e = .returned (.bool true) ∧ Below w.heap.size w w'
theorem aw13_fin : ∀ x ∈ ([4607182418800017408, 4611686018427387904, 4613937818241073152, 4616189618054758400] : List Nat), Fnt x := by
 intro x hx
 simp only [List.mem_cons, List.not_mem_nil, or_false] at hx
 rcases hx with rfl | rfl | rfl | rfl <;> exact ⟨by decide, by decide⟩
theorem aw13_ze : ([4607182418800017408, 4611686018427387904, 4613937818241073152, 4616189618054758400] : List Nat).map ze = [4607182418800017408, 4611686018427387904, 4613937818241073152, 4616189618054758400] := by decide +kernel
theorem fone_rs1 (a b : Nat) : fone 1 a b = rs (addw a b) := by rw [fone_a a b (by decide)]; unfold oneA; rw [if_pos rfl]
theorem fone_rs2 (a b : Nat) : fone 2 a b = rs (subw a b) := by rw [fone_a a b (by decide)]; unfold oneA; rw [if_neg (by decide), if_pos rfl]
theorem aw13_a : errG (rowN 1) (rowsL [4607182418800017408, 4611686018427387904, 4613937818241073152, 4616189618054758400] 1 4 1) = 0 ∧ outG (rowN 1) (rowsL [4607182418800017408, 4611686018427387904, 4613937818241073152, 4616189618054758400] 1 4 1) = [4621819117588971520] := by
 have e1 : rs (addw 4613937818241073152 4616189618054758400) = (4619567317775286272, 0) := by decide +kernel
 have e2 : rs (addw 4611686018427387904 4619567317775286272) = (4621256167635550208, 0) := by decide +kernel
 have e3 : rs (addw 4607182418800017408 4621256167635550208) = (4621819117588971520, 0) := by decide +kernel
 have hr : rowN 1 [4607182418800017408, 4611686018427387904, 4613937818241073152, 4616189618054758400] = (4621819117588971520, 0) := by
  rw [rowN_cons 1 _ (by simp), rowN_cons 1 _ (by simp), rowN_cons 1 _ (by simp)]
  have h0 : rowN 1 [4616189618054758400] = (4616189618054758400, 0) := rfl
  rw [h0]
  simp only [fone_rs1, e1, e2, e3, nrm, if_true]
 have hl : rowsL [4607182418800017408, 4611686018427387904, 4613937818241073152, 4616189618054758400] 1 4 1 = [[4607182418800017408, 4611686018427387904, 4613937818241073152, 4616189618054758400]] := by decide +kernel
 rw [hl]
 refine ⟨errG_all fun r h => ?_, ?_⟩
 ·rw [List.mem_singleton.1 h, hr]
 ·show [(rowN 1 [4607182418800017408, 4611686018427387904, 4613937818241073152, 4616189618054758400]).1] = _
  rw [hr]
theorem aw13_b : errG (rowN 2) (rowsL [4607182418800017408, 4611686018427387904, 4613937818241073152, 4616189618054758400] 2 2 1) = 0 ∧ outG (rowN 2) (rowsL [4607182418800017408, 4611686018427387904, 4613937818241073152, 4616189618054758400] 2 2 1) = [13830554455654793216, 13830554455654793216] := by
 have e1 : rs (subw 4607182418800017408 4611686018427387904) = (13830554455654793216, 0) := by decide +kernel
 have e2 : rs (subw 4613937818241073152 4616189618054758400) = (13830554455654793216, 0) := by decide +kernel
 have h1 : rowN 2 [4607182418800017408, 4611686018427387904] = (13830554455654793216, 0) := by
  rw [rowN_cons 2 _ (by simp)]
  have h0 : rowN 2 [4611686018427387904] = (4611686018427387904, 0) := rfl
  rw [h0]
  simp only [fone_rs2, e1, nrm, if_true]
 have h2 : rowN 2 [4613937818241073152, 4616189618054758400] = (13830554455654793216, 0) := by
  rw [rowN_cons 2 _ (by simp)]
  have h0 : rowN 2 [4616189618054758400] = (4616189618054758400, 0) := rfl
  rw [h0]
  simp only [fone_rs2, e2, nrm, if_true]
 have hl : rowsL [4607182418800017408, 4611686018427387904, 4613937818241073152, 4616189618054758400] 2 2 1 = [[4607182418800017408, 4611686018427387904], [4613937818241073152, 4616189618054758400]] := by decide +kernel
 rw [hl]
 refine ⟨errG_all fun r h => ?_, ?_⟩
 ·rcases List.mem_cons.1 h with h | h
  ·rw [h, h1]
  ·rw [List.mem_singleton.1 h, h2]
 ·show [(rowN 2 _).1, (rowN 2 _).1] = _
  rw [h1, h2]
theorem aw13 {V : VV} (h : KepK [4607182418800017408, 4611686018427387904, 4613937818241073152, 4616189618054758400] V) : V.len = 4 ∧ (foE 1 V 1 4 1 = 0 ∧ (foV 1 V 1 4 1).nums = [4621819117588971520] ∧ (foV 1 V 1 4 1).ok) ∧ (foE 2 V 2 2 1 = 0 ∧ (foV 2 V 2 2 1).nums = [13830554455654793216, 13830554455654793216] ∧ (foV 2 V 2 2 1).ok) := by
 obtain ⟨⟨h1, h2, h3, h4, h5⟩, h6⟩ := h
 have ea : foE 1 V 1 4 1 = 0 := by rw [foE_num (by decide) h3 (by decide) (by decide), h4]; exact aw13_a.1
 have eb : foE 2 V 2 2 1 = 0 := by rw [foE_num (by decide) h3 (by decide) (by decide), h4]; exact aw13_b.1
 obtain ⟨a1, a2, _⟩ := fold_meetV h1 h2 h3 (show V.nums.length = 1 * 4 * 1 by rw [h4]; rfl) (by decide) ea
 obtain ⟨b1, b2, _⟩ := fold_meetV h1 h2 h3 (show V.nums.length = 2 * 2 * 1 by rw [h4]; rfl) (by decide) eb
 refine ⟨h5, ⟨ea, ?_, a2⟩, ⟨eb, ?_, b2⟩⟩
 ·rw [a1, rfL_yes (by rw [← fold_meet h3 (by rw [h4]; rfl)]; exact ea), h4]; exact aw13_a.2
 ·rw [b1, rfL_yes (by rw [← fold_meet h3 (by rw [h4]; rfl)]; exact eb), h4]; exact aw13_b.2
theorem fofold_at {ok : Nat → Prop} (f : Int) (u : Value) (V : VV) (outer n inner : Nat) (o nn ii : Int) (w : World) (ho : o = (outer : Int)) (hn : nn = (n : Int)) (hi : ii = (inner : Int)) (hA : IsV w ok u V) (oA : V.ok) (nA : V.nm) (hl : V.len = outer * n * inner) (hno : n ≤ 1048576) (him : inner ≤ 1048576) (hom : outer ≤ 1048576) (hoi : outer * inner ≤ 1048576) (hT : TabAt w) :
  Calls Tryz.prog 22 #[.int .i64 f, .agg #[u], .int .i64 o, .int .i64 nn, .int .i64 ii] w fun e w' => ∃ u', e = .returned (.tuple #[.agg #[u'], .int .i64 (foE f V outer n inner)]) ∧ IsV w' (fun b => ok b ∨ w.heap.size ≤ b) u' (foV f V outer n inner) ∧ Below w.heap.size w w' := by
 subst ho hn hi
 exact fofold_calls f u V outer n inner w hA oA nA hl hno him hom hoi hT
set_option maxHeartbeats 8000000 in
theorem awake13_calls (w : World) (hT : TabAt w) : Calls Tryz.prog 13 #[] w (Yes13 w) := by
 obtain ⟨W1, hW1⟩ : ∃ W1, W1 = w.alloc (.cells #[.float .f64 4607182418800017408, .float .f64 4611686018427387904, .float .f64 4613937818241073152, .float .f64 4616189618054758400] 22) := ⟨_, rfl⟩
 have HB := Lib.hid (show Below w.heap.size w W1 by rw [hW1]; exact below_new _ _)
 have HV := Lib.hid (show Slc W1 (fun _ => True) (.slice (some ⟨w.heap.size, 0, none⟩) 4 4) [4607182418800017408, 4611686018427387904, 4613937818241073152, 4616189618054758400].length (f64s [4607182418800017408, 4611686018427387904, 4613937818241073152, 4616189618054758400]) by
  rw [hW1]; exact (Slc.owned (World.ownsRow_lit (base := 0) (e := 22) (size := 1) w #[.float .f64 4607182418800017408, .float .f64 4611686018427387904, .float .f64 4613937818241073152, .float .f64 4616189618054758400] 4 (Nat.zero_le _) (by unfold maxLen; omega) rfl)).keep (Kept.refl _ _) (fun _ _ _ => trivial))
 have HT := Lib.hid (show TabAt W1 from fun j hj => keep_below HB.out _ _ (hT j hj))
 have hfold := hW1.symm
 clear hW1 hT
 go_enter Tryz.func13, Tryz.ntmps13
 go_wp2_with fail
 clear hfold
 refine (kept13_yes _ [4607182418800017408, 4611686018427387904, 4613937818241073152, 4616189618054758400] 2 _ HV.out (by decide) aw13_fin HT.out).mono ?_
 rintro e W11 ⟨u, V, rfl, hu, hk, hB⟩
 replace HB := cb hB HB; replace HT := HT.go hB; replace HV := HV.go hB; have HU := Lib.hid (IsV.any hu)
 have HK := Lib.hid (show KepK [4607182418800017408, 4611686018427387904, 4613937818241073152, 4616189618054758400] V from hk _ (congrArg some aw13_ze))
 have hsu := hu.store; clear hu hk; clear hB; clear HV
 obtain ⟨W12, hWn, hB, hNB⟩ := ahd1 W11 (u) 35
 replace HB := cb hB HB; replace HT := HT.go hB; replace HU := HU.go hB; have HA := Lib.hid hNB; clear hNB hB; have cHA0 := HA.out.2.1
 go_wp2_with fail
 clear hWn
 have HS := Lib.hid (aw13 HK.out)
 refine (fofold_at 1 _ V 1 4 1 _ _ _ _ rfl rfl rfl HU.out HK.out.1.1 HK.out.1.2.1 (by rw [HS.out.1]) (by decide) (by decide) (by decide) (by decide) HT.out).mono ?_
 rintro e W13 ⟨ua, rfl, hua, hB⟩
 clear cHA0; replace HB := cb hB HB; replace HT := HT.go hB; replace HU := HU.go hB; replace HA := HA.go hB
 rw [HS.out.2.1.1]
 have HUA := Lib.hid (IsV.any hua); have hsua := hua.store; clear hua; clear hB
 obtain ⟨W14, hWn, hB, hNB⟩ := ahd1 W13 (ua) 35
 replace HB := cb hB HB; replace HT := HT.go hB; replace HU := HU.go hB; replace HA := HA.go hB; replace HUA := HUA.go hB; have HAA := Lib.hid hNB; clear hNB hB; have cHA0 := HA.out.2.1; have cHAA0 := HAA.out.2.1
 go_wp2_with fail
 clear hWn
 refine (fofold_at 2 _ V 2 2 1 _ _ _ _ rfl rfl rfl HU.out HK.out.1.1 HK.out.1.2.1 (by rw [HS.out.1]) (by decide) (by decide) (by decide) (by decide) HT.out).mono ?_
 rintro e W15 ⟨ub, rfl, hub, hB⟩
 clear cHA0 cHAA0; replace HB := cb hB HB; replace HT := HT.go hB; replace HU := HU.go hB; replace HA := HA.go hB; replace HUA := HUA.go hB; replace HAA := HAA.go hB
 rw [HS.out.2.2.1]
 have HUB := Lib.hid (IsV.any hub); have hsub := hub.store; clear hub; clear hB
 obtain ⟨W16, hWn, hB, hNB⟩ := ahd1 W15 (ub) 35
 replace HB := cb hB HB; replace HT := HT.go hB; replace HU := HU.go hB; replace HA := HA.go hB; replace HUA := HUA.go hB; replace HAA := HAA.go hB; replace HUB := HUB.go hB; have HBB := Lib.hid hNB; clear hNB hB; have cHA0 := HA.out.2.1; have cHAA0 := HAA.out.2.1; have cHBB0 := HBB.out.2.1
 go_wp2_with fail
 clear hWn
 refine (vnums_calls _ (foV 1 V 1 4 1) _ HUA.out HS.out.2.1.2.2 HT.out).mono ?_
 rintro e W17 ⟨va, rfl, hva, hB⟩
 clear cHA0 cHAA0 cHBB0; replace HB := cb hB HB; replace HT := HT.go hB; replace HU := HU.go hB; replace HA := HA.go hB; replace HUA := HUA.go hB; replace HAA := HAA.go hB; replace HUB := HUB.go hB; replace HBB := HBB.go hB
 rw [HS.out.2.1.2.1] at hva
 have Hva := Lib.hid hva.any; clear hva; clear hB; have cHA0 := HA.out.2.1; have cHAA0 := HAA.out.2.1; have cHBB0 := HBB.out.2.1
 go_wp2_with fail
 obtain ⟨W18, hWn⟩ : ∃ xw9, W17.alloc (.cells #[.float .f64 4621819117588971520] 22) = xw9 := ⟨_, rfl⟩
 have hB : Below W17.heap.size W17 W18 := by rw [← hWn]; exact below_new _ _
 have hNB : Slc W18 (fun _ => True) (.slice (some ⟨W17.heap.size, 0, none⟩) 1 1) 1 (f64s [4621819117588971520]) := by
  rw [← hWn]; exact (Slc.owned (World.ownsRow_lit (base := 0) (e := 22) (size := 1) W17 #[.float .f64 4621819117588971520] 1 (Nat.zero_le _) (by unfold maxLen; omega) rfl)).keep (Kept.refl _ _) (fun _ _ _ => trivial)
 rw [hWn]; clear hWn; clear cHA0 cHAA0 cHBB0; replace HB := cb hB HB; replace HT := HT.go hB; replace HU := HU.go hB; replace HA := HA.go hB; replace HUA := HUA.go hB; replace HAA := HAA.go hB; replace HUB := HUB.go hB; replace HBB := HBB.go hB; replace Hva := Hva.go hB; have HLva := Lib.hid hNB; clear hNB hB
 refine (floats_same _ _ [4621819117588971520] _ Hva.out HLva.out (by decide) (by intro x hx; simp only [List.mem_cons, List.not_mem_nil, or_false] at hx; subst hx; exact ⟨⟨by decide, by decide⟩, by decide +kernel⟩)).mono ?_
 rintro e W19 ⟨rfl, hB⟩
 replace HB := cb hB HB; replace HT := HT.go hB; replace HU := HU.go hB; replace HA := HA.go hB; replace HUA := HUA.go hB; replace HAA := HAA.go hB; replace HUB := HUB.go hB; replace HBB := HBB.go hB; replace Hva := Hva.go hB; replace HLva := HLva.go hB; clear hB; have cHA0 := HA.out.2.1; have cHAA0 := HAA.out.2.1; have cHBB0 := HBB.out.2.1
 go_wp2_with fail
 refine (vnums_calls _ (foV 2 V 2 2 1) _ HUB.out HS.out.2.2.2.2 HT.out).mono ?_
 rintro e W20 ⟨vb, rfl, hvb, hB⟩
 clear cHA0 cHAA0 cHBB0; replace HB := cb hB HB; replace HT := HT.go hB; replace HU := HU.go hB; replace HA := HA.go hB; replace HUA := HUA.go hB; replace HAA := HAA.go hB; replace HUB := HUB.go hB; replace HBB := HBB.go hB; replace Hva := Hva.go hB; replace HLva := HLva.go hB
 rw [HS.out.2.2.2.1] at hvb
 have Hvb := Lib.hid hvb.any; clear hvb; clear hB; have cHA0 := HA.out.2.1; have cHAA0 := HAA.out.2.1; have cHBB0 := HBB.out.2.1
 go_wp2_with fail
 obtain ⟨W21, hWn⟩ : ∃ xw9, W20.alloc (.cells #[.float .f64 13830554455654793216, .float .f64 13830554455654793216] 22) = xw9 := ⟨_, rfl⟩
 have hB : Below W20.heap.size W20 W21 := by rw [← hWn]; exact below_new _ _
 have hNB : Slc W21 (fun _ => True) (.slice (some ⟨W20.heap.size, 0, none⟩) 2 2) 2 (f64s [13830554455654793216, 13830554455654793216]) := by
  rw [← hWn]; exact (Slc.owned (World.ownsRow_lit (base := 0) (e := 22) (size := 1) W20 #[.float .f64 13830554455654793216, .float .f64 13830554455654793216] 2 (Nat.zero_le _) (by unfold maxLen; omega) rfl)).keep (Kept.refl _ _) (fun _ _ _ => trivial)
 rw [hWn]; clear hWn; clear cHA0 cHAA0 cHBB0; replace HB := cb hB HB; replace HT := HT.go hB; replace HU := HU.go hB; replace HA := HA.go hB; replace HUA := HUA.go hB; replace HAA := HAA.go hB; replace HUB := HUB.go hB; replace HBB := HBB.go hB; replace Hva := Hva.go hB; replace HLva := HLva.go hB; replace Hvb := Hvb.go hB; have HLvb := Lib.hid hNB; clear hNB hB
 refine (floats_same _ _ [13830554455654793216, 13830554455654793216] _ Hvb.out HLvb.out (by decide) (by intro x hx; simp only [List.mem_cons, List.not_mem_nil, or_false, or_self] at hx; subst hx; exact ⟨⟨by decide, by decide⟩, by decide +kernel⟩)).mono ?_
 rintro e W22 ⟨rfl, hB⟩
 replace HB := cb hB HB; replace HT := HT.go hB; replace HU := HU.go hB; replace HA := HA.go hB; replace HUA := HUA.go hB; replace HAA := HAA.go hB; replace HUB := HUB.go hB; replace HBB := HBB.go hB; replace Hva := Hva.go hB; replace HLva := HLva.go hB; replace Hvb := Hvb.go hB; replace HLvb := HLvb.go hB; clear hB; have cHA0 := HA.out.2.1; have cHAA0 := HAA.out.2.1; have cHBB0 := HBB.out.2.1
 go_wp2_with fail
 go_ret
 exact ⟨rfl, HB.out⟩
end Go.Proofs.YtghojndkcndjbaaGreatDoor

/- Layer 13, walked: Two of package fold. -/
namespace Go.Proofs.YtghojndkcndjbaaGreatDoor
set_option maxRecDepth 100000
open Go.RowKit Fl
set_option linter.unusedVariables false

noncomputable def twE (f : Int) (A B : VV) : Int := if 1 ≤ f ∧ f ≤ 8 then apE f A B else if 11 ≤ f ∧ f ≤ 16 then reE f A B else loE f A B
noncomputable def twV (f : Int) (A B : VV) : VV := if 1 ≤ f ∧ f ≤ 8 then apV f A B else if 11 ≤ f ∧ f ≤ 16 then reV f A B else loV f A B
theorem tw_a {f : Int} (h : 1 ≤ f ∧ f ≤ 8) (A B : VV) : twE f A B = apE f A B ∧ twV f A B = apV f A B := ⟨if_pos h, if_pos h⟩
theorem tw_r {f : Int} (h : 11 ≤ f ∧ f ≤ 16) (A B : VV) : twE f A B = reE f A B ∧ twV f A B = reV f A B := by
 have h2 : ¬ (1 ≤ f ∧ f ≤ 8) := by omega
 unfold twE twV; rw [if_neg h2, if_neg h2, if_pos h, if_pos h]; exact ⟨rfl, rfl⟩
theorem tw_l {f : Int} (h1 : ¬ (1 ≤ f ∧ f ≤ 8)) (h2 : ¬ (11 ≤ f ∧ f ≤ 16)) (A B : VV) : twE f A B = loE f A B ∧ twV f A B = loV f A B := by
 unfold twE twV; rw [if_neg h1, if_neg h1, if_neg h2, if_neg h2]; exact ⟨rfl, rfl⟩
theorem prs_one {α : Type} (d x y : α) : prs d [x] [y] 1 = [(x, y)] := rfl
/-- Of one number and another Two tells what One tells. -/
theorem two_one {f : Int} {A B : VV} {x y : Nat} (hA : KepK [x] A) (hB : KepK [y] B) :
  twE f A B = (fone f x y).2 ∧ ((fone f x y).2 = 0 → (twV f A B).nums = [(fone f x y).1]) ∧ ((fone f x y).2 ≠ 0 → twV f A B = .none) ∧ ((fone f x y).2 = 0 → (twV f A B).ok) := by
 obtain ⟨⟨a1, a2, a3, a4, a5⟩, a6⟩ := hA
 obtain ⟨⟨b1, b2, b3, b4, b5⟩, b6⟩ := hB
 have hg : goesA A.len B.len := by rw [a5, b5]; exact .inl rfl
 have hn : lenN A.len B.len = 1 := by rw [a5, b5]; rfl
 by_cases h1 : 1 ≤ f ∧ f ≤ 8
 ·rw [(tw_a h1 A B).1, (tw_a h1 A B).2, fone_a x y h1]
  have e : apE f A B = (oneA f x y).2 := by
   unfold apE
   rw [if_pos h1, if_pos hg, if_pos ⟨a3, b3⟩, a4, b4, hn, prs_one]
   show (if (oneA f x y).2 = 0 then (0 : Int) else (oneA f x y).2) = _
   split
   ·rename_i h; exact h.symm
   ·rfl
  refine ⟨e, fun h => ?_, fun h => apV_none (by rw [e]; exact h), fun h => (apV_spec a1 b1 a2 b2 (e.trans h)).2.1⟩
  rw [(apV_spec a1 b1 a2 b2 (e.trans h)).1, a4, b4, hn, prs_one]
  rfl
 ·by_cases h2 : 11 ≤ f ∧ f ≤ 16
  ·rw [(tw_r h2 A B).1, (tw_r h2 A B).2, fone_r x y h2]
   have e : reE f A B = 0 := by
    unfold reE
    rw [if_pos h2, if_pos hg, if_pos]
    rw [a3, b3]; exact ⟨rfl, rfl⟩
   refine ⟨e, fun _ => ?_, fun h => absurd rfl h, fun _ => ?_⟩
   ·unfold reV
    rw [if_pos e, hn, ← relL_nums f 1 a3 b3, a4, b4, prs_one]
    rfl
   ·unfold reV
    rw [if_pos e]
    show (relL f A B _).length ≤ 1048576
    rw [relL_len, hn]; decide
  ·rw [(tw_l h1 h2 A B).1, (tw_l h1 h2 A B).2]
   have ta : A.tru = truL [x] := (VV.tru_nums (by omega) a3).trans (by rw [a4])
   have tb : B.tru = truL [y] := (VV.tru_nums (by omega) b3).trans (by rw [b4])
   have hz : lenN A.len B.len ≠ 0 := by rw [hn]; decide
   by_cases h3 : 21 ≤ f ∧ f ≤ 24
   ·by_cases ht : isT x = true ∧ isT y = true
    ·rw [fone_l h3 ht.1 ht.2]
     have ta2 : A.tru = some [bitW x] := ta.trans (truL_yes (by intro z hz; rw [List.mem_singleton.1 hz]; exact ht.1))
     have tb2 : B.tru = some [bitW y] := tb.trans (truL_yes (by intro z hz; rw [List.mem_singleton.1 hz]; exact ht.2))
     have e : loE f A B = 0 := loE_0 h3 hg hz ⟨by rw [ta2]; rfl, by rw [tb2]; rfl⟩
     refine ⟨e, fun _ => ?_, fun h => absurd rfl h, fun _ => ?_⟩
     ·rw [loV_yes e, hn]
      unfold loL
      rw [VV.tr_of ta2, VV.tr_of tb2, prs_one]
      rfl
     ·rw [loV_yes e]
      show (loL f A B _).length ≤ 1048576
      rw [loL_len, hn]; decide
    ·rw [fone_l24 h3 ht]
     have hx1 : A.tru.isSome = true → isT x = true := fun h => by
      cases hx : isT x with
      | true => rfl
      | false => rw [ta, truL_no (List.mem_singleton.2 rfl) hx] at h; exact nomatch h
     have hy1 : B.tru.isSome = true → isT y = true := fun h => by
      cases hy : isT y with
      | true => rfl
      | false => rw [tb, truL_no (List.mem_singleton.2 rfl) hy] at h; exact nomatch h
     have e : loE f A B = 24 := loE_24 h3 hg hz (fun h => ht ⟨hx1 h.1, hy1 h.2⟩)
     exact ⟨e, fun h => absurd h (by decide), fun _ => loV_none (by rw [e]; decide), fun h => absurd h (by decide)⟩
   ·have hk : fknown f = false := by (simp only [fknown, Bool.or_eq_false_iff, decide_eq_false_iff_not]; exact ⟨⟨h1, h2⟩, h3⟩)
    rw [fone_no x y hk]
    exact ⟨loE_1 h3, fun h => absurd h (by decide), fun _ => loV_none (by rw [loE_1 h3]; decide), fun h => absurd h (by decide)⟩
theorem reV_bits (f : Int) (A B : VV) : reV f A B = .none ∨ ∃ l, reV f A B = .bits l := by
 unfold reV; split
 ·exact .inr ⟨_, rfl⟩
 ·exact .inl rfl
theorem loV_bits (f : Int) (A B : VV) : loV f A B = .none ∨ ∃ l, loV f A B = .bits l := by
 unfold loV; split
 ·exact .inr ⟨_, rfl⟩
 ·exact .inl rfl
theorem IsV.bn_set {w : World} {ok : Nat → Prop} {u : Value} {V : VV} (h : IsV w ok u V) (hV : V = .none ∨ ∃ l, V = .bits l) {p : Addr} (hp : w.cell? p = some .nilIface) (x : Value) : IsV (w.setCell p x) (fun _ => True) u V := by
 rcases hV with rfl | ⟨l, rfl⟩
 ·cases h; exact .none
 ·exact h.bits_set hp (.inl rfl) x
set_option maxHeartbeats 8000000 in
theorem fotwo_calls {okA okB : Nat → Prop} (f : Int) (uA uB : Value) (A B : VV) (w : World) (hA : IsV w okA uA A) (hB' : IsV w okB uB B) (oA : A.ok) (oB : B.ok) (nA : A.nm) (nB : B.nm) (hT : TabAt w) :
  Calls Tryz.prog 17 #[.int .i64 f, .agg #[uA], .agg #[uB]] w fun e w' => ∃ u, e = .returned (.tuple #[.agg #[u], .int .i64 (twE f A B)]) ∧ IsV w' (fun _ => True) u (twV f A B) ∧ Below w.heap.size w w' := by
 have hsa := hA.store
 have hsb := hB'.store
 obtain ⟨W1, hW1⟩ : ∃ W1, W1 = ((w.alloc (.cells #[uA] 35)).alloc (.cells #[uB] 35)).alloc (.cells #[.nilIface] 35) := ⟨_, rfl⟩
 have HB := Lib.hid (show Below w.heap.size w W1 by rw [hW1]; exact ((below_new _ _).alloc (by simp) _).alloc (by simp; omega) _)
 have HA := Lib.hid (show At1 W1 w.heap.size uA by rw [hW1]; exact ((At1.new w _ _).below (below_new _ _)).below ((below_new _ _).mono (by simp)))
 have HB2 := Lib.hid (show At1 W1 (w.heap.size + 1) uB by rw [hW1]; have := (At1.new (w.alloc (.cells #[uA] 35)) uB 35).below (below_new _ (.cells #[.nilIface] 35)); simpa using this)
 have HR := Lib.hid (show At1 W1 (w.heap.size + 1 + 1) .nilIface by rw [hW1]; have := At1.new ((w.alloc (.cells #[uA] 35)).alloc (.cells #[uB] 35)) .nilIface 35; simpa using this)
 have HU := Lib.hid (show IsV W1 okA uA A from hA.grow HB.out)
 have HU2 := Lib.hid (show IsV W1 okB uB B from hB'.grow HB.out)
 have HT := Lib.hid (show TabAt W1 from fun j hj => keep_below HB.out _ _ (hT j hj))
 have HOA := Lib.hid oA; have HOB := Lib.hid oB; have HNA := Lib.hid nA; have HNB := Lib.hid nB
 have HWS := Lib.hid (show W1.heap.size = w.heap.size + 3 by rw [hW1]; simp)
 have HW1 := Lib.hid (Below.refl W1.heap.size W1)
 have hfold := hW1.symm
 clear hA hB' hT oA oB nA nB hW1
 by_cases h1 : 1 ≤ f ∧ f ≤ 8
 ·have D1 := Lib.hid (show decide (1 ≤ f ∧ f ≤ 8) = true from decide_eq_true h1)
  have D2 := Lib.hid (show decide (11 ≤ f ∧ f ≤ 16) = false from decide_eq_false (by omega))
  have HEQ := Lib.hid (tw_a h1 A B)
  clear h1; have cHA0 := HA.out.2.1; have cHB20 := HB2.out.2.1; have cHR0 := HR.out.2.1; have zHR0 := HR.out.2.2 0
  go_enter Tryz.func17, Tryz.ntmps17
  go_wp2_with (first | ((with_reducible refine (foreck_calls _ _).mono ?_); rintro e w' ⟨rfl, rfl⟩; rw [D1.out]) | ((with_reducible refine (forel_calls _ _).mono ?_); rintro e w' ⟨rfl, rfl⟩; rw [D2.out]))
  clear hfold; have HWQ := Lib.hid HW1.out.size
  refine (arapply_calls f _ _ A B _ HU.out HU2.out HOA.out HOB.out HNA.out HNB.out HT.out).mono ?_
  rintro e W11 ⟨uq, rfl, huq, hB⟩
  clear cHA0 cHB20 cHR0 zHR0; replace HB := cb hB HB; replace HW1 := cb hB HW1; replace HT := HT.go hB; replace HU := HU.go hB; replace HU2 := HU2.go hB; replace HA := HA.go hB; replace HB2 := HB2.go hB; replace HR := HR.go hB
  rw [← HEQ.out.1]
  rw [← HEQ.out.2] at huq
  have HQ := Lib.hid huq; have hsq := huq.store; clear huq; clear hB; have cHA0 := HA.out.2.1; have cHB20 := HB2.out.2.1; have cHR0 := HR.out.2.1; have zHR0 := HR.out.2.2 0
  go_wp2_with fail
  refine bodyPost_ret (v := .tuple #[.agg #[uq], .int .i64 (twE f A B)]) (by simp [results, Tryz.results17, go_sem, cHR0]) rfl ⟨uq, rfl, ?_, HB.out.setCell (by show w.heap.size ≤ w.heap.size + 1 + 1; omega) _⟩
  exact (HQ.out.keep (Kept.setCell _ _ _ (by have := HWS.out; have := HWQ.out; simp; omega)) (fun _ _ h => h)).any
 by_cases h2 : 11 ≤ f ∧ f ≤ 16
 ·have D1 := Lib.hid (show decide (1 ≤ f ∧ f ≤ 8) = false from decide_eq_false h1)
  have D2 := Lib.hid (show decide (11 ≤ f ∧ f ≤ 16) = true from decide_eq_true h2)
  have HEQ := Lib.hid (tw_r h2 A B)
  clear h1 h2; have cHA0 := HA.out.2.1; have cHB20 := HB2.out.2.1; have cHR0 := HR.out.2.1; have zHR0 := HR.out.2.2 0
  go_enter Tryz.func17, Tryz.ntmps17
  go_wp2_with (first | ((with_reducible refine (foreck_calls _ _).mono ?_); rintro e w' ⟨rfl, rfl⟩; rw [D1.out]) | ((with_reducible refine (forel_calls _ _).mono ?_); rintro e w' ⟨rfl, rfl⟩; rw [D2.out]))
  clear hfold; have HWQ := Lib.hid HW1.out.size
  refine (reapply_calls f _ _ A B _ HU.out HU2.out HOA.out HOB.out HNA.out HNB.out HT.out).mono ?_
  rintro e W11 ⟨uq, rfl, huq, hB⟩
  clear cHA0 cHB20 cHR0 zHR0; replace HB := cb hB HB; replace HW1 := cb hB HW1; replace HT := HT.go hB; replace HU := HU.go hB; replace HU2 := HU2.go hB; replace HA := HA.go hB; replace HB2 := HB2.go hB; replace HR := HR.go hB
  rw [← HEQ.out.1]
  rw [← HEQ.out.2] at huq
  have HQ := Lib.hid huq; have hsq := huq.store; clear huq; clear hB; have cHA0 := HA.out.2.1; have cHB20 := HB2.out.2.1; have cHR0 := HR.out.2.1; have zHR0 := HR.out.2.2 0
  go_wp2_with fail
  refine bodyPost_ret (v := .tuple #[.agg #[uq], .int .i64 (twE f A B)]) (by simp [results, Tryz.results17, go_sem, cHR0]) rfl ⟨uq, rfl, ?_, HB.out.setCell (by show w.heap.size ≤ w.heap.size + 1 + 1; omega) _⟩
  exact HQ.out.bn_set (by rw [HEQ.out.2]; exact reV_bits f A B) HR.out.2.1 _
 have D1 := Lib.hid (show decide (1 ≤ f ∧ f ≤ 8) = false from decide_eq_false h1)
 have D2 := Lib.hid (show decide (11 ≤ f ∧ f ≤ 16) = false from decide_eq_false h2)
 have HEQ := Lib.hid (tw_l h1 h2 A B)
 clear h1 h2; have cHA0 := HA.out.2.1; have cHB20 := HB2.out.2.1; have cHR0 := HR.out.2.1; have zHR0 := HR.out.2.2 0
 go_enter Tryz.func17, Tryz.ntmps17
 go_wp2_with (first | ((with_reducible refine (foreck_calls _ _).mono ?_); rintro e w' ⟨rfl, rfl⟩; rw [D1.out]) | ((with_reducible refine (forel_calls _ _).mono ?_); rintro e w' ⟨rfl, rfl⟩; rw [D2.out]))
 clear hfold; have HWQ := Lib.hid HW1.out.size
 refine (loapply_calls f _ _ A B _ HU.out HU2.out HOA.out HOB.out HNA.out HNB.out HT.out).mono ?_
 rintro e W11 ⟨uq, rfl, huq, hB⟩
 clear cHA0 cHB20 cHR0 zHR0; replace HB := cb hB HB; replace HW1 := cb hB HW1; replace HT := HT.go hB; replace HU := HU.go hB; replace HU2 := HU2.go hB; replace HA := HA.go hB; replace HB2 := HB2.go hB; replace HR := HR.go hB
 rw [← HEQ.out.1]
 rw [← HEQ.out.2] at huq
 have HQ := Lib.hid huq; have hsq := huq.store; clear huq; clear hB; have cHA0 := HA.out.2.1; have cHB20 := HB2.out.2.1; have cHR0 := HR.out.2.1; have zHR0 := HR.out.2.2 0
 go_wp2_with fail
 refine bodyPost_ret (v := .tuple #[.agg #[uq], .int .i64 (twE f A B)]) (by simp [results, Tryz.results17, go_sem, cHR0]) rfl ⟨uq, rfl, ?_, HB.out.setCell (by show w.heap.size ≤ w.heap.size + 1 + 1; omega) _⟩
 exact HQ.out.bn_set (by rw [HEQ.out.2]; exact loV_bits f A B) HR.out.2.1 _
end Go.Proofs.YtghojndkcndjbaaGreatDoor

/- Merged: OrM, OrN, OrP, OrA, OrB, OrQ, OrC, OrD, OrR, OrE, OrF, OrG, OrS. -/
import Derived.Test.YtibkbhglcmpeaaaDoorMgPi1
import Derived.Test.YtibkbhglcmpeaaaDoorMgRe1
import Derived.Test.YtibkbhglcmpeaaaDoorMgVe1
import Derived.Test.YtibkbhglcmpeaaaDoorMgFl1
import Derived.Test.YtibkbhglcmpeaaaDoorMgVa1
/- Layer 16, plain: a strict total order of the first n numbers: how many are ahead of each, the one list in order. -/
namespace Go.Proofs.YtibkbhglcmpeaaaDoor
set_option maxRecDepth 100000
set_option linter.unusedVariables false

end Go.Proofs.YtibkbhglcmpeaaaDoor

/- Layer 16, plain: cells of keys, the first difference; cells and their places are in a strict total order. -/
namespace Go.Proofs.YtibkbhglcmpeaaaDoor
set_option maxRecDepth 100000
set_option linter.unusedVariables false

/-- How two lists of keys stand: by their first difference. -/
def lexI : List Int → List Int → Int
  | x :: l, y :: m => if x < y then -1 else if y < x then 1 else lexI l m
  | _, _ => 0
theorem lexI_self (a : List Int) : lexI a a = 0 := by
  induction a with
  | nil => rfl
  | cons x a ih => simp only [lexI, Int.lt_irrefl, if_false]; exact ih
theorem lexI_cases : ∀ a b : List Int, lexI a b = -1 ∨ lexI a b = 0 ∨ lexI a b = 1
  | [], [] => Or.inr (Or.inl rfl)
  | [], _ :: _ => Or.inr (Or.inl rfl)
  | _ :: _, [] => Or.inr (Or.inl rfl)
  | x :: a, y :: b => by
    simp only [lexI]
    split
    · exact Or.inl rfl
    · split
      · exact Or.inr (Or.inr rfl)
      · exact lexI_cases a b
/-- Up to a place they are the same. -/
theorem lexI_drop {a b : List Int} : ∀ (j : Nat), j ≤ a.length → j ≤ b.length → (∀ i, i < j → a[i]? = b[i]?) → lexI a b = lexI (a.drop j) (b.drop j) := by
  intro j
  induction j generalizing a b with
  | zero => intro _ _ _; rfl
  | succ j ih =>
    intro h1 h2 h3
    cases a with
    | nil => simp at h1
    | cons x a =>
      cases b with
      | nil => simp at h2
      | cons y b =>
        have e := h3 0 (by omega)
        simp only [List.getElem?_cons_zero, Option.some.injEq] at e
        subst e
        simp only [lexI, Int.lt_irrefl, if_false, List.drop_succ_cons]
        exact ih (by simpa using h1) (by simpa using h2) (fun i hi => by have := h3 (i + 1) (by omega); simpa using this)
theorem lexI_hit {a b : List Int} {j : Nat} {x y : Int} (ha : a[j]? = some x) (hb : b[j]? = some y) (h : ∀ i, i < j → a[i]? = b[i]?) : lexI a b = if x < y then -1 else if y < x then 1 else lexI (a.drop (j + 1)) (b.drop (j + 1)) := by
  obtain ⟨h1, e1⟩ := List.getElem?_eq_some_iff.1 ha
  obtain ⟨h2, e2⟩ := List.getElem?_eq_some_iff.1 hb
  rw [lexI_drop j (by omega) (by omega) h, List.drop_eq_getElem_cons h1, List.drop_eq_getElem_cons h2, e1, e2]
  rfl
theorem lexI_all {a b : List Int} (hl : a.length = b.length) (h : ∀ i, i < a.length → a[i]? = b[i]?) : lexI a b = 0 := by
  have : a = b := List.ext_getElem? fun i => by
    by_cases hi : i < a.length
    · exact h i hi
    · rw [List.getElem?_eq_none (by omega), List.getElem?_eq_none (by omega)]
  rw [this]; exact lexI_self b

/-- Cell i of a row of keys. -/
def celK (K : Nat → Int) (size i : Nat) : List Int := (List.range size).map fun j => K (i * size + j)
theorem celK_len (K : Nat → Int) (size i : Nat) : (celK K size i).length = size := by simp [celK]
theorem celK_get {K : Nat → Int} {size i j : Nat} (h : j < size) : (celK K size i)[j]? = some (K (i * size + j)) := by simp [celK, h]
def cmpK (K : Nat → Int) (size i k : Nat) : Int := lexI (celK K size i) (celK K size k)
/-- Which one is ahead: upwards or downwards; of alike ones the first. -/
def lesK (K : Nat → Int) (size : Nat) (down : Bool) (i k : Nat) : Bool := let c := if down then - cmpK K size i k else cmpK K size i k
  decide (c < 0 ∨ c = 0 ∧ i < k)
end Go.Proofs.YtibkbhglcmpeaaaDoor

/- Layer 16, plain: the keys of a vector's elements, how they stand. -/
namespace Go.Proofs.YtibkbhglcmpeaaaDoor
set_option maxRecDepth 100000
open Go.RowKit Fl
set_option linter.unusedVariables false

/-- How two keys stand. -/
def cmpI (x y : Int) : Int := if x < y then -1 else if y < x then 1 else 0
theorem cmpI_lt {x y : Int} (h : x < y) : cmpI x y = -1 := if_pos h
theorem cmpI_gt {x y : Int} (h : y < x) : cmpI x y = 1 := by unfold cmpI; rw [if_neg (by omega), if_pos h]
theorem cmpI_eq {x y : Int} (h : x = y) : cmpI x y = 0 := by unfold cmpI; rw [if_neg (by omega), if_neg (by omega)]
/-- An element's key: a number's value, a character's code point. -/
def keyV (A : VV) (k : Nat) : Int := if A.cls = 0 then V (atI A.nums 0 (k : Int)) else atI A.text 0 (k : Int)
/-- Are two vectors of one class that has an order? -/
def orB (A B : VV) : Bool := decide (A.cls = B.cls ∧ A.cls < 2)
def orC (A : VV) (i : Nat) (B : VV) (k : Nat) : Int := if orB A B then cmpI (keyV A i) (keyV B k) else 0
theorem atI_memN {l : List Nat} {k : Nat} (h : k < l.length) : atI l 0 (k : Int) ∈ l := by rw [atI_nat h]; exact List.getElem_mem _
end Go.Proofs.YtibkbhglcmpeaaaDoor

/- Layer 16, walked: isNaN, cmp.Compare (of floats, of runes), exists, Has, count, Compare. -/
namespace Go.Proofs.YtibkbhglcmpeaaaDoor
set_option maxRecDepth 100000
open Go.RowKit Fl
set_option linter.unusedVariables false

theorem nanF_calls (x : Nat) (w : World) (h : Fnt x) : Calls Tryd.prog 46 #[.float .f64 x] w fun e w' => e = .returned (.bool false) ∧ w = w' := by
  have hc : FloatKind.f64.format.order x x = some .eq := ord_eq h h rfl
  clear h
  go_enter Tryd.func46, Tryd.ntmps46
  go_wp2
  go_ret
  exact ⟨rfl, rfl⟩
theorem nanR_calls (x : Int) (w : World) : Calls Tryd.prog 44 #[.int .i32 x] w fun e w' => e = .returned (.bool false) ∧ w = w' := by
  go_enter Tryd.func44, Tryd.ntmps44
  go_wp2
  go_ret
  exact ⟨rfl, rfl⟩
theorem cmpF_calls (a b : Nat) (w : World) (ha : Fnt a) (hb : Fnt b) : Calls Tryd.prog 34 #[.float .f64 a, .float .f64 b] w fun e w' => e = .returned (.int .i64 (cmpI (V a) (V b))) ∧ w = w' := by
  have HA := Lib.hid ha
  have HB := Lib.hid hb
  rcases ord_both ha hb with ⟨hv, o1, o2⟩ | ⟨hv, o1, o2⟩ | ⟨hv, o1, o2⟩
  · rw [cmpI_lt hv]
    clear hv ha hb
    go_enter Tryd.func34, Tryd.ntmps34
    go_wp2_with (first | ((with_reducible refine (nanF_calls _ _ HA.out).mono ?_); rintro e w' ⟨rfl, rfl⟩) | ((with_reducible refine (nanF_calls _ _ HB.out).mono ?_); rintro e w' ⟨rfl, rfl⟩))
    go_ret
    exact ⟨rfl, rfl⟩
  · rw [cmpI_eq hv]
    clear hv ha hb
    go_enter Tryd.func34, Tryd.ntmps34
    go_wp2_with (first | ((with_reducible refine (nanF_calls _ _ HA.out).mono ?_); rintro e w' ⟨rfl, rfl⟩) | ((with_reducible refine (nanF_calls _ _ HB.out).mono ?_); rintro e w' ⟨rfl, rfl⟩))
    go_ret
    exact ⟨rfl, rfl⟩
  · rw [cmpI_gt hv]
    clear hv ha hb
    go_enter Tryd.func34, Tryd.ntmps34
    go_wp2_with (first | ((with_reducible refine (nanF_calls _ _ HA.out).mono ?_); rintro e w' ⟨rfl, rfl⟩) | ((with_reducible refine (nanF_calls _ _ HB.out).mono ?_); rintro e w' ⟨rfl, rfl⟩))
    go_ret
    exact ⟨rfl, rfl⟩
theorem cmpR_calls (a b : Int) (w : World) : Calls Tryd.prog 32 #[.int .i32 a, .int .i32 b] w fun e w' => e = .returned (.int .i64 (cmpI a b)) ∧ w = w' := by
  rcases Int.lt_trichotomy a b with hv | hv | hv
  · rw [cmpI_lt hv]
    go_enter Tryd.func32, Tryd.ntmps32
    go_wp2_with (refine (nanR_calls _ _).mono ?_; rintro e w' ⟨rfl, rfl⟩)
    go_ret
    exact ⟨rfl, rfl⟩
  · rw [cmpI_eq hv]
    have h1 : ¬ a < b := by omega
    have h2 : ¬ b < a := by omega
    clear hv
    go_enter Tryd.func32, Tryd.ntmps32
    go_wp2_with (refine (nanR_calls _ _).mono ?_; rintro e w' ⟨rfl, rfl⟩)
    go_ret
    exact ⟨rfl, rfl⟩
  · rw [cmpI_gt hv]
    have h1 : ¬ a < b := by omega
    go_enter Tryd.func32, Tryd.ntmps32
    go_wp2_with (refine (nanR_calls _ _).mono ?_; rintro e w' ⟨rfl, rfl⟩)
    go_ret
    exact ⟨rfl, rfl⟩
theorem oex_calls (n i : Int) (w : World) : Calls Tryd.prog 30 #[.int .i64 n, .int .i64 i] w fun e w' => e = .returned (.bool (decide (0 ≤ i) && decide (i < n))) ∧ w = w' := by
  by_cases h : 0 ≤ i
  · rw [decide_eq_true h]
    go_enter Tryd.func30, Tryd.ntmps30
    go_wp2
    go_ret
    exact ⟨rfl, rfl⟩
  · rw [decide_eq_false h]
    go_enter Tryd.func30, Tryd.ntmps30
    go_wp2
    go_ret
    exact ⟨rfl, rfl⟩
theorem oex_yes {n i : Nat} (w : World) (h : i < n) : Calls Tryd.prog 30 #[.int .i64 (n : Int), .int .i64 (i : Int)] w fun e w' => e = .returned (.bool true) ∧ w = w' := by
  have e : (decide ((0 : Int) ≤ (i : Int)) && decide ((i : Int) < (n : Int))) = true := by simp; omega
  rw [← e]; exact oex_calls n i w
theorem oex_no {n : Nat} {i : Int} (w : World) (h : ¬ (0 ≤ i ∧ i < n)) : Calls Tryd.prog 30 #[.int .i64 (n : Int), .int .i64 i] w fun e w' => e = .returned (.bool false) ∧ w = w' := by
  have e : (decide ((0 : Int) ≤ i) && decide (i < (n : Int))) = false := by simp; omega
  rw [← e]; exact oex_calls n i w
theorem ohas_calls (c : Int) (w : World) : Calls Tryd.prog 14 #[.int .i64 c] w fun e w' => e = .returned (.bool (decide (c = 0 ∨ c = 1))) ∧ w = w' := by
  by_cases h : c = 0
  · subst h
    go_enter Tryd.func14, Tryd.ntmps14
    go_wp2
    go_ret
    exact ⟨rfl, rfl⟩
  · by_cases h1 : c = 1
    · subst h1
      go_enter Tryd.func14, Tryd.ntmps14
      go_wp2
      go_ret
      exact ⟨rfl, rfl⟩
    · have e : decide (c = 0 ∨ c = 1) = false := by simp [h, h1]
      rw [e]
      have e0 : (c == 0) = false := by simpa using h
      have e1 : (c == 1) = false := by simpa using h1
      clear e h h1
      go_enter Tryd.func14, Tryd.ntmps14
      go_wp2
      go_ret
      exact ⟨rfl, rfl⟩
theorem ocount_calls {ok : Nat → Prop} (u : Value) (A : VV) (size : Nat) (w : World) (h : IsV w ok u A) (hs : 0 < size) (hm : size ≤ 1048576) (hl : A.len ≤ 1048576) :
    Calls Tryd.prog 37 #[.agg #[u], .int .i64 (size : Int)] w fun e w' => e = .returned (.int .i64 ((A.len / size : Nat) : Int)) ∧ Below w.heap.size w w' := by
  have hsu := h.store
  obtain ⟨W1, hW1⟩ : ∃ W1, W1 = w.alloc (.cells #[u] 37) := ⟨_, rfl⟩
  have HB := Lib.hid (show Below w.heap.size w W1 by rw [hW1]; exact below_new _ _)
  have HA := Lib.hid (show At1 W1 w.heap.size u by rw [hW1]; exact At1.new w _ _)
  have HU := Lib.hid (show IsV W1 ok u A from h.grow HB.out)
  have hfold := hW1.symm
  clear h hW1
  have c0 := HA.out.2.1
  obtain ⟨n, hn⟩ : ∃ n, A.len = n := ⟨_, rfl⟩
  obtain ⟨Q, hQ⟩ : ∃ Q, n / size = Q := ⟨_, rfl⟩
  have HN := Lib.hid hn
  rw [hn, hQ]
  have hQm : Q ≤ n := by rw [← hQ]; exact Nat.div_le_self _ _
  rw [hn] at hl
  have d1 : (n : Int) / (size : Int) = (Q : Int) := by rw [← hQ]; rfl
  have d2 : (n : Int).tdiv (size : Int) = (Q : Int) := by rw [← hQ]; rfl
  have w1 : IntKind.i64.wrap (Q : Int) = (Q : Int) := IntWalk.i64_in _ (by omega)
  have hz1 : ¬ (size : Int) = 0 := by omega
  have hz2 : ¬ size = 0 := by omega
  clear hn hQ hQm
  go_enter Tryd.func37, Tryd.ntmps37
  go_wp2_with fail
  clear hfold
  refine (vlen_calls _ A _ HU.out).mono ?_
  rintro e W2 ⟨rfl, hB⟩
  rw [HN.out]
  clear c0
  replace HB := Lib.hid (HB.out.trans (hB.mono HB.out.size))
  clear hB
  go_wp2
  go_ret
  exact ⟨rfl, HB.out⟩
set_option maxHeartbeats 4000000 in
theorem ocompare_calls {okA okB : Nat → Prop} (uA uB : Value) (A B : VV) (i k : Nat) (w : World) (hA : IsV w okA uA A) (hB' : IsV w okB uB B) (fA : ∀ x ∈ A.nums, Fnt x) (fB : ∀ x ∈ B.nums, Fnt x) (hi : i < A.len) (hk : k < B.len) :
    Calls Tryd.prog 12 #[.agg #[uA], .int .i64 (i : Int), .agg #[uB], .int .i64 (k : Int)] w fun e w' => e = .returned (.tuple #[.int .i64 (orC A i B k), .bool (orB A B)]) ∧ Below w.heap.size w w' := by
  have hsa := hA.store
  have hsb := hB'.store
  obtain ⟨W1, hW1⟩ : ∃ W1, W1 = (w.alloc (.cells #[uA] 37)).alloc (.cells #[uB] 37) := ⟨_, rfl⟩
  have HB := Lib.hid (show Below w.heap.size w W1 by rw [hW1]; exact (below_new _ _).alloc (by simp) _)
  have HA := Lib.hid (show At1 W1 w.heap.size uA by rw [hW1]; exact (At1.new w _ _).below (below_new _ _))
  have HB2 := Lib.hid (show At1 W1 (w.heap.size + 1) uB by rw [hW1]; have := (At1.new (w.alloc (.cells #[uA] 37)) uB 37); simpa using this)
  have HU := Lib.hid (show IsV W1 okA uA A from hA.grow HB.out)
  have HU2 := Lib.hid (show IsV W1 okB uB B from hB'.grow HB.out)
  have HFA := Lib.hid fA
  have HFB := Lib.hid fB
  have HI := Lib.hid hi
  have HK := Lib.hid hk
  obtain ⟨ca, hca⟩ : ∃ ca, A.cls = ca := ⟨_, rfl⟩
  obtain ⟨cb, hcb⟩ : ∃ cb, B.cls = cb := ⟨_, rfl⟩
  have HCA := Lib.hid hca
  have HCB := Lib.hid hcb
  have HC3 := Lib.hid (show ca = 0 ∨ ca = 1 ∨ ca = 2 by rw [← hca]; exact VV.cls_cases _)
  obtain ⟨na, hna⟩ : ∃ na, A.len = na := ⟨_, rfl⟩
  obtain ⟨nb, hnb⟩ : ∃ nb, B.len = nb := ⟨_, rfl⟩
  have HNA := Lib.hid hna
  have HNB := Lib.hid hnb
  have hfold := hW1.symm
  clear hA hB' hW1 fA fB hi hk hca hcb hna hnb
  by_cases hne : ca = cb
  rotate_left
  · have e1 : orB A B = false := by unfold orB; rw [HCA.out, HCB.out]; exact decide_eq_false (fun h => hne h.1)
    have e2 : orC A i B k = 0 := by unfold orC; rw [e1]; rfl
    rw [e1, e2]
    clear e1 e2
    have hce : (cb != ca) = true := by simp; omega
    clear hne
    have cHA0 := HA.out.2.1
    have cHB20 := HB2.out.2.1
    go_enter Tryd.func12, Tryd.ntmps12
    go_wp2_with fail
    clear hfold
    refine (class_calls _ A _ HU.out).mono ?_
    rintro e W11 ⟨rfl, hB⟩
    clear cHA0 cHB20
    replace HA := Lib.hid (HA.out.below hB)
    replace HB2 := Lib.hid (HB2.out.below hB)
    replace HB := Lib.hid (HB.out.trans (hB.mono HB.out.size))
    replace HU := Lib.hid (HU.out.grow hB)
    replace HU2 := Lib.hid (HU2.out.grow hB)
    rw [HCA.out]
    clear hB
    have cHA0 := HA.out.2.1
    have cHB20 := HB2.out.2.1
    go_wp2_with fail
    refine (class_calls _ B _ HU2.out).mono ?_
    rintro e W12 ⟨rfl, hB⟩
    clear cHA0 cHB20
    replace HA := Lib.hid (HA.out.below hB)
    replace HB2 := Lib.hid (HB2.out.below hB)
    replace HB := Lib.hid (HB.out.trans (hB.mono HB.out.size))
    replace HU := Lib.hid (HU.out.grow hB)
    replace HU2 := Lib.hid (HU2.out.grow hB)
    rw [HCB.out]
    clear hB
    have cHA0 := HA.out.2.1
    have cHB20 := HB2.out.2.1
    go_wp2_with fail
    go_ret2
    exact ⟨rfl, HB.out⟩
  subst hne
  rcases HC3.out with rfl | rfl | rfl
  · have e1 : orB A B = true := by unfold orB; rw [HCA.out, HCB.out]; rfl
    have HKA := Lib.hid (show keyV A i = V (atI A.nums 0 (i : Int)) by unfold keyV; rw [if_pos HCA.out])
    have HKB := Lib.hid (show keyV B k = V (atI B.nums 0 (k : Int)) by unfold keyV; rw [if_pos HCB.out])
    obtain ⟨x, hx⟩ : ∃ x, atI A.nums 0 (i : Int) = x := ⟨_, rfl⟩
    obtain ⟨y, hy⟩ : ∃ y, atI B.nums 0 (k : Int) = y := ⟨_, rfl⟩
    have HX := Lib.hid hx
    have HY := Lib.hid hy
    have HFX := Lib.hid (show Fnt x by rw [← hx]; exact HFA.out _ (atI_memN (by rw [VV.nums_len0 HCA.out]; exact HI.out)))
    have HFY := Lib.hid (show Fnt y by rw [← hy]; exact HFB.out _ (atI_memN (by rw [VV.nums_len0 HCB.out]; exact HK.out)))
    clear hx hy
    have e2 : orC A i B k = cmpI (V x) (V y) := by unfold orC; rw [e1, if_pos rfl, HKA.out, HKB.out, HX.out, HY.out]
    rw [e1, e2]
    clear e1 e2
    have cHA0 := HA.out.2.1
    have cHB20 := HB2.out.2.1
    go_enter Tryd.func12, Tryd.ntmps12
    go_wp2_with fail
    clear hfold
    refine (class_calls _ A _ HU.out).mono ?_
    rintro e W11 ⟨rfl, hB⟩
    clear cHA0 cHB20
    replace HA := Lib.hid (HA.out.below hB)
    replace HB2 := Lib.hid (HB2.out.below hB)
    replace HB := Lib.hid (HB.out.trans (hB.mono HB.out.size))
    replace HU := Lib.hid (HU.out.grow hB)
    replace HU2 := Lib.hid (HU2.out.grow hB)
    rw [HCA.out]
    clear hB
    have cHA0 := HA.out.2.1
    have cHB20 := HB2.out.2.1
    go_wp2_with fail
    refine (class_calls _ B _ HU2.out).mono ?_
    rintro e W12 ⟨rfl, hB⟩
    clear cHA0 cHB20
    replace HA := Lib.hid (HA.out.below hB)
    replace HB2 := Lib.hid (HB2.out.below hB)
    replace HB := Lib.hid (HB.out.trans (hB.mono HB.out.size))
    replace HU := Lib.hid (HU.out.grow hB)
    replace HU2 := Lib.hid (HU2.out.grow hB)
    rw [HCB.out]
    clear hB
    have cHA0 := HA.out.2.1
    have cHB20 := HB2.out.2.1
    go_wp2_with fail
    refine (ohas_calls _ _).mono ?_
    rintro e w9 ⟨rfl, rfl⟩
    go_wp2_with fail
    refine (vlen_calls _ A _ HU.out).mono ?_
    rintro e W13 ⟨rfl, hB⟩
    clear cHA0 cHB20
    replace HA := Lib.hid (HA.out.below hB)
    replace HB2 := Lib.hid (HB2.out.below hB)
    replace HB := Lib.hid (HB.out.trans (hB.mono HB.out.size))
    replace HU := Lib.hid (HU.out.grow hB)
    replace HU2 := Lib.hid (HU2.out.grow hB)
    clear hB
    have cHA0 := HA.out.2.1
    have cHB20 := HB2.out.2.1
    go_wp2_with fail
    refine (oex_yes _ HI.out).mono ?_
    rintro e w9 ⟨rfl, rfl⟩
    go_wp2_with fail
    refine (vlen_calls _ B _ HU2.out).mono ?_
    rintro e W14 ⟨rfl, hB⟩
    clear cHA0 cHB20
    replace HA := Lib.hid (HA.out.below hB)
    replace HB2 := Lib.hid (HB2.out.below hB)
    replace HB := Lib.hid (HB.out.trans (hB.mono HB.out.size))
    replace HU := Lib.hid (HU.out.grow hB)
    replace HU2 := Lib.hid (HU2.out.grow hB)
    clear hB
    have cHA0 := HA.out.2.1
    have cHB20 := HB2.out.2.1
    go_wp2_with fail
    refine (oex_yes _ HK.out).mono ?_
    rintro e w9 ⟨rfl, rfl⟩
    go_wp2_with fail
    obtain ⟨W15, hWD⟩ : ∃ xw9, W14.drew = xw9 := ⟨_, rfl⟩
    have hB : Below W14.heap.size W14 W15 := by rw [← hWD]; exact Below.drewN' (Below.refl _ _) 1
    clear cHA0 cHB20
    replace HA := Lib.hid (HA.out.below hB)
    replace HB2 := Lib.hid (HB2.out.below hB)
    replace HB := Lib.hid (HB.out.trans (hB.mono HB.out.size))
    replace HU := Lib.hid (HU.out.grow hB)
    replace HU2 := Lib.hid (HU2.out.grow hB)
    clear hB
    refine wp_region_held_drew (S := fun w' => w'.cell? ⟨w.heap.size, 0, none⟩ = some (uA) ∧ w'.cell? ⟨(w.heap.size + 1), 0, none⟩ = some (uB)) (by kernel_rfl) (by rw [hWD]; exact ⟨HA.out.2.1, HB2.out.2.1⟩) (fun hHeld => ?_)
    rw [hWD] at hHeld ⊢
    clear hWD
    refine wpAnyH_take (i := 0) (v := ?_) rfl (by kernel_rfl) (by kernel_rfl) (by kernel_rfl) (fun _ _ _ h => h) (Or.inl ⟨by rfl, ?_⟩) (by assumption) ?_
    rotate_left
    · (intro w hSw; (try dsimp only at hSw); go_simp; try with_reducible rfl)
    simp only [Act.put, List.getElem_toArray, List.getElem_cons_zero, List.setIfInBounds_toArray, List.set_cons_zero, List.set_cons_succ]
    refine wpAnyH_take (i := 1) (v := ?_) rfl (by kernel_rfl) (by kernel_rfl) (by kernel_rfl) (fun _ _ _ h => h) (Or.inl ⟨by rfl, ?_⟩) (by assumption) ?_
    rotate_left
    · (intro w hSw; (try dsimp only at hSw); go_simp; try with_reducible rfl)
    simp only [Act.put, List.getElem_toArray, List.getElem_cons_succ, List.getElem_cons_zero, List.setIfInBounds_toArray, List.set_cons_zero, List.set_cons_succ]
    refine wpAnyH_take (i := 3) (v := ?_) rfl (by kernel_rfl) (by kernel_rfl) (by kernel_rfl) (fun _ _ _ h => h) (Or.inl ⟨by rfl, ?_⟩) (by assumption) ?_
    rotate_left
    · (intro w hSw; (try dsimp only at hSw); go_simp; try with_reducible rfl)
    simp only [Act.put, List.getElem_toArray, List.getElem_cons_succ, List.getElem_cons_zero, List.setIfInBounds_toArray, List.set_cons_zero, List.set_cons_succ]
    refine wpAnyH_take (i := 4) (v := ?_) rfl (by kernel_rfl) (by kernel_rfl) (by kernel_rfl) (fun _ _ _ h => h) (Or.inl ⟨by rfl, ?_⟩) (by assumption) ?_
    rotate_left
    · (intro w hSw; (try dsimp only at hSw); go_simp; try with_reducible rfl)
    simp only [Act.put, List.getElem_toArray, List.getElem_cons_succ, List.getElem_cons_zero, List.setIfInBounds_toArray, List.set_cons_zero, List.set_cons_succ]
    refine wpAnyH_ready (rs := [2]) (by kernel_rfl) (by simp) ?_
    refine AllReadyH.cons (o := _) rfl (fun K hK => ?_) AllReadyH.nil
    clear hHeld
    go_simp
    refine (num_calls _ A _ _ HU.out).mono ?_
    rintro e W16 ⟨rfl, hB⟩
    replace HA := Lib.hid (HA.out.below hB)
    replace HB2 := Lib.hid (HB2.out.below hB)
    replace HB := Lib.hid (HB.out.trans (hB.mono HB.out.size))
    replace HU := Lib.hid (HU.out.grow hB)
    replace HU2 := Lib.hid (HU2.out.grow hB)
    rw [HX.out]
    clear hB
    try go_simp
    refine hK.out _ _ ?_ (fun hHeld => ?_)
    · exact ⟨HA.out.2.1, HB2.out.2.1⟩
    clear hK K
    refine wpAnyH_ready (rs := [5]) (by kernel_rfl) (by simp) ?_
    refine AllReadyH.cons (o := _) rfl (fun K hK => ?_) AllReadyH.nil
    clear hHeld
    go_simp
    refine (num_calls _ B _ _ HU2.out).mono ?_
    rintro e W17 ⟨rfl, hB⟩
    replace HA := Lib.hid (HA.out.below hB)
    replace HB2 := Lib.hid (HB2.out.below hB)
    replace HB := Lib.hid (HB.out.trans (hB.mono HB.out.size))
    replace HU := Lib.hid (HU.out.grow hB)
    replace HU2 := Lib.hid (HU2.out.grow hB)
    rw [HY.out]
    clear hB
    try go_simp
    refine hK.out _ _ ?_ (fun hHeld => ?_)
    · exact ⟨HA.out.2.1, HB2.out.2.1⟩
    clear hK K
    refine wpAnyH_ready (rs := [6]) (by kernel_rfl) (by simp) ?_
    refine AllReadyH.cons (o := _) rfl (fun K hK => ?_) AllReadyH.nil
    clear hHeld
    go_simp
    refine (cmpF_calls _ _ _ HFX.out HFY.out).mono ?_
    rintro e w9 ⟨rfl, rfl⟩
    try go_simp
    refine hK.out _ _ ?_ (fun hHeld => ?_)
    · exact ⟨HA.out.2.1, HB2.out.2.1⟩
    clear hK K
    refine wpAnyH_take (i := 7) (v := ?_) rfl (by kernel_rfl) (by kernel_rfl) (by kernel_rfl) (fun _ _ _ h => h) (Or.inl ⟨by rfl, ?_⟩) (by assumption) ?_
    rotate_left
    · (intro w hSw; (try dsimp only at hSw); go_simp; try with_reducible rfl)
    simp only [Act.put, List.getElem_toArray, List.getElem_cons_succ, List.getElem_cons_zero, List.setIfInBounds_toArray, List.set_cons_zero, List.set_cons_succ]
    refine wpAnyH_take (i := 8) (v := ?_) rfl (by kernel_rfl) (by kernel_rfl) (by kernel_rfl) (fun _ _ _ h => h) (Or.inl ⟨by rfl, ?_⟩) (by assumption) ?_
    rotate_left
    · (intro w hSw; (try dsimp only at hSw); go_simp; try with_reducible rfl)
    simp only [Act.put, List.getElem_toArray, List.getElem_cons_succ, List.getElem_cons_zero, List.setIfInBounds_toArray, List.set_cons_zero, List.set_cons_succ]
    refine wpAnyH_done (by kernel_rfl) ?_ _
    clear hHeld
    have cHA0 := HA.out.2.1
    have cHB20 := HB2.out.2.1
    go_wp2_with fail
    go_ret2
    exact ⟨rfl, HB.out⟩
  · have e1 : orB A B = true := by unfold orB; rw [HCA.out, HCB.out]; rfl
    have HKA := Lib.hid (show keyV A i = atI A.text 0 (i : Int) by unfold keyV; rw [if_neg (by rw [HCA.out]; decide)])
    have HKB := Lib.hid (show keyV B k = atI B.text 0 (k : Int) by unfold keyV; rw [if_neg (by rw [HCB.out]; decide)])
    obtain ⟨x, hx⟩ : ∃ x, atI A.text 0 (i : Int) = x := ⟨_, rfl⟩
    obtain ⟨y, hy⟩ : ∃ y, atI B.text 0 (k : Int) = y := ⟨_, rfl⟩
    have HX := Lib.hid hx
    have HY := Lib.hid hy
    clear hx hy
    have e2 : orC A i B k = cmpI x y := by unfold orC; rw [e1, if_pos rfl, HKA.out, HKB.out, HX.out, HY.out]
    rw [e1, e2]
    clear e1 e2
    have cHA0 := HA.out.2.1
    have cHB20 := HB2.out.2.1
    go_enter Tryd.func12, Tryd.ntmps12
    go_wp2_with fail
    clear hfold
    refine (class_calls _ A _ HU.out).mono ?_
    rintro e W11 ⟨rfl, hB⟩
    clear cHA0 cHB20
    replace HA := Lib.hid (HA.out.below hB)
    replace HB2 := Lib.hid (HB2.out.below hB)
    replace HB := Lib.hid (HB.out.trans (hB.mono HB.out.size))
    replace HU := Lib.hid (HU.out.grow hB)
    replace HU2 := Lib.hid (HU2.out.grow hB)
    rw [HCA.out]
    clear hB
    have cHA0 := HA.out.2.1
    have cHB20 := HB2.out.2.1
    go_wp2_with fail
    refine (class_calls _ B _ HU2.out).mono ?_
    rintro e W12 ⟨rfl, hB⟩
    clear cHA0 cHB20
    replace HA := Lib.hid (HA.out.below hB)
    replace HB2 := Lib.hid (HB2.out.below hB)
    replace HB := Lib.hid (HB.out.trans (hB.mono HB.out.size))
    replace HU := Lib.hid (HU.out.grow hB)
    replace HU2 := Lib.hid (HU2.out.grow hB)
    rw [HCB.out]
    clear hB
    have cHA0 := HA.out.2.1
    have cHB20 := HB2.out.2.1
    go_wp2_with fail
    refine (ohas_calls _ _).mono ?_
    rintro e w9 ⟨rfl, rfl⟩
    go_wp2_with fail
    refine (vlen_calls _ A _ HU.out).mono ?_
    rintro e W13 ⟨rfl, hB⟩
    clear cHA0 cHB20
    replace HA := Lib.hid (HA.out.below hB)
    replace HB2 := Lib.hid (HB2.out.below hB)
    replace HB := Lib.hid (HB.out.trans (hB.mono HB.out.size))
    replace HU := Lib.hid (HU.out.grow hB)
    replace HU2 := Lib.hid (HU2.out.grow hB)
    clear hB
    have cHA0 := HA.out.2.1
    have cHB20 := HB2.out.2.1
    go_wp2_with fail
    refine (oex_yes _ HI.out).mono ?_
    rintro e w9 ⟨rfl, rfl⟩
    go_wp2_with fail
    refine (vlen_calls _ B _ HU2.out).mono ?_
    rintro e W14 ⟨rfl, hB⟩
    clear cHA0 cHB20
    replace HA := Lib.hid (HA.out.below hB)
    replace HB2 := Lib.hid (HB2.out.below hB)
    replace HB := Lib.hid (HB.out.trans (hB.mono HB.out.size))
    replace HU := Lib.hid (HU.out.grow hB)
    replace HU2 := Lib.hid (HU2.out.grow hB)
    clear hB
    have cHA0 := HA.out.2.1
    have cHB20 := HB2.out.2.1
    go_wp2_with fail
    refine (oex_yes _ HK.out).mono ?_
    rintro e w9 ⟨rfl, rfl⟩
    go_wp2_with fail
    obtain ⟨W15, hWD⟩ : ∃ xw9, W14.drew = xw9 := ⟨_, rfl⟩
    have hB : Below W14.heap.size W14 W15 := by rw [← hWD]; exact Below.drewN' (Below.refl _ _) 1
    clear cHA0 cHB20
    replace HA := Lib.hid (HA.out.below hB)
    replace HB2 := Lib.hid (HB2.out.below hB)
    replace HB := Lib.hid (HB.out.trans (hB.mono HB.out.size))
    replace HU := Lib.hid (HU.out.grow hB)
    replace HU2 := Lib.hid (HU2.out.grow hB)
    clear hB
    refine wp_region_held_drew (S := fun w' => w'.cell? ⟨w.heap.size, 0, none⟩ = some (uA) ∧ w'.cell? ⟨(w.heap.size + 1), 0, none⟩ = some (uB)) (by kernel_rfl) (by rw [hWD]; exact ⟨HA.out.2.1, HB2.out.2.1⟩) (fun hHeld => ?_)
    rw [hWD] at hHeld ⊢
    clear hWD
    refine wpAnyH_take (i := 0) (v := ?_) rfl (by kernel_rfl) (by kernel_rfl) (by kernel_rfl) (fun _ _ _ h => h) (Or.inl ⟨by rfl, ?_⟩) (by assumption) ?_
    rotate_left
    · (intro w hSw; (try dsimp only at hSw); go_simp; try with_reducible rfl)
    simp only [Act.put, List.getElem_toArray, List.getElem_cons_zero, List.setIfInBounds_toArray, List.set_cons_zero, List.set_cons_succ]
    refine wpAnyH_take (i := 1) (v := ?_) rfl (by kernel_rfl) (by kernel_rfl) (by kernel_rfl) (fun _ _ _ h => h) (Or.inl ⟨by rfl, ?_⟩) (by assumption) ?_
    rotate_left
    · (intro w hSw; (try dsimp only at hSw); go_simp; try with_reducible rfl)
    simp only [Act.put, List.getElem_toArray, List.getElem_cons_succ, List.getElem_cons_zero, List.setIfInBounds_toArray, List.set_cons_zero, List.set_cons_succ]
    refine wpAnyH_take (i := 3) (v := ?_) rfl (by kernel_rfl) (by kernel_rfl) (by kernel_rfl) (fun _ _ _ h => h) (Or.inl ⟨by rfl, ?_⟩) (by assumption) ?_
    rotate_left
    · (intro w hSw; (try dsimp only at hSw); go_simp; try with_reducible rfl)
    simp only [Act.put, List.getElem_toArray, List.getElem_cons_succ, List.getElem_cons_zero, List.setIfInBounds_toArray, List.set_cons_zero, List.set_cons_succ]
    refine wpAnyH_take (i := 4) (v := ?_) rfl (by kernel_rfl) (by kernel_rfl) (by kernel_rfl) (fun _ _ _ h => h) (Or.inl ⟨by rfl, ?_⟩) (by assumption) ?_
    rotate_left
    · (intro w hSw; (try dsimp only at hSw); go_simp; try with_reducible rfl)
    simp only [Act.put, List.getElem_toArray, List.getElem_cons_succ, List.getElem_cons_zero, List.setIfInBounds_toArray, List.set_cons_zero, List.set_cons_succ]
    refine wpAnyH_ready (rs := [2]) (by kernel_rfl) (by simp) ?_
    refine AllReadyH.cons (o := _) rfl (fun K hK => ?_) AllReadyH.nil
    clear hHeld
    go_simp
    refine (vchar_calls _ A _ _ HU.out).mono ?_
    rintro e W16 ⟨rfl, hB⟩
    replace HA := Lib.hid (HA.out.below hB)
    replace HB2 := Lib.hid (HB2.out.below hB)
    replace HB := Lib.hid (HB.out.trans (hB.mono HB.out.size))
    replace HU := Lib.hid (HU.out.grow hB)
    replace HU2 := Lib.hid (HU2.out.grow hB)
    rw [HX.out]
    clear hB
    try go_simp
    refine hK.out _ _ ?_ (fun hHeld => ?_)
    · exact ⟨HA.out.2.1, HB2.out.2.1⟩
    clear hK K
    refine wpAnyH_ready (rs := [5]) (by kernel_rfl) (by simp) ?_
    refine AllReadyH.cons (o := _) rfl (fun K hK => ?_) AllReadyH.nil
    clear hHeld
    go_simp
    refine (vchar_calls _ B _ _ HU2.out).mono ?_
    rintro e W17 ⟨rfl, hB⟩
    replace HA := Lib.hid (HA.out.below hB)
    replace HB2 := Lib.hid (HB2.out.below hB)
    replace HB := Lib.hid (HB.out.trans (hB.mono HB.out.size))
    replace HU := Lib.hid (HU.out.grow hB)
    replace HU2 := Lib.hid (HU2.out.grow hB)
    rw [HY.out]
    clear hB
    try go_simp
    refine hK.out _ _ ?_ (fun hHeld => ?_)
    · exact ⟨HA.out.2.1, HB2.out.2.1⟩
    clear hK K
    refine wpAnyH_ready (rs := [6]) (by kernel_rfl) (by simp) ?_
    refine AllReadyH.cons (o := _) rfl (fun K hK => ?_) AllReadyH.nil
    clear hHeld
    go_simp
    refine (cmpR_calls _ _ _).mono ?_
    rintro e w9 ⟨rfl, rfl⟩
    try go_simp
    refine hK.out _ _ ?_ (fun hHeld => ?_)
    · exact ⟨HA.out.2.1, HB2.out.2.1⟩
    clear hK K
    refine wpAnyH_take (i := 7) (v := ?_) rfl (by kernel_rfl) (by kernel_rfl) (by kernel_rfl) (fun _ _ _ h => h) (Or.inl ⟨by rfl, ?_⟩) (by assumption) ?_
    rotate_left
    · (intro w hSw; (try dsimp only at hSw); go_simp; try with_reducible rfl)
    simp only [Act.put, List.getElem_toArray, List.getElem_cons_succ, List.getElem_cons_zero, List.setIfInBounds_toArray, List.set_cons_zero, List.set_cons_succ]
    refine wpAnyH_take (i := 8) (v := ?_) rfl (by kernel_rfl) (by kernel_rfl) (by kernel_rfl) (fun _ _ _ h => h) (Or.inl ⟨by rfl, ?_⟩) (by assumption) ?_
    rotate_left
    · (intro w hSw; (try dsimp only at hSw); go_simp; try with_reducible rfl)
    simp only [Act.put, List.getElem_toArray, List.getElem_cons_succ, List.getElem_cons_zero, List.setIfInBounds_toArray, List.set_cons_zero, List.set_cons_succ]
    refine wpAnyH_done (by kernel_rfl) ?_ _
    clear hHeld
    have cHA0 := HA.out.2.1
    have cHB20 := HB2.out.2.1
    go_wp2_with fail
    go_ret2
    exact ⟨rfl, HB.out⟩
  · have e1 : orB A B = false := by unfold orB; rw [HCA.out, HCB.out]; rfl
    have e2 : orC A i B k = 0 := by unfold orC; rw [e1]; rfl
    rw [e1, e2]
    clear e1 e2
    have cHA0 := HA.out.2.1
    have cHB20 := HB2.out.2.1
    go_enter Tryd.func12, Tryd.ntmps12
    go_wp2_with fail
    clear hfold
    refine (class_calls _ A _ HU.out).mono ?_
    rintro e W11 ⟨rfl, hB⟩
    clear cHA0 cHB20
    replace HA := Lib.hid (HA.out.below hB)
    replace HB2 := Lib.hid (HB2.out.below hB)
    replace HB := Lib.hid (HB.out.trans (hB.mono HB.out.size))
    replace HU := Lib.hid (HU.out.grow hB)
    replace HU2 := Lib.hid (HU2.out.grow hB)
    rw [HCA.out]
    clear hB
    have cHA0 := HA.out.2.1
    have cHB20 := HB2.out.2.1
    go_wp2_with fail
    refine (class_calls _ B _ HU2.out).mono ?_
    rintro e W12 ⟨rfl, hB⟩
    clear cHA0 cHB20
    replace HA := Lib.hid (HA.out.below hB)
    replace HB2 := Lib.hid (HB2.out.below hB)
    replace HB := Lib.hid (HB.out.trans (hB.mono HB.out.size))
    replace HU := Lib.hid (HU.out.grow hB)
    replace HU2 := Lib.hid (HU2.out.grow hB)
    rw [HCB.out]
    clear hB
    have cHA0 := HA.out.2.1
    have cHB20 := HB2.out.2.1
    go_wp2_with fail
    refine (ohas_calls _ _).mono ?_
    rintro e w9 ⟨rfl, rfl⟩
    go_wp2_with fail
    go_ret2
    exact ⟨rfl, HB.out⟩
end Go.Proofs.YtibkbhglcmpeaaaDoor

/- Layer 16, walked: Cells, Less. -/
namespace Go.Proofs.YtibkbhglcmpeaaaDoor
set_option maxRecDepth 100000
open Go.RowKit Fl
set_option linter.unusedVariables false

theorem ocompare_at {okA okB : Nat → Prop} (uA uB : Value) (A B : VV) (i k : Nat) (x y : Int) (w : World) (hA : IsV w okA uA A) (hB' : IsV w okB uB B) (fA : ∀ x ∈ A.nums, Fnt x) (fB : ∀ x ∈ B.nums, Fnt x) (hx : x = (i : Int)) (hy : y = (k : Int)) (hi : i < A.len) (hk : k < B.len) :
    Calls Tryd.prog 12 #[.agg #[uA], .int .i64 x, .agg #[uB], .int .i64 y] w fun e w' => e = .returned (.tuple #[.int .i64 (orC A i B k), .bool (orB A B)]) ∧ Below w.heap.size w w' := by
  subst hx hy
  exact ocompare_calls uA uB A B i k w hA hB' fA fB hi hk
theorem orB_self {A : VV} (h : A.cls < 2) : orB A A = true := decide_eq_true ⟨rfl, h⟩
theorem orC_self {A : VV} (h : A.cls < 2) (i k : Nat) : orC A i A k = cmpI (keyV A i) (keyV A k) := by unfold orC; rw [orB_self h]; rfl
/-- Cell i lies within n elements. -/
theorem cell_in {n size i : Nat} (h : i < n / size) : i * size + size ≤ n := by
  have h1 : (i + 1) * size ≤ n / size * size := Nat.mul_le_mul_right _ h
  have h2 := Nat.div_mul_le_self n size
  rw [Nat.add_mul, Nat.one_mul] at h1
  omega
theorem cmpK_lt {K : Nat → Int} {size i k j : Nat} (hj : j < size) (h : ∀ m, m < j → K (i * size + m) = K (k * size + m)) (hl : K (i * size + j) < K (k * size + j)) : cmpK K size i k = -1 := by
  unfold cmpK
  rw [lexI_hit (celK_get hj) (celK_get hj) (fun m hm => by rw [celK_get (by omega), celK_get (by omega), h m hm]), if_pos hl]
theorem cmpK_gt {K : Nat → Int} {size i k j : Nat} (hj : j < size) (h : ∀ m, m < j → K (i * size + m) = K (k * size + m)) (hl : K (k * size + j) < K (i * size + j)) : cmpK K size i k = 1 := by
  unfold cmpK
  rw [lexI_hit (celK_get hj) (celK_get hj) (fun m hm => by rw [celK_get (by omega), celK_get (by omega), h m hm]), if_neg (by omega), if_pos hl]
theorem cmpK_eq {K : Nat → Int} {size i k : Nat} (h : ∀ m, m < size → K (i * size + m) = K (k * size + m)) : cmpK K size i k = 0 := by
  unfold cmpK
  exact lexI_all (by rw [celK_len, celK_len]) (fun m hm => by rw [celK_len] at hm; rw [celK_get hm, celK_get hm, h m hm])
set_option maxHeartbeats 8000000 in
theorem ocells_calls {ok : Nat → Prop} (u : Value) (A : VV) (size i k : Nat) (w : World) (h : IsV w ok u A) (fA : ∀ x ∈ A.nums, Fnt x) (hc : A.cls < 2) (hs : 0 < size) (hm : A.len ≤ 1048576) (hi : i < A.len / size) (hk : k < A.len / size) :
    Calls Tryd.prog 17 #[.agg #[u], .int .i64 (size : Int), .int .i64 (i : Int), .int .i64 (k : Int)] w fun e w' => e = .returned (.int .i64 (cmpK (keyV A) size i k)) ∧ Below w.heap.size w w' := by
  have hsu := h.store
  have hin := cell_in hi
  have hkn := cell_in hk
  have hsm : size ≤ 1048576 := by omega
  have hQm : A.len / size ≤ A.len := Nat.div_le_self _ _
  obtain ⟨K, hK⟩ : ∃ K, keyV A = K := ⟨_, rfl⟩
  have HK := Lib.hid hK
  rw [hK]
  obtain ⟨R, hR⟩ : ∃ R, cmpK K size i k = R := ⟨_, rfl⟩
  have HR := Lib.hid hR
  rw [hR]
  obtain ⟨P, hP⟩ : ∃ P, i * size = P := ⟨_, rfl⟩
  obtain ⟨S, hS⟩ : ∃ S, k * size = S := ⟨_, rfl⟩
  rw [hP] at hin
  rw [hS] at hkn
  have HP := Lib.hid hP
  have HS := Lib.hid hS
  have HIN := Lib.hid (And.intro hin hkn)
  have HFA := Lib.hid fA
  have HC := Lib.hid hc
  have HM := Lib.hid hm
  have HPOS := Lib.hid hs
  obtain ⟨W1, hW1⟩ : ∃ W1, W1 = w.alloc (.cells #[u] 37) := ⟨_, rfl⟩
  have HB := Lib.hid (show Below w.heap.size w W1 by rw [hW1]; exact below_new _ _)
  have HA := Lib.hid (show At1 W1 w.heap.size u by rw [hW1]; exact At1.new w _ _)
  have HU := Lib.hid (show IsV W1 ok u A from h.grow HB.out)
  obtain ⟨Q, hQ⟩ : ∃ Q, A.len / size = Q := ⟨_, rfl⟩
  rw [hQ] at hi hk hQm
  have HQ := Lib.hid hQ
  have HI := Lib.hid hi
  have HKQ := Lib.hid hk
  have q1 : IntKind.i64.wrap ((i : Int) * (size : Int)) = (P : Int) := by rw [← Int.natCast_mul, hP]; exact IntWalk.i64_in _ (by omega)
  have q2 : IntKind.i64.wrap ((k : Int) * (size : Int)) = (S : Int) := by rw [← Int.natCast_mul, hS]; exact IntWalk.i64_in _ (by omega)
  have hPm : P + size ≤ 1048576 := by omega
  have hSm : S + size ≤ 1048576 := by omega
  have hfold := hW1.symm
  clear h hW1 fA hc hm hi hk hin hkn hK hR hP hS hQ hQm
  have cHA0 := HA.out.2.1
  go_enter Tryd.func17, Tryd.ntmps17
  go_wp2_with fail
  clear hfold
  refine (ocount_calls _ A size _ HU.out HPOS.out (by omega) HM.out).mono ?_
  rintro e W11 ⟨rfl, hB⟩
  clear cHA0
  replace HA := Lib.hid (HA.out.below hB)
  replace HB := Lib.hid (HB.out.trans (hB.mono HB.out.size))
  replace HU := Lib.hid (HU.out.grow hB)
  rw [HQ.out]
  clear hB
  have cHA0 := HA.out.2.1
  go_wp2_with fail
  refine (oex_yes _ HI.out).mono ?_
  rintro e w9 ⟨rfl, rfl⟩
  go_wp2_with fail
  refine (oex_yes _ HKQ.out).mono ?_
  rintro e w9 ⟨rfl, rfl⟩
  have HW := Lib.hid (Below.refl W11.heap.size W11)
  obtain ⟨W0, hW0⟩ : ∃ W0, W0 = W11 := ⟨_, rfl⟩
  rw [← hW0] at HA HB HU HW cHA0 ⊢
  clear hW0
  go_wp2_with fail
  go_loopw [27] (fun jv wr => ∃ j : Nat, j ≤ size ∧ jv = .int .i64 j ∧ (∀ m, m < j → K (P + m) = K (S + m)) ∧ Below W0.heap.size W0 wr) (fun jv _ => size - (intOf jv).toNat)
  case atStart => exact ⟨0, by omega, rfl, fun m hm => absurd hm (Nat.not_lt_zero _), HW.out⟩
  case round =>
    obtain ⟨j, hj, rfl, heq, hBr⟩ := hrel
    have HE := Lib.hid heq
    clear heq
    clear cHA0
    replace HA := Lib.hid (HA.out.below hBr)
    replace HU := Lib.hid (HU.out.grow hBr)
    replace HB := Lib.hid (HB.out.trans (hBr.mono HB.out.size))
    replace HW := Lib.hid hBr
    clear hBr
    by_cases hlt : j < size
    · have HIJ := Lib.hid (show P + j < A.len ∧ S + j < A.len by have := HIN.out; omega)
      have HLT := Lib.hid hlt
      have HC1 := Lib.hid (orC_self HC.out (P + j) (S + j))
      rw [HK.out] at HC1
      rcases Int.lt_trichotomy (K (P + j)) (K (S + j)) with hv | hv | hv
      · have HV := Lib.hid (HC1.out.trans (cmpI_lt hv))
        have HKV := Lib.hid hv
        clear hv
        have cHA0 := HA.out.2.1
        go_wp2_with fail
        refine (ocompare_at _ _ A A (P + j) (S + j) _ _ _ HU.out HU.out HFA.out HFA.out (by omega) (by omega) HIJ.out.1 HIJ.out.2).mono ?_
        rintro e W12 ⟨rfl, hB⟩
        clear cHA0
        replace HA := Lib.hid (HA.out.below hB)
        replace HB := Lib.hid (HB.out.trans (hB.mono HB.out.size))
        replace HU := Lib.hid (HU.out.grow hB)
        replace HW := Lib.hid (HW.out.trans (hB.mono HW.out.size))
        rw [HV.out]
        clear hB
        have cHA0 := HA.out.2.1
        go_wp2_with fail
        have HRV : R = -1 := by rw [← HR.out]; exact cmpK_lt (j := j) HLT.out (fun m hm => by rw [HP.out, HS.out]; exact HE.out m hm) (by rw [HP.out, HS.out]; exact HKV.out)
        go_ret
        exact ⟨by rw [HRV]; rfl, HB.out⟩
      · have HV := Lib.hid (HC1.out.trans (cmpI_eq hv))
        have HKV := Lib.hid hv
        clear hv
        have cHA0 := HA.out.2.1
        go_wp2_with fail
        refine (ocompare_at _ _ A A (P + j) (S + j) _ _ _ HU.out HU.out HFA.out HFA.out (by omega) (by omega) HIJ.out.1 HIJ.out.2).mono ?_
        rintro e W12 ⟨rfl, hB⟩
        clear cHA0
        replace HA := Lib.hid (HA.out.below hB)
        replace HB := Lib.hid (HB.out.trans (hB.mono HB.out.size))
        replace HU := Lib.hid (HU.out.grow hB)
        replace HW := Lib.hid (HW.out.trans (hB.mono HW.out.size))
        rw [HV.out]
        clear hB
        have cHA0 := HA.out.2.1
        go_wp2_with fail
        go_roundw
        case rel => exact ⟨j + 1, by omega, by go_num, fun m hm => by
          by_cases hmj : m < j
          · exact HE.out m hmj
          · rw [show m = j by omega]; exact HKV.out, HW.out⟩
        case measure => simp [intOf]; omega
      · have HV := Lib.hid (HC1.out.trans (cmpI_gt hv))
        have HKV := Lib.hid hv
        clear hv
        have cHA0 := HA.out.2.1
        go_wp2_with fail
        refine (ocompare_at _ _ A A (P + j) (S + j) _ _ _ HU.out HU.out HFA.out HFA.out (by omega) (by omega) HIJ.out.1 HIJ.out.2).mono ?_
        rintro e W12 ⟨rfl, hB⟩
        clear cHA0
        replace HA := Lib.hid (HA.out.below hB)
        replace HB := Lib.hid (HB.out.trans (hB.mono HB.out.size))
        replace HU := Lib.hid (HU.out.grow hB)
        replace HW := Lib.hid (HW.out.trans (hB.mono HW.out.size))
        rw [HV.out]
        clear hB
        have cHA0 := HA.out.2.1
        go_wp2_with fail
        have HRV : R = 1 := by rw [← HR.out]; exact cmpK_gt (j := j) HLT.out (fun m hm => by rw [HP.out, HS.out]; exact HE.out m hm) (by rw [HP.out, HS.out]; exact HKV.out)
        go_ret
        exact ⟨by rw [HRV]; rfl, HB.out⟩
    · have HRV := Lib.hid (show R = 0 by rw [← HR.out]; exact cmpK_eq (fun m hm => by rw [HP.out, HS.out]; exact HE.out m (by omega)))
      have cHA0 := HA.out.2.1
      go_wp2_with fail
      go_ret
      exact ⟨by rw [HRV.out]; rfl, HB.out⟩

set_option maxHeartbeats 4000000 in
theorem oless_calls {ok : Nat → Prop} (u : Value) (A : VV) (size i k : Nat) (down : Bool) (w : World) (h : IsV w ok u A) (fA : ∀ x ∈ A.nums, Fnt x) (hc : A.cls < 2) (hs : 0 < size) (hm : A.len ≤ 1048576) (hi : i < A.len / size) (hk : k < A.len / size) :
    Calls Tryd.prog 19 #[.agg #[u], .int .i64 (size : Int), .int .i64 (i : Int), .int .i64 (k : Int), .bool down] w fun e w' => e = .returned (.bool (lesK (keyV A) size down i k)) ∧ Below w.heap.size w w' := by
  have hsu := h.store
  have HFA := Lib.hid fA
  have HC := Lib.hid hc
  have HM := Lib.hid hm
  have HPOS := Lib.hid hs
  have HI := Lib.hid hi
  have HK := Lib.hid hk
  obtain ⟨W1, hW1⟩ : ∃ W1, W1 = w.alloc (.cells #[u] 37) := ⟨_, rfl⟩
  have HB := Lib.hid (show Below w.heap.size w W1 by rw [hW1]; exact below_new _ _)
  have HA := Lib.hid (show At1 W1 w.heap.size u by rw [hW1]; exact At1.new w _ _)
  have HU := Lib.hid (show IsV W1 ok u A from h.grow HB.out)
  obtain ⟨C, hC⟩ : ∃ C, cmpK (keyV A) size i k = C := ⟨_, rfl⟩
  have HCC := Lib.hid hC
  have HC3 := Lib.hid (show C = -1 ∨ C = 0 ∨ C = 1 by rw [← hC]; exact lexI_cases _ _)
  have HL := Lib.hid (show lesK (keyV A) size down i k = decide ((if down = true then -C else C) < 0 ∨ (if down = true then -C else C) = 0 ∧ i < k) by unfold lesK; rw [hC])
  obtain ⟨L, hL⟩ : ∃ L, lesK (keyV A) size down i k = L := ⟨_, rfl⟩
  rw [hL] at HL ⊢
  have hfold := hW1.symm
  clear h hW1 fA hc hm hi hk hs hC hL
  have cHA0 := HA.out.2.1
  go_enter Tryd.func19, Tryd.ntmps19
  go_wp2_with fail
  clear hfold
  refine (ocells_calls _ A size i k _ HU.out HFA.out HC.out HPOS.out HM.out HI.out HK.out).mono ?_
  rintro e W11 ⟨rfl, hB⟩
  clear cHA0
  replace HA := Lib.hid (HA.out.below hB)
  replace HB := Lib.hid (HB.out.trans (hB.mono HB.out.size))
  replace HU := Lib.hid (HU.out.grow hB)
  rw [HCC.out]
  clear hB
  rcases HC3.out with rfl | rfl | rfl
  · cases down
    · go_wp2_with fail
      go_ret
      exact ⟨by rw [HL.out]; rfl, HB.out⟩
    · go_wp2_with fail
      go_ret
      exact ⟨by rw [HL.out]; rfl, HB.out⟩
  · have hz := Lib.hid (show L = decide (i < k) by rw [HL.out]; cases down <;> simp)
    go_wp2_with fail
    go_ret
    exact ⟨by rw [hz.out]; rfl, HB.out⟩
  · cases down
    · go_wp2_with fail
      go_ret
      exact ⟨by rw [HL.out]; rfl, HB.out⟩
    · go_wp2_with fail
      go_ret
      exact ⟨by rw [HL.out]; rfl, HB.out⟩
end Go.Proofs.YtibkbhglcmpeaaaDoor

/- Layer 16, plain: places, each once; where each stands. -/
namespace Go.Proofs.YtibkbhglcmpeaaaDoor
set_option maxRecDepth 100000
open Go.RowKit Fl
set_option linter.unusedVariables false

/-- Numbers below n, none twice. -/
def okP (n : Nat) (l : List Int) : Prop := (∀ x ∈ l, 0 ≤ x ∧ x < n) ∧ l.Nodup
/-- Where each stands: the row behind j of them. -/
def invT (n : Nat) (l : List Int) : Nat → List Int
  | 0 => List.replicate n (-1)
  | j + 1 => (invT n l j).set (l.getD j 0).toNat (j : Int)
theorem invT_len (n : Nat) (l : List Int) : ∀ j, (invT n l j).length = n
  | 0 => by simp [invT]
  | j + 1 => by simp only [invT, List.length_set]; exact invT_len n l j
theorem takeO_step {l : List Int} {j : Nat} {x : Int} (h : l[j]? = some x) : l.take (j + 1) = l.take j ++ [x] := by
  obtain ⟨h1, h2⟩ := List.getElem?_eq_some_iff.1 h
  rw [List.take_succ_eq_append_getElem h1, h2]
theorem okP_nil (n : Nat) : okP n [] := ⟨fun x h => (by cases h), List.nodup_nil⟩
theorem okP_step {n : Nat} {l : List Int} {j : Nat} {x : Int} (h : l[j]? = some x) : okP n (l.take (j + 1)) ↔ okP n (l.take j) ∧ (0 ≤ x ∧ x < n) ∧ x ∉ l.take j := by
  rw [takeO_step h]
  unfold okP
  rw [List.nodup_append]
  constructor
  · rintro ⟨h1, h2, _, h4⟩
    exact ⟨⟨fun y hy => h1 y (List.mem_append_left _ hy), h2⟩, h1 x (List.mem_append_right _ (List.mem_singleton.2 rfl)), fun hx => h4 x hx x (List.mem_singleton.2 rfl) rfl⟩
  · rintro ⟨⟨h1, h2⟩, h3, h4⟩
    refine ⟨fun y hy => ?_, h2, List.nodup_cons.2 ⟨by simp, List.nodup_nil⟩, fun a ha b hb e => ?_⟩
    · rcases List.mem_append.1 hy with h | h
      · exact h1 y h
      · rw [List.mem_singleton.1 h]; exact h3
    · rw [List.mem_singleton.1 hb] at e; exact h4 (e ▸ ha)
theorem okP_take {n : Nat} {l : List Int} {j : Nat} (h : okP n l) : okP n (l.take j) := ⟨fun x hx => h.1 x (List.mem_of_mem_take hx), (List.take_sublist j l).nodup h.2⟩
theorem invT_at {n : Nat} {l : List Int} : ∀ j, j ≤ l.length → okP n (l.take j) → (∀ (m : Nat) (x : Int), m < j → l[m]? = some x → (invT n l j)[x.toNat]? = some (m : Int)) ∧ (∀ p : Nat, p < n → (p : Int) ∉ l.take j → (invT n l j)[p]? = some (-1)) := by
  intro j
  induction j with
  | zero => intro _ _; exact ⟨fun m x h => absurd h (Nat.not_lt_zero _), fun p hp _ => by simp [invT, hp]⟩
  | succ j ih =>
    intro hj hok
    have hx : l[j]? = some l[j] := List.getElem?_eq_getElem hj
    obtain ⟨h1, h2, h3⟩ := (okP_step hx).1 hok
    obtain ⟨i1, i2⟩ := ih (by omega) h1
    have hd : l.getD j 0 = l[j] := by rw [List.getD_eq_getElem?_getD, hx]; rfl
    have hlen : l[j].toNat < (invT n l j).length := by rw [invT_len]; omega
    constructor
    · intro m x hm hmx
      simp only [invT, hd]
      by_cases hmj : m = j
      · subst hmj
        rw [hx] at hmx
        obtain rfl := Option.some.inj hmx
        rw [List.getElem?_set, if_pos rfl, if_pos hlen]
      · have hxm : x ∈ l.take j := by
          obtain ⟨b1, b2⟩ := List.getElem?_eq_some_iff.1 hmx
          rw [List.mem_take_iff_getElem]
          exact ⟨m, by omega, b2⟩
        have hne : ¬ l[j].toNat = x.toNat := fun e => by
          have := h1.1 x hxm
          exact h3 ((show l[j] = x by omega) ▸ hxm)
        rw [List.getElem?_set, if_neg hne]
        exact i1 m x (by omega) hmx
    · intro p hp hn
      simp only [invT, hd]
      rw [takeO_step hx] at hn
      have hne : ¬ l[j].toNat = p := fun e => hn (List.mem_append_right _ (List.mem_singleton.2 (by omega)))
      rw [List.getElem?_set, if_neg hne]
      exact i2 p hp (fun h => hn (List.mem_append_left _ h))
/-- What stands at a place: -1 where the place has not come up. -/
theorem invT_free {n : Nat} {l : List Int} {j p : Nat} (hj : j ≤ l.length) (hok : okP n (l.take j)) (hp : p < n) : (invT n l j)[p]? = some (-1) ↔ (p : Int) ∉ l.take j := by
  obtain ⟨h1, h2⟩ := invT_at j hj hok
  constructor
  · intro h hm
    obtain ⟨m, hm1, hm2⟩ := List.mem_take_iff_getElem.1 hm
    have := h1 m (p : Int) (by omega) (by rw [List.getElem?_eq_getElem (by omega), hm2])
    rw [Int.toNat_natCast, h] at this
    have := Option.some.inj this
    omega
  · exact h2 p hp
def invL (l : List Int) : List Int := invT l.length l l.length
/-- The row that is made: -1 up to a place. -/
def noneT (n k : Nat) : List Int := List.replicate k (-1) ++ List.replicate (n - k) 0
theorem noneT_len {n k : Nat} (h : k ≤ n) : (noneT n k).length = n := by simp [noneT]; omega
theorem noneT_set {n k : Nat} (h : k < n) : (noneT n k).set k (-1) = noneT n (k + 1) := by
  unfold noneT
  rw [show n - k = (n - (k + 1)) + 1 by omega, List.replicate_succ, List.set_append_right _ _ (by simp), List.length_replicate, Nat.sub_self, List.set_cons_zero, List.replicate_succ', List.append_assoc]
  rfl
theorem noneT_all (n : Nat) (l : List Int) : noneT n n = invT n l 0 := by simp [noneT, invT]
theorem noneT_zero (n : Nat) : noneT n 0 = List.replicate n 0 := by simp [noneT]
theorem ints_set (l : List Int) (k : Nat) (x : Int) : (ints l).set k (.int .i64 x) = ints (l.set k x) := by unfold ints; rw [List.map_set]
theorem ints_rep (n : Nat) (x : Int) : ints (List.replicate n x) = List.replicate n (.int .i64 x) := by unfold ints; rw [List.map_replicate]
end Go.Proofs.YtibkbhglcmpeaaaDoor

/- Layer 16, walked: Invert. -/
namespace Go.Proofs.YtibkbhglcmpeaaaDoor
set_option maxRecDepth 100000
open Go.RowKit Fl
set_option linter.unusedVariables false

/-- What Invert tells. -/
def InvIs (l : List Int) (w : World) (e : Ending) (w' : World) : Prop :=
  ((okP l.length l ∧ ∃ v, e = .returned (.tuple #[v, .bool true]) ∧ Slc w' (fun b => w.heap.size ≤ b) v l.length (ints (invL l))) ∨ (¬ okP l.length l ∧ e = .returned (.tuple #[.slice none 0 0, .bool false]))) ∧ Below w.heap.size w w'
set_option maxHeartbeats 8000000 in
theorem oinvert_calls {ok : Nat → Prop} (v : Value) (l : List Int) (w : World) (hv : Slc w ok v l.length (ints l)) (hm : l.length ≤ 1048576) :
    Calls Tryd.prog 24 #[v] w (InvIs l w) := by
  obtain ⟨n, hn⟩ : ∃ n, l.length = n := ⟨_, rfl⟩
  have HN := Lib.hid hn
  have HV := Lib.hid hv
  obtain ⟨ao, cap, rfl, _⟩ := hv.opened
  clear hv
  rw [hn] at hm HV ⊢
  clear hn
  have hmk := run_mkI3 n (by omega) w
  obtain ⟨W0, hW0⟩ : ∃ W0, W0 = w.alloc (.cells (zerosV (.int .i64 0) n) 3) := ⟨_, rfl⟩
  have HO0 : Hid (W0.ownsRow w.heap.size 3 1 (.slice (some ⟨w.heap.size, 0, none⟩) n n) n (ints (noneT n 0))) := Lib.hid (by rw [hW0, noneT_zero, ints_rep]; exact own_make1 _ _ _ (by omega) _ _ (Nat.le_refl _))
  have HW := Lib.hid (show Below w.heap.size w W0 by rw [hW0]; exact below_new _ _)
  go_enter Tryd.func24, Tryd.ntmps24
  go_wp2
  rw [← hW0]
  clear hW0 hmk
  go_loopw [13] (fun i wr => ∃ k : Nat, k ≤ n ∧ i = .int .i64 k ∧ wr.ownsRow w.heap.size 3 1 (.slice (some ⟨w.heap.size, 0, none⟩) n n) n (ints (noneT n k)) ∧ Below w.heap.size w wr) (fun i _ => n - (intOf i).toNat)
  case atStart => exact ⟨0, by omega, rfl, HO0.out, HW.out⟩
  case round =>
    obtain ⟨k, hk, rfl, hown, hB⟩ := hrel
    have HO := Lib.hid hown
    have HB := Lib.hid hB
    clear hown hB
    by_cases hlt : k < n
    · have hcw := owns_cell HO.out k (by rw [ints_len, noneT_len hk]; exact hlt)
      have hfr := World.ownsRow.frozenAt HO.out k
      go_wp2
      go_roundw
      case rel =>
        refine ⟨k + 1, by omega, by go_num, ?_, HB.out.setCell (Nat.le_refl _) _⟩
        have := (World.ownsRow.stored HO.out k (.int .i64 (-1))).1
        rw [ints_set, noneT_set hlt] at this
        exact this
      case measure => simp [intOf]; omega
    · have hkn : k = n := by omega
      have HO2 := Lib.hid (show wr.ownsRow w.heap.size 3 1 (.slice (some ⟨w.heap.size, 0, none⟩) n n) n (ints (invT n l 0)) by rw [← noneT_all]; exact hkn ▸ HO.out)
      clear HO hkn
      go_wp2
      go_loopw [22] (fun i wq => ∃ j : Nat, j ≤ n ∧ i = .int .i64 j ∧ okP n (l.take j) ∧ wq.ownsRow w.heap.size 3 1 (.slice (some ⟨w.heap.size, 0, none⟩) n n) n (ints (invT n l j)) ∧ Below w.heap.size w wq) (fun i _ => n - (intOf i).toNat)
      case atStart => exact ⟨0, by omega, rfl, by rw [List.take_zero]; exact okP_nil _, HO2.out, HB.out⟩
      case round =>
        obtain ⟨j, hj, rfl, hok, hown, hBq⟩ := hrel
        clear HO2 HB
        have HO := Lib.hid hown
        have HB := Lib.hid hBq
        have HOK := Lib.hid hok
        clear hown hBq hok
        by_cases hlt2 : j < n
        · have HV2 := Lib.hid (HV.out.below HB.out)
          obtain ⟨b, off, cap2, x, e9, hx, hcx⟩ := Slc.at_map (Value.int .i64) (by rw [HN.out]; exact HV2.out) j (by rw [HN.out]; exact hlt2)
          rw [HN.out] at e9
          cases e9
          have HX := Lib.hid hx
          have HST := Lib.hid (okP_step (n := n) hx)
          clear hx
          by_cases hin : 0 ≤ x ∧ x < n
          · obtain ⟨p, hp⟩ : ∃ p : Nat, x = (p : Int) := ⟨x.toNat, by omega⟩
            subst hp
            have hpk : p < n := by omega
            have HPK := Lib.hid hpk
            clear hin
            have hcw := owns_cell HO.out p (by rw [ints_len, invT_len]; exact hpk)
            have hfr := World.ownsRow.frozenAt HO.out p
            obtain ⟨y, hy⟩ : ∃ y, (invT n l j)[p]? = some y := ⟨_, List.getElem?_eq_getElem (by rw [invT_len]; exact hpk)⟩
            rw [show (ints (invT n l j))[p]'(by rw [ints_len, invT_len]; exact hpk) = .int .i64 y from by
              obtain ⟨h1, h2⟩ := List.getElem?_eq_some_iff.1 hy
              rw [← h2]; simp [ints]] at hcw
            have HFR := Lib.hid (invT_free (l := l) (by rw [HN.out]; exact hj) HOK.out hpk)
            have HY := Lib.hid hy
            clear hy
            by_cases hy1 : y = -1
            · subst hy1
              go_wp2_with fail
              refine (oex_yes _ HPK.out).mono ?_
              rintro e w9 ⟨rfl, rfl⟩
              go_wp2
              go_roundw
              case rel =>
                refine ⟨j + 1, by omega, by go_num, HST.out.2 ⟨HOK.out, by omega, HFR.out.1 HY.out⟩, ?_, HB.out.setCell (Nat.le_refl _) _⟩
                have := (World.ownsRow.stored HO.out p (.int .i64 j)).1
                rw [ints_set] at this
                have hd : l.getD j 0 = (p : Int) := by rw [List.getD_eq_getElem?_getD, HX.out]; rfl
                simp only [invT, hd, Int.toNat_natCast]
                exact this
              case measure => simp [intOf]; omega
            · have HY1 := Lib.hid hy1
              have hyt : (y != -1) = true := by simpa using hy1
              clear hy1
              go_wp2_with fail
              refine (oex_yes _ HPK.out).mono ?_
              rintro e w9 ⟨rfl, rfl⟩
              go_wp2
              go_ret2
              refine ⟨Or.inr ⟨fun h => ?_, rfl⟩, HB.out⟩
              rw [HN.out] at h
              have h2 := (HST.out.1 (okP_take h)).2.2
              have h3 := HFR.out.2 h2
              rw [HY.out] at h3
              exact HY1.out (Option.some.inj h3)
          · have HIN := Lib.hid hin
            clear hin
            go_wp2_with fail
            refine (oex_no _ HIN.out).mono ?_
            rintro e w9 ⟨rfl, rfl⟩
            go_wp2
            go_ret2
            refine ⟨Or.inr ⟨fun h => ?_, rfl⟩, HB.out⟩
            rw [HN.out] at h
            exact HIN.out (HST.out.1 (okP_take h)).2.1
        · have hjk : j = n := by omega
          have HJ := Lib.hid hjk
          clear hjk
          go_wp2
          go_ret2
          refine ⟨Or.inl ⟨?_, _, rfl, ?_⟩, HB.out⟩
          · have := HOK.out
            rw [HJ.out, ← HN.out, List.take_length] at this
            exact this
          · have := Slc.owned HO.out
            rw [HJ.out] at this
            unfold invL
            rw [HN.out]
            exact this
theorem oinvert_yes {ok : Nat → Prop} (v : Value) (l : List Int) (w : World) (hv : Slc w ok v l.length (ints l)) (hm : l.length ≤ 1048576) (h : okP l.length l) :
    Calls Tryd.prog 24 #[v] w fun e w' => ∃ v, e = .returned (.tuple #[v, .bool true]) ∧ Slc w' (fun b => w.heap.size ≤ b) v l.length (ints (invL l)) ∧ Below w.heap.size w w' :=
  (oinvert_calls v l w hv hm).mono fun e w' h2 => by
    obtain ⟨⟨_, v, h3, h4⟩ | ⟨h3, _⟩, h5⟩ := h2
    · exact ⟨v, h3, h4, h5⟩
    · exact absurd h h3
theorem oinvert_no {ok : Nat → Prop} (v : Value) (l : List Int) (w : World) (hv : Slc w ok v l.length (ints l)) (hm : l.length ≤ 1048576) (h : ¬ okP l.length l) :
    Calls Tryd.prog 24 #[v] w fun e w' => e = .returned (.tuple #[.slice none 0 0, .bool false]) ∧ Below w.heap.size w w' :=
  (oinvert_calls v l w hv hm).mono fun e w' h2 => by
    obtain ⟨⟨h3, _⟩ | ⟨_, h3⟩, h5⟩ := h2
    · exact absurd h3 h
    · exact ⟨h3, h5⟩
end Go.Proofs.YtibkbhglcmpeaaaDoor

/- Layer 16, walked: Sorted. -/
namespace Go.Proofs.YtibkbhglcmpeaaaDoor
set_option maxRecDepth 100000
open Go.RowKit Fl
set_option linter.unusedVariables false

/-- All places below n, each once, each ahead of the next one. -/
def SoI (n : Nat) (lt : Nat → Nat → Bool) (l : List Int) : Prop := l.length = n ∧ okP n l ∧ ∀ r, r + 1 < n → lt (l.getD r 0).toNat (l.getD (r + 1) 0).toNat = true
/-- What Sorted tells. -/
def SorIs (n : Nat) (lt : Nat → Nat → Bool) (l : List Int) (w : World) (e : Ending) (w' : World) : Prop :=
  ((SoI n lt l ∧ e = .returned (.bool true)) ∨ (¬ SoI n lt l ∧ e = .returned (.bool false))) ∧ Below w.heap.size w w'
set_option maxHeartbeats 8000000 in
theorem osorted_calls {ok okV : Nat → Prop} (u : Value) (A : VV) (size : Nat) (v : Value) (l : List Int) (down : Bool) (w : World) (h : IsV w ok u A) (fA : ∀ x ∈ A.nums, Fnt x) (hc : A.cls < 2) (hs : 0 < size) (hsm : size ≤ 1048576) (hm : A.len ≤ 1048576) (hv : Slc w okV v l.length (ints l)) (hl : l.length ≤ 1048576) :
    Calls Tryd.prog 22 #[.agg #[u], .int .i64 (size : Int), v, .bool down] w (SorIs (A.len / size) (lesK (keyV A) size down) l w) := by
  have hsu := h.store
  have HFA := Lib.hid fA
  have HC := Lib.hid hc
  have HM := Lib.hid hm
  have HLM := Lib.hid hl
  have HPOS := Lib.hid hs
  have HSM := Lib.hid hsm
  have hQm : A.len / size ≤ A.len := Nat.div_le_self _ _
  obtain ⟨ao, cap, rfl, _⟩ := hv.opened
  obtain ⟨m, hml⟩ : ∃ m, l.length = m := ⟨_, rfl⟩
  obtain ⟨n, hn⟩ : ∃ n, A.len / size = n := ⟨_, rfl⟩
  obtain ⟨W1, hW1⟩ : ∃ W1, W1 = w.alloc (.cells #[u] 37) := ⟨_, rfl⟩
  have HB := Lib.hid (show Below w.heap.size w W1 by rw [hW1]; exact below_new _ _)
  have HA := Lib.hid (show At1 W1 w.heap.size u by rw [hW1]; exact At1.new w _ _)
  have HU := Lib.hid (show IsV W1 ok u A from h.grow HB.out)
  have HV := Lib.hid (show Slc W1 okV _ l.length (ints l) from hv.below HB.out)
  rw [hml] at hl HV ⊢
  rw [hn] at hQm ⊢
  have HN := Lib.hid hn
  have HML := Lib.hid hml
  have hnm : n ≤ 1048576 := by omega
  obtain ⟨lt, hlt⟩ : ∃ lt, lesK (keyV A) size down = lt := ⟨_, rfl⟩
  rw [hlt]
  have HLT := Lib.hid hlt
  have HNM := Lib.hid hnm
  have hfold := hW1.symm
  clear h hW1 fA hc hm hv hml hn hlt hQm
  have cHA0 := HA.out.2.1
  go_enter Tryd.func22, Tryd.ntmps22
  go_wp2_with fail
  clear hfold
  refine (ocount_calls _ A size _ HU.out HPOS.out HSM.out HM.out).mono ?_
  rintro e W11 ⟨rfl, hB⟩
  clear cHA0
  replace HA := Lib.hid (HA.out.below hB)
  replace HB := Lib.hid (HB.out.trans (hB.mono HB.out.size))
  replace HU := Lib.hid (HU.out.grow hB)
  replace HV := Lib.hid (HV.out.below hB)
  rw [HN.out]
  clear hB
  by_cases hmn : m = n
  rotate_left
  · have hne : ((m : Int) != (n : Int)) = true := by simp; omega
    have HNE := Lib.hid hmn
    clear hmn
    go_wp2_with fail
    go_ret
    exact ⟨Or.inr ⟨fun h => HNE.out (HML.out.symm.trans h.1), rfl⟩, HB.out⟩
  subst hmn
  have cHA0 := HA.out.2.1
  go_wp2_with fail
  by_cases hok : okP m l
  rotate_left
  · have HOK := Lib.hid hok
    clear hok
    refine (oinvert_no _ l _ (by rw [HML.out]; exact HV.out) (by rw [HML.out]; omega) (by rw [HML.out]; exact HOK.out)).mono ?_
    rintro e W12 ⟨rfl, hB⟩
    clear cHA0
    replace HA := Lib.hid (HA.out.below hB)
    replace HB := Lib.hid (HB.out.trans (hB.mono HB.out.size))
    replace HU := Lib.hid (HU.out.grow hB)
    replace HV := Lib.hid (HV.out.below hB)
    clear hB
    have cHA0 := HA.out.2.1
    go_wp2_with fail
    go_ret
    exact ⟨Or.inr ⟨fun h => HOK.out h.2.1, rfl⟩, HB.out⟩
  have HOK := Lib.hid hok
  clear hok
  refine (oinvert_yes _ l _ (by rw [HML.out]; exact HV.out) (by rw [HML.out]; omega) (by rw [HML.out]; exact HOK.out)).mono ?_
  rintro e W12 ⟨vi, rfl, hvi, hB⟩
  clear cHA0
  replace HA := Lib.hid (HA.out.below hB)
  replace HB := Lib.hid (HB.out.trans (hB.mono HB.out.size))
  replace HU := Lib.hid (HU.out.grow hB)
  replace HV := Lib.hid (HV.out.below hB)
  obtain ⟨ai, ci, rfl, _⟩ := hvi.opened
  clear hvi
  clear hB
  have cHA0 := HA.out.2.1
  go_wp2_with fail
  have HW := Lib.hid (Below.refl W12.heap.size W12)
  go_loopw [11] (fun iv wr => ∃ r : Nat, iv = .int .i64 ((r : Int) + 1) ∧ (r < m ∨ r = 0) ∧ (∀ s, s < r → lt (l.getD s 0).toNat (l.getD (s + 1) 0).toNat = true) ∧ Below W12.heap.size W12 wr) (fun iv _ => m - (intOf iv).toNat)
  case atStart => exact ⟨0, rfl, Or.inr rfl, fun s hs => absurd hs (Nat.not_lt_zero _), HW.out⟩
  case round =>
    obtain ⟨r, rfl, hr, hso, hB⟩ := hrel
    have HSO := Lib.hid hso
    clear hso HW
    clear cHA0
    replace HA := Lib.hid (HA.out.below hB)
    replace HB := Lib.hid (HB.out.trans (hB.mono HB.out.size))
    replace HU := Lib.hid (HU.out.grow hB)
    replace HV := Lib.hid (HV.out.below hB)
    have HW := Lib.hid hB
    clear hB
    by_cases hlt : r + 1 < m
    · obtain ⟨b, off, cap2, x, e9, hx, hcx⟩ := Slc.at_map (Value.int .i64) (by rw [HML.out]; exact HV.out) r (by rw [HML.out]; omega)
      obtain ⟨b2, off2, cap3, y, e8, hy, hcy⟩ := Slc.at_map (Value.int .i64) (by rw [HML.out]; exact HV.out) (r + 1) (by rw [HML.out]; omega)
      rw [HML.out] at e9 e8
      cases e9
      cases e8
      have hxb := HOK.out.1 x (List.mem_of_getElem? hx)
      have hyb := HOK.out.1 y (List.mem_of_getElem? hy)
      obtain ⟨p, hp⟩ : ∃ p : Nat, x = (p : Int) := ⟨x.toNat, by omega⟩
      obtain ⟨q, hq⟩ : ∃ q : Nat, y = (q : Int) := ⟨y.toNat, by omega⟩
      subst hp hq
      have HPQ := Lib.hid (show p < A.len / size ∧ q < A.len / size by rw [HN.out]; omega)
      have HX := Lib.hid hx
      have HY := Lib.hid hy
      have HCC := Lib.hid (And.intro hcx hcy)
      have HRM := Lib.hid hlt
      have hrw : IntKind.i64.wrap (r : Int) = (r : Int) := IntWalk.i64_in _ (by omega)
      have hr0 : (0 : Int) ≤ (r : Int) + 1 := by omega
      have hr2 : (r : Int) < (m : Int) := by omega
      have hr3 : r < m := by omega
      clear hxb hyb hx hy hcx hcy
      have cHA0 := HA.out.2.1
      have cHCC0 := HCC.out.1
      have cHCC1 := HCC.out.2
      go_wp2_with fail
      obtain ⟨W13, hWD⟩ : ∃ xw9, wr.drew = xw9 := ⟨_, rfl⟩
      have hB : Below wr.heap.size wr W13 := by rw [← hWD]; exact Below.drewN' (Below.refl _ _) 1
      clear cHA0 cHCC0 cHCC1
      replace HA := Lib.hid (HA.out.below hB)
      replace HB := Lib.hid (HB.out.trans (hB.mono HB.out.size))
      replace HU := Lib.hid (HU.out.grow hB)
      replace HV := Lib.hid (HV.out.below hB)
      replace HW := Lib.hid (HW.out.trans (hB.mono HW.out.size))
      replace HCC := Lib.hid (And.intro (keep_below hB _ _ HCC.out.1) (keep_below hB _ _ HCC.out.2))
      clear hB
      refine wp_region_held_drew (S := fun w' => w'.cell? ⟨w.heap.size, 0, none⟩ = some (u) ∧ w'.cell? ⟨b, off + r, none⟩ = some (.int .i64 (p : Int)) ∧ w'.cell? ⟨b, off + (r + 1), none⟩ = some (.int .i64 (q : Int))) (by kernel_rfl) (by rw [hWD]; exact ⟨HA.out.2.1, HCC.out.1, HCC.out.2⟩) (fun hHeld => ?_)
      rw [hWD] at hHeld ⊢
      clear hWD
      refine wpAnyH_take (i := 0) (v := ?_) rfl (by kernel_rfl) (by kernel_rfl) (by kernel_rfl) (fun _ _ _ h => h) (Or.inl ⟨by rfl, ?_⟩) (by assumption) ?_
      rotate_left
      · (intro w hSw; (try dsimp only at hSw); go_simp; try with_reducible rfl)
      simp only [Act.put, List.getElem_toArray, List.getElem_cons_zero, List.setIfInBounds_toArray, List.set_cons_zero, List.set_cons_succ]
      refine wpAnyH_take (i := 1) (v := ?_) rfl (by kernel_rfl) (by kernel_rfl) (by kernel_rfl) (fun _ _ _ h => h) (Or.inl ⟨by rfl, ?_⟩) (by assumption) ?_
      rotate_left
      · (intro w hSw; (try dsimp only at hSw); go_simp; try with_reducible rfl)
      simp only [Act.put, List.getElem_toArray, List.getElem_cons_succ, List.getElem_cons_zero, List.setIfInBounds_toArray, List.set_cons_zero, List.set_cons_succ]
      refine wpAnyH_take (i := 2) (v := ?_) rfl (by kernel_rfl) (by kernel_rfl) (by kernel_rfl) (fun _ _ _ h => h) (Or.inl ⟨by rfl, ?_⟩) (by assumption) ?_
      rotate_left
      · (intro w hSw; (try dsimp only at hSw); go_simp; try with_reducible rfl)
      simp only [Act.put, List.getElem_toArray, List.getElem_cons_succ, List.getElem_cons_zero, List.setIfInBounds_toArray, List.set_cons_zero, List.set_cons_succ]
      refine wpAnyH_take (i := 3) (v := ?_) rfl (by kernel_rfl) (by kernel_rfl) (by kernel_rfl) (fun _ _ _ h => h) (Or.inl ⟨by rfl, ?_⟩) (by assumption) ?_
      rotate_left
      · (intro w hSw; (try dsimp only at hSw); go_simp; try with_reducible rfl)
      simp only [Act.put, List.getElem_toArray, List.getElem_cons_succ, List.getElem_cons_zero, List.setIfInBounds_toArray, List.set_cons_zero, List.set_cons_succ]
      refine wpAnyH_take (i := 4) (v := ?_) rfl (by kernel_rfl) (by kernel_rfl) (by kernel_rfl) (fun _ _ _ h => h) (Or.inl ⟨by rfl, ?_⟩) (by assumption) ?_
      rotate_left
      · (intro w hSw; (try dsimp only at hSw); go_simp; try with_reducible rfl)
      simp only [Act.put, List.getElem_toArray, List.getElem_cons_succ, List.getElem_cons_zero, List.setIfInBounds_toArray, List.set_cons_zero, List.set_cons_succ]
      refine wpAnyH_take (i := 5) (v := ?_) rfl (by kernel_rfl) (by kernel_rfl) (by kernel_rfl) (fun _ _ _ h => h) (Or.inl ⟨by rfl, ?_⟩) (by assumption) ?_
      rotate_left
      · (intro w hSw; (try dsimp only at hSw); go_simp; try with_reducible rfl)
      simp only [Act.put, List.getElem_toArray, List.getElem_cons_succ, List.getElem_cons_zero, List.setIfInBounds_toArray, List.set_cons_zero, List.set_cons_succ]
      refine wpAnyH_take (i := 6) (v := ?_) rfl (by kernel_rfl) (by kernel_rfl) (by kernel_rfl) (fun _ _ _ h => h) (Or.inl ⟨by rfl, ?_⟩) (by assumption) ?_
      rotate_left
      · (intro w hSw; (try dsimp only at hSw); go_simp; try with_reducible rfl)
      simp only [Act.put, List.getElem_toArray, List.getElem_cons_succ, List.getElem_cons_zero, List.setIfInBounds_toArray, List.set_cons_zero, List.set_cons_succ]
      refine wpAnyH_take (i := 7) (v := ?_) rfl (by kernel_rfl) (by kernel_rfl) (by kernel_rfl) (fun _ _ _ h => h) (Or.inl ⟨by rfl, ?_⟩) (by assumption) ?_
      rotate_left
      · (intro w hSw; (try dsimp only at hSw); go_simp; try with_reducible rfl)
      simp only [Act.put, List.getElem_toArray, List.getElem_cons_succ, List.getElem_cons_zero, List.setIfInBounds_toArray, List.set_cons_zero, List.set_cons_succ]
      refine wpAnyH_take (i := 8) (v := ?_) rfl (by kernel_rfl) (by kernel_rfl) (by kernel_rfl) (fun _ _ _ h => h) (Or.inl ⟨by rfl, ?_⟩) (by assumption) ?_
      rotate_left
      · (intro w hSw; (try dsimp only at hSw); go_simp; try with_reducible rfl)
      simp only [Act.put, List.getElem_toArray, List.getElem_cons_succ, List.getElem_cons_zero, List.setIfInBounds_toArray, List.set_cons_zero, List.set_cons_succ]
      refine wpAnyH_take (i := 9) (v := ?_) rfl (by kernel_rfl) (by kernel_rfl) (by kernel_rfl) (fun _ _ _ h => h) (Or.inl ⟨by rfl, ?_⟩) (by assumption) ?_
      rotate_left
      · (intro w hSw; (try dsimp only at hSw); go_simp; try with_reducible rfl)
      simp only [Act.put, List.getElem_toArray, List.getElem_cons_succ, List.getElem_cons_zero, List.setIfInBounds_toArray, List.set_cons_zero, List.set_cons_succ]
      refine wpAnyH_take (i := 10) (v := ?_) rfl (by kernel_rfl) (by kernel_rfl) (by kernel_rfl) (fun _ _ _ h => h) (Or.inl ⟨by rfl, ?_⟩) (by assumption) ?_
      rotate_left
      · (intro w hSw; (try dsimp only at hSw); go_simp; try with_reducible rfl)
      simp only [Act.put, List.getElem_toArray, List.getElem_cons_succ, List.getElem_cons_zero, List.setIfInBounds_toArray, List.set_cons_zero, List.set_cons_succ]
      refine wpAnyH_take (i := 11) (v := ?_) rfl (by kernel_rfl) (by kernel_rfl) (by kernel_rfl) (fun _ _ _ h => h) (Or.inl ⟨by rfl, ?_⟩) (by assumption) ?_
      rotate_left
      · (intro w hSw; (try dsimp only at hSw); go_simp; try with_reducible rfl)
      simp only [Act.put, List.getElem_toArray, List.getElem_cons_succ, List.getElem_cons_zero, List.setIfInBounds_toArray, List.set_cons_zero, List.set_cons_succ]
      refine wpAnyH_ready (rs := [12]) (by kernel_rfl) (by simp) ?_
      refine AllReadyH.cons (o := _) rfl (fun K hK => ?_) AllReadyH.nil
      clear hHeld
      go_simp
      refine (oless_calls _ A size p q down _ HU.out HFA.out HC.out HPOS.out HM.out HPQ.out.1 HPQ.out.2).mono ?_
      rintro e W14 ⟨rfl, hB⟩
      replace HA := Lib.hid (HA.out.below hB)
      replace HB := Lib.hid (HB.out.trans (hB.mono HB.out.size))
      replace HU := Lib.hid (HU.out.grow hB)
      replace HV := Lib.hid (HV.out.below hB)
      replace HW := Lib.hid (HW.out.trans (hB.mono HW.out.size))
      replace HCC := Lib.hid (And.intro (keep_below hB _ _ HCC.out.1) (keep_below hB _ _ HCC.out.2))
      rw [HLT.out]
      obtain ⟨z, hz⟩ : ∃ z, lt p q = z := ⟨_, rfl⟩
      rw [hz]
      have HZ := Lib.hid hz
      clear hz
      clear hB
      try go_simp
      refine hK.out _ _ ?_ (fun hHeld => ?_)
      · exact ⟨HA.out.2.1, HCC.out.1, HCC.out.2⟩
      clear hK K
      refine wpAnyH_take (i := 13) (v := ?_) rfl (by kernel_rfl) (by kernel_rfl) (by kernel_rfl) (fun _ _ _ h => h) (Or.inl ⟨by rfl, ?_⟩) (by assumption) ?_
      rotate_left
      · (intro w hSw; (try dsimp only at hSw); go_simp; try with_reducible rfl)
      simp only [Act.put, List.getElem_toArray, List.getElem_cons_succ, List.getElem_cons_zero, List.setIfInBounds_toArray, List.set_cons_zero, List.set_cons_succ]
      refine wpAnyH_done (by kernel_rfl) ?_ _
      clear hHeld
      cases z
      · have cHA0 := HA.out.2.1
        have cHCC0 := HCC.out.1
        have cHCC1 := HCC.out.2
        go_wp2_with fail
        go_ret
        refine ⟨Or.inr ⟨fun h => ?_, rfl⟩, HB.out⟩
        have := h.2.2 r HRM.out
        rw [List.getD_eq_getElem?_getD, HX.out, List.getD_eq_getElem?_getD, HY.out] at this
        simp only [Option.getD_some, Int.toNat_natCast] at this
        rw [HZ.out] at this
        cases this
      · have cHA0 := HA.out.2.1
        have cHCC0 := HCC.out.1
        have cHCC1 := HCC.out.2
        go_wp2_with fail
        go_roundw
        case rel => exact ⟨r + 1, by go_num, Or.inl HRM.out, fun s hs => by
          by_cases hsr : s < r
          · exact HSO.out s hsr
          · have e : s = r := by omega
            rw [e, List.getD_eq_getElem?_getD, HX.out, List.getD_eq_getElem?_getD, HY.out]
            simp only [Option.getD_some, Int.toNat_natCast]
            exact HZ.out, HW.out⟩
        case measure => simp [intOf]; omega
    · have cHA0 := HA.out.2.1
      go_wp2_with fail
      go_ret
      exact ⟨Or.inl ⟨⟨HML.out, HOK.out, fun s hs => HSO.out s (by omega)⟩, rfl⟩, HB.out⟩

end Go.Proofs.YtibkbhglcmpeaaaDoor

/- Layer 16, plain: the one list made place by place; how often numbers come up; the example. -/
namespace Go.Proofs.YtibkbhglcmpeaaaDoor
set_option maxRecDepth 100000
open Go.RowKit Fl
set_option linter.unusedVariables false

/-- The example's numbers: 3, 1, 2. -/
theorem aw16_wh : Wh 4613937818241073152 3 ∧ Wh 4607182418800017408 1 ∧ Wh 4611686018427387904 2 := ⟨wh_ofInt (by decide) (by decide +kernel), wh_ofInt (by decide) (by decide +kernel), wh_ofInt (by decide) (by decide +kernel)⟩
theorem aw16_num : ∀ x ∈ ([4613937818241073152, 4607182418800017408, 4611686018427387904] : List Nat), Num x := by
  intro x hx
  simp only [List.mem_cons, List.not_mem_nil, or_false] at hx
  rcases hx with rfl | rfl | rfl <;> exact ⟨⟨by decide, by decide⟩, by decide +kernel⟩
theorem aw16_ze : ([4613937818241073152, 4607182418800017408, 4611686018427387904] : List Nat).map ze = [4613937818241073152, 4607182418800017408, 4611686018427387904] := map_ze aw16_num
noncomputable def aw16V : VV := (VV.floats [4613937818241073152, 4607182418800017408, 4611686018427387904]).sq
theorem aw16_V : aw16V.ok ∧ aw16V.nm ∧ aw16V.len = 3 ∧ aw16V.nums = [4613937818241073152, 4607182418800017408, 4611686018427387904] ∧ aw16V.cls = 0 := by
  obtain ⟨a, b, c, d, e⟩ := sq_facts (t := [4613937818241073152, 4607182418800017408, 4611686018427387904]) (by decide) aw16_num
  obtain ⟨s1, s2, s3, s4, s5, s6⟩ := VV.sq_spec (V := VV.floats [4613937818241073152, 4607182418800017408, 4611686018427387904]) (show ([4613937818241073152, 4607182418800017408, 4611686018427387904] : List Nat).length ≤ 1048576 by decide) aw16_num
  exact ⟨a, b, c, d, s3⟩
theorem aw16_key : keyV aw16V 1 < keyV aw16V 2 ∧ keyV aw16V 2 < keyV aw16V 0 := by
  obtain ⟨a, b, c, d, e⟩ := aw16_V
  have hp : (0 : Int) < pw 1074 := by exact_mod_cast pw_pos 1074
  have h0 : keyV aw16V 0 = V 4613937818241073152 := by unfold keyV; rw [if_pos e, d]; rfl
  have h1 : keyV aw16V 1 = V 4607182418800017408 := by unfold keyV; rw [if_pos e, d]; rfl
  have h2 : keyV aw16V 2 = V 4611686018427387904 := by unfold keyV; rw [if_pos e, d]; rfl
  rw [h0, h1, h2, aw16_wh.1.2.2, aw16_wh.2.1.2.2, aw16_wh.2.2.2.2]
  exact ⟨Int.mul_lt_mul_of_pos_right (by decide) hp, Int.mul_lt_mul_of_pos_right (by decide) hp⟩
theorem lesK_up {K : Nat → Int} {i k : Nat} (h : K i < K k) : lesK K 1 false i k = true := by
  have : cmpK K 1 i k = -1 := cmpK_lt (j := 0) (by omega) (fun m hm => absurd hm (Nat.not_lt_zero _)) (by simpa using h)
  unfold lesK; rw [this]; rfl
theorem lesK_dn {K : Nat → Int} {i k : Nat} (h : K k < K i) : lesK K 1 false i k = false := by
  have : cmpK K 1 i k = 1 := cmpK_gt (j := 0) (by omega) (fun m hm => absurd hm (Nat.not_lt_zero _)) (by simpa using h)
  unfold lesK; rw [this]; rfl
theorem aw16_inv : okP 3 [1, 2, 0] ∧ invL [1, 2, 0] = [2, 0, 1] := ⟨⟨by decide, by decide⟩, by decide⟩
end Go.Proofs.YtibkbhglcmpeaaaDoor

/- Layer 16, walked: the reference's Below, Cells, Less. -/
namespace Go.Proofs.YtibkbhglcmpeaaaDoor
set_option maxRecDepth 100000
open Go.RowKit Fl
set_option linter.unusedVariables false

/-- An item's key. -/
def keyP (p : PI) : Int := if p.1 = 0 then V p.2.1 else p.2.2.1
theorem rbelow_calls (p q : PI) (sa sb : Value) (w : World) (hk : q.1 = p.1) (fa : p.1 = 0 → Fnt p.2.1 ∧ Fnt q.2.1) :
    Calls Tryd.prog 15 #[.agg #[.int .i64 p.1, .float .f64 p.2.1, .int .i32 p.2.2.1, sa], .agg #[.int .i64 q.1, .float .f64 q.2.1, .int .i32 q.2.2.1, sb]] w fun e w' => e = .returned (.bool (decide (keyP p < keyP q))) ∧ Below w.heap.size w w' := by
  obtain ⟨p1, p2, p3, p4⟩ := p
  obtain ⟨q1, q2, q3, q4⟩ := q
  dsimp only at hk fa ⊢
  subst hk
  by_cases h0 : q1 = 0
  · obtain ⟨f1, f2⟩ := fa h0
    subst h0
    have HK := Lib.hid (show decide (keyP ((0 : Int), p2, p3, p4) < keyP (0, q2, q3, q4)) = decide (V p2 < V q2) from rfl)
    rw [HK.out]
    rcases ord_both f1 f2 with ⟨hv, o1, o2⟩ | ⟨hv, o1, o2⟩ | ⟨hv, o1, o2⟩
    · rw [decide_eq_true hv]
      clear f1 f2 hv fa
      go_enter Tryd.func15, Tryd.ntmps15
      go_wp2
      go_ret
      exact ⟨rfl, (below_new _ _).alloc (by simp) _⟩
    · rw [decide_eq_false (by omega)]
      clear f1 f2 hv fa
      go_enter Tryd.func15, Tryd.ntmps15
      go_wp2
      go_ret
      exact ⟨rfl, (below_new _ _).alloc (by simp) _⟩
    · rw [decide_eq_false (by omega)]
      clear f1 f2 hv fa
      go_enter Tryd.func15, Tryd.ntmps15
      go_wp2
      go_ret
      exact ⟨rfl, (below_new _ _).alloc (by simp) _⟩
  · have HK := Lib.hid (show decide (keyP (q1, p2, p3, p4) < keyP (q1, q2, q3, q4)) = decide (p3 < q3) by unfold keyP; simp only; rw [if_neg h0, if_neg h0])
    rw [HK.out]
    have hq : (q1 == 0) = false := by simpa using h0
    clear h0 fa
    go_enter Tryd.func15, Tryd.ntmps15
    go_wp2
    go_ret
    exact ⟨rfl, (below_new _ _).alloc (by simp) _⟩
/-- Items of one kind, their keys. -/
def Keyed (l : List PI) (K : Nat → Int) : Prop := (∀ (i k : Nat) (p q : PI), l[i]? = some p → l[k]? = some q → q.1 = p.1 ∧ (p.1 = 0 → Fnt p.2.1 ∧ Fnt q.2.1)) ∧ ∀ (i : Nat) (p : PI), l[i]? = some p → keyP p = K i
end Go.Proofs.YtibkbhglcmpeaaaDoor

/- Layer 16, walked: the reference's Grade, Once. -/
namespace Go.Proofs.YtibkbhglcmpeaaaDoor
set_option maxRecDepth 100000
open Go.RowKit Fl
set_option linter.unusedVariables false

end Go.Proofs.YtibkbhglcmpeaaaDoor

/- Layer 16's laws: awake, good. -/
namespace Go.Proofs.YtibkbhglcmpeaaaDoor
set_option maxRecDepth 100000
open Go.RowKit Fl
set_option linter.unusedVariables false

def Yes16 (w : World) (e : Ending) (w' : World) : Prop := e = .returned (.bool true) ∧ Below w.heap.size w w'
theorem osorted_yes {ok okV : Nat → Prop} (u : Value) (A : VV) (size : Nat) (z : Int) (v : Value) (l : List Int) (m : Nat) (down : Bool) (w : World) (h : IsV w ok u A) (fA : ∀ x ∈ A.nums, Fnt x) (hc : A.cls < 2) (hs : 0 < size) (hsm : size ≤ 1048576) (hm : A.len ≤ 1048576) (hz : z = (size : Int)) (hml : l.length = m) (hv : Slc w okV v m (ints l)) (hl : m ≤ 1048576) (hso : SoI (A.len / size) (lesK (keyV A) size down) l) :
    Calls Tryd.prog 22 #[.agg #[u], .int .i64 z, v, .bool down] w fun e w' => e = .returned (.bool true) ∧ Below w.heap.size w w' := by
  subst hz hml
  refine (osorted_calls u A size v l down w h fA hc hs hsm hm hv hl).mono ?_
  rintro e w' ⟨⟨_, h1⟩ | ⟨h1, _⟩, h2⟩
  · exact ⟨h1, h2⟩
  · exact absurd hso h1
theorem osorted_no {ok okV : Nat → Prop} (u : Value) (A : VV) (size : Nat) (z : Int) (v : Value) (l : List Int) (m : Nat) (down : Bool) (w : World) (h : IsV w ok u A) (fA : ∀ x ∈ A.nums, Fnt x) (hc : A.cls < 2) (hs : 0 < size) (hsm : size ≤ 1048576) (hm : A.len ≤ 1048576) (hz : z = (size : Int)) (hml : l.length = m) (hv : Slc w okV v m (ints l)) (hl : m ≤ 1048576) (hso : ¬ SoI (A.len / size) (lesK (keyV A) size down) l) :
    Calls Tryd.prog 22 #[.agg #[u], .int .i64 z, v, .bool down] w fun e w' => e = .returned (.bool false) ∧ Below w.heap.size w w' := by
  subst hz hml
  refine (osorted_calls u A size v l down w h fA hc hs hsm hm hv hl).mono ?_
  rintro e w' ⟨⟨h1, _⟩ | ⟨_, h1⟩, h2⟩
  · exact absurd h1 hso
  · exact ⟨h1, h2⟩
theorem aw16_fnt : ∀ x ∈ aw16V.nums, Fnt x := by
  obtain ⟨_, _, _, d, _⟩ := aw16_V
  rw [d]; exact fun x hx => (aw16_num x hx).1
theorem aw16_so : SoI (aw16V.len / 1) (lesK (keyV aw16V) 1 false) [1, 2, 0] := by
  obtain ⟨_, _, c, _, _⟩ := aw16_V
  rw [c]
  refine ⟨rfl, aw16_inv.1, fun r hr => ?_⟩
  match r, hr with
  | 0, _ => exact lesK_up aw16_key.1
  | 1, _ => exact lesK_up aw16_key.2
  | r + 2, hr => omega
theorem aw16_not : ¬ SoI (aw16V.len / 1) (lesK (keyV aw16V) 1 false) [0, 1, 2] := by
  obtain ⟨_, _, c, _, _⟩ := aw16_V
  rw [c]
  intro h
  have h1 := h.2.2 0 (by omega)
  have h2 : lesK (keyV aw16V) 1 false 0 1 = false := lesK_dn (Int.lt_trans aw16_key.1 aw16_key.2)
  exact absurd (h2.symm.trans h1) (by decide)
theorem sorted16_yes {ok okV : Nat → Prop} (u v : Value) (w : World) (h : IsV w ok u aw16V) (hv : Slc w okV v 3 (ints [1, 2, 0])) :
    Calls Tryd.prog 22 #[.agg #[u], .int .i64 1, v, .bool false] w fun e w' => e = .returned (.bool true) ∧ Below w.heap.size w w' :=
  osorted_yes u aw16V 1 1 v [1, 2, 0] 3 false w h aw16_fnt (by rw [aw16_V.2.2.2.2]; decide) (by decide) (by decide) (by rw [aw16_V.2.2.1]; decide) rfl rfl hv (by decide) aw16_so
theorem sorted16_no {ok okV : Nat → Prop} (u v : Value) (w : World) (h : IsV w ok u aw16V) (hv : Slc w okV v 3 (ints [0, 1, 2])) :
    Calls Tryd.prog 22 #[.agg #[u], .int .i64 1, v, .bool false] w fun e w' => e = .returned (.bool false) ∧ Below w.heap.size w w' :=
  osorted_no u aw16V 1 1 v [0, 1, 2] 3 false w h aw16_fnt (by rw [aw16_V.2.2.2.2]; decide) (by decide) (by decide) (by rw [aw16_V.2.2.1]; decide) rfl rfl hv (by decide) aw16_not
theorem invert16 {ok : Nat → Prop} (v : Value) (w : World) (hv : Slc w ok v 3 (ints [1, 2, 0])) :
    Calls Tryd.prog 24 #[v] w fun e w' => ∃ v, e = .returned (.tuple #[v, .bool true]) ∧ Slc w' (fun b => w.heap.size ≤ b) v 3 (ints [2, 0, 1]) ∧ Below w.heap.size w w' := by
  have := oinvert_yes v [1, 2, 0] w hv (by decide) aw16_inv.1
  rw [aw16_inv.2] at this
  exact this
set_option maxHeartbeats 8000000 in
theorem awake16_calls (w : World) (hT : TabAt w) : Calls Tryd.prog 10 #[] w (Yes16 w) := by
  obtain ⟨W1, hW1⟩ : ∃ W1, W1 = w.alloc (.cells #[.float .f64 4613937818241073152, .float .f64 4607182418800017408, .float .f64 4611686018427387904] 29) := ⟨_, rfl⟩
  have HB := Lib.hid (show Below w.heap.size w W1 by rw [hW1]; exact below_new _ _)
  have HV := Lib.hid (show Slc W1 (fun _ => True) (.slice (some ⟨w.heap.size, 0, none⟩) 3 3) [4613937818241073152, 4607182418800017408, 4611686018427387904].length (f64s [4613937818241073152, 4607182418800017408, 4611686018427387904]) by
    rw [hW1]; exact (Slc.owned (World.ownsRow_lit (base := 0) (e := 29) (size := 1) w #[.float .f64 4613937818241073152, .float .f64 4607182418800017408, .float .f64 4611686018427387904] 3 (Nat.zero_le _) (by unfold maxLen; omega) rfl)).keep (Kept.refl _ _) (fun _ _ _ => trivial))
  have HT := Lib.hid (show TabAt W1 from fun j hj => keep_below HB.out _ _ (hT j hj))
  have hfold := hW1.symm
  clear hW1 hT
  go_enter Tryd.func10, Tryd.ntmps10
  go_wp2_with fail
  clear hfold
  refine (numbers_yes _ [4613937818241073152, 4607182418800017408, 4611686018427387904] _ HV.out (by decide) (fun x hx => (aw16_num x hx).1) HT.out).mono ?_
  rintro e W11 ⟨u, rfl, hu, hB⟩
  replace HB := Lib.hid (HB.out.trans (hB.mono HB.out.size))
  replace HT := Lib.hid (fun j hj => keep_below hB _ _ (HT.out j hj))
  replace HV := Lib.hid (HV.out.below hB)
  rw [aw16_ze] at hu
  have HU := Lib.hid (show IsV W11 (fun _ => True) u aw16V from IsV.any hu)
  have hsu := HU.out.store
  clear hu
  clear hB
  clear HV
  obtain ⟨W12, hWn⟩ : ∃ xw9, W11.alloc (.cells #[u] 37) = xw9 := ⟨_, rfl⟩
  have hB : Below W11.heap.size W11 W12 := by rw [← hWn]; exact below_new _ _
  have hNB : At1 W12 W11.heap.size (u) := by rw [← hWn]; exact At1.new _ _ _
  replace HB := Lib.hid (HB.out.trans (hB.mono HB.out.size))
  replace HT := Lib.hid (fun j hj => keep_below hB _ _ (HT.out j hj))
  replace HU := Lib.hid (HU.out.grow hB)
  have HA := Lib.hid hNB
  clear hNB hB
  have cHA0 := HA.out.2.1
  go_wp2_with fail
  clear hWn
  obtain ⟨W13, hWn⟩ : ∃ xw9, W12.alloc (.cells #[.int .i64 1, .int .i64 2, .int .i64 0] 3) = xw9 := ⟨_, rfl⟩
  have hB : Below W12.heap.size W12 W13 := by rw [← hWn]; exact below_new _ _
  have hNB : Slc W13 (fun _ => True) (.slice (some ⟨W12.heap.size, 0, none⟩) 3 3) 3 (ints [1, 2, 0]) := by
    rw [← hWn]; exact (Slc.owned (World.ownsRow_lit (base := 0) (e := 3) (size := 1) W12 #[.int .i64 1, .int .i64 2, .int .i64 0] 3 (Nat.zero_le _) (by unfold maxLen; omega) rfl)).keep (Kept.refl _ _) (fun _ _ _ => trivial)
  rw [hWn]
  clear hWn
  clear cHA0
  replace HB := Lib.hid (HB.out.trans (hB.mono HB.out.size))
  replace HT := Lib.hid (fun j hj => keep_below hB _ _ (HT.out j hj))
  replace HU := Lib.hid (HU.out.grow hB)
  replace HA := Lib.hid (HA.out.below hB)
  have HL1 := Lib.hid hNB
  clear hNB hB
  refine (invert16 _ _ HL1.out).mono ?_
  rintro e W14 ⟨v1, rfl, hv1, hB⟩
  replace HB := Lib.hid (HB.out.trans (hB.mono HB.out.size))
  replace HT := Lib.hid (fun j hj => keep_below hB _ _ (HT.out j hj))
  replace HU := Lib.hid (HU.out.grow hB)
  replace HA := Lib.hid (HA.out.below hB)
  replace HL1 := Lib.hid (HL1.out.below hB)
  have H1 := Lib.hid hv1.any
  obtain ⟨a1, c1, rfl, _⟩ := hv1.opened
  clear hv1
  clear hB
  clear HL1
  have cHA0 := HA.out.2.1
  go_wp2_with fail
  obtain ⟨W15, hWn⟩ : ∃ xw9, W14.alloc (.cells #[.int .i64 1, .int .i64 2, .int .i64 0] 3) = xw9 := ⟨_, rfl⟩
  have hB : Below W14.heap.size W14 W15 := by rw [← hWn]; exact below_new _ _
  have hNB : Slc W15 (fun _ => True) (.slice (some ⟨W14.heap.size, 0, none⟩) 3 3) 3 (ints [1, 2, 0]) := by
    rw [← hWn]; exact (Slc.owned (World.ownsRow_lit (base := 0) (e := 3) (size := 1) W14 #[.int .i64 1, .int .i64 2, .int .i64 0] 3 (Nat.zero_le _) (by unfold maxLen; omega) rfl)).keep (Kept.refl _ _) (fun _ _ _ => trivial)
  rw [hWn]
  clear hWn
  clear cHA0
  replace HB := Lib.hid (HB.out.trans (hB.mono HB.out.size))
  replace HT := Lib.hid (fun j hj => keep_below hB _ _ (HT.out j hj))
  replace HU := Lib.hid (HU.out.grow hB)
  replace HA := Lib.hid (HA.out.below hB)
  replace H1 := Lib.hid (H1.out.below hB)
  have HL2 := Lib.hid hNB
  clear hNB hB
  refine (sorted16_yes _ _ _ HU.out HL2.out).mono ?_
  rintro e W16 ⟨rfl, hB⟩
  replace HB := Lib.hid (HB.out.trans (hB.mono HB.out.size))
  replace HT := Lib.hid (fun j hj => keep_below hB _ _ (HT.out j hj))
  replace HU := Lib.hid (HU.out.grow hB)
  replace HA := Lib.hid (HA.out.below hB)
  replace H1 := Lib.hid (H1.out.below hB)
  replace HL2 := Lib.hid (HL2.out.below hB)
  clear hB
  have cHA0 := HA.out.2.1
  go_wp2_with fail
  obtain ⟨W17, hWn⟩ : ∃ xw9, W16.alloc (.cells #[.int .i64 0, .int .i64 1, .int .i64 2] 3) = xw9 := ⟨_, rfl⟩
  have hB : Below W16.heap.size W16 W17 := by rw [← hWn]; exact below_new _ _
  have hNB : Slc W17 (fun _ => True) (.slice (some ⟨W16.heap.size, 0, none⟩) 3 3) 3 (ints [0, 1, 2]) := by
    rw [← hWn]; exact (Slc.owned (World.ownsRow_lit (base := 0) (e := 3) (size := 1) W16 #[.int .i64 0, .int .i64 1, .int .i64 2] 3 (Nat.zero_le _) (by unfold maxLen; omega) rfl)).keep (Kept.refl _ _) (fun _ _ _ => trivial)
  rw [hWn]
  clear hWn
  clear cHA0
  replace HB := Lib.hid (HB.out.trans (hB.mono HB.out.size))
  replace HT := Lib.hid (fun j hj => keep_below hB _ _ (HT.out j hj))
  replace HU := Lib.hid (HU.out.grow hB)
  replace HA := Lib.hid (HA.out.below hB)
  replace H1 := Lib.hid (H1.out.below hB)
  replace HL2 := Lib.hid (HL2.out.below hB)
  have HL3 := Lib.hid hNB
  clear hNB hB
  refine (sorted16_no _ _ _ HU.out HL3.out).mono ?_
  rintro e W18 ⟨rfl, hB⟩
  replace HB := Lib.hid (HB.out.trans (hB.mono HB.out.size))
  replace HT := Lib.hid (fun j hj => keep_below hB _ _ (HT.out j hj))
  replace HU := Lib.hid (HU.out.grow hB)
  replace HA := Lib.hid (HA.out.below hB)
  replace H1 := Lib.hid (H1.out.below hB)
  replace HL2 := Lib.hid (HL2.out.below hB)
  replace HL3 := Lib.hid (HL3.out.below hB)
  clear hB
  have cHA0 := HA.out.2.1
  go_wp2_with fail
  obtain ⟨W19, hWn⟩ : ∃ xw9, W18.alloc (.cells #[.int .i64 2, .int .i64 0, .int .i64 1] 3) = xw9 := ⟨_, rfl⟩
  have hB : Below W18.heap.size W18 W19 := by rw [← hWn]; exact below_new _ _
  have hNB : Slc W19 (fun _ => True) (.slice (some ⟨W18.heap.size, 0, none⟩) 3 3) 3 (ints [2, 0, 1]) := by
    rw [← hWn]; exact (Slc.owned (World.ownsRow_lit (base := 0) (e := 3) (size := 1) W18 #[.int .i64 2, .int .i64 0, .int .i64 1] 3 (Nat.zero_le _) (by unfold maxLen; omega) rfl)).keep (Kept.refl _ _) (fun _ _ _ => trivial)
  rw [hWn]
  clear hWn
  clear cHA0
  replace HB := Lib.hid (HB.out.trans (hB.mono HB.out.size))
  replace HT := Lib.hid (fun j hj => keep_below hB _ _ (HT.out j hj))
  replace HU := Lib.hid (HU.out.grow hB)
  replace HA := Lib.hid (HA.out.below hB)
  replace H1 := Lib.hid (H1.out.below hB)
  replace HL2 := Lib.hid (HL2.out.below hB)
  replace HL3 := Lib.hid (HL3.out.below hB)
  have HL4 := Lib.hid hNB
  clear hNB hB
  refine (ints_eq _ _ [2, 0, 1] 3 _ H1.out HL4.out rfl (by decide)).mono ?_
  rintro e W20 ⟨rfl, hB⟩
  replace HB := Lib.hid (HB.out.trans (hB.mono HB.out.size))
  replace HT := Lib.hid (fun j hj => keep_below hB _ _ (HT.out j hj))
  replace HU := Lib.hid (HU.out.grow hB)
  replace HA := Lib.hid (HA.out.below hB)
  replace H1 := Lib.hid (H1.out.below hB)
  replace HL2 := Lib.hid (HL2.out.below hB)
  replace HL3 := Lib.hid (HL3.out.below hB)
  replace HL4 := Lib.hid (HL4.out.below hB)
  clear hB
  have cHA0 := HA.out.2.1
  go_wp2_with fail
  go_ret
  exact ⟨rfl, HB.out⟩

end Go.Proofs.YtibkbhglcmpeaaaDoor

/- Layer 16, plain: the keys of a good array's vector and of its items. -/
namespace Go.Proofs.YtibkbhglcmpeaaaDoor
set_option maxRecDepth 100000
open Go.RowKit Fl
set_option linter.unusedVariables false

theorem keyed_its {d : Nat} {A : VV} (h : A.cls < 2) (hN : ∀ x ∈ A.nums, Fnt x) : Keyed (itsA d A) (keyV A) := by
  rcases VV.cls_cases A with c | c | c
  · rw [its_num c]
    have key : ∀ (i : Nat) (p : PI), (A.nums.map fun x => ((0 : Int), x, (0 : Int), ([] : List PA)))[i]? = some p → ∃ x, A.nums[i]? = some x ∧ p = (0, x, 0, []) := by
      intro i p hp
      rw [List.getElem?_map] at hp
      cases hx : A.nums[i]? with
      | none => rw [hx] at hp; cases hp
      | some x => rw [hx] at hp; exact ⟨x, rfl, (Option.some.inj hp).symm⟩
    refine ⟨fun i k p q hp hq => ?_, fun i p hp => ?_⟩
    · obtain ⟨x, hx, rfl⟩ := key i p hp
      obtain ⟨y, hy, rfl⟩ := key k q hq
      exact ⟨rfl, fun _ => ⟨hN x (List.mem_of_getElem? hx), hN y (List.mem_of_getElem? hy)⟩⟩
    · obtain ⟨x, hx, rfl⟩ := key i p hp
      unfold keyV keyP
      rw [if_pos c, if_pos rfl, atI_some hx]
  · rw [its_chr c]
    have key : ∀ (i : Nat) (p : PI), (A.text.map fun x => ((1 : Int), (0 : Nat), x, ([] : List PA)))[i]? = some p → ∃ x, A.text[i]? = some x ∧ p = (1, 0, x, []) := by
      intro i p hp
      rw [List.getElem?_map] at hp
      cases hx : A.text[i]? with
      | none => rw [hx] at hp; cases hp
      | some x => rw [hx] at hp; exact ⟨x, rfl, (Option.some.inj hp).symm⟩
    refine ⟨fun i k p q hp hq => ?_, fun i p hp => ?_⟩
    · obtain ⟨x, hx, rfl⟩ := key i p hp
      obtain ⟨y, hy, rfl⟩ := key k q hq
      exact ⟨rfl, fun h => by cases h⟩
    · obtain ⟨x, hx, rfl⟩ := key i p hp
      unfold keyV keyP
      rw [if_neg (show ¬ A.cls = 0 by omega), atI_some hx]; rfl
  · omega
/-- A checked array: its vector, its items. -/
theorem good_vec {p : PA} (h : chk 40 p = 0) : (arrP 40 p).2.cls = p.f ∧ (arrP 40 p).2.len = p.l.length ∧ (∀ x ∈ (arrP 40 p).2.nums, Fnt x) ∧ p.l.length ≤ 1048576 ∧ (p.f < 2 → Keyed (tidyP 40 p).l (keyV (arrP 40 p).2)) ∧ (tidyP 40 p).l.length = p.l.length := by
  obtain ⟨h1, h2, _⟩ := arrP_len h
  have hg := gA_gV (d := 39) (arrP_good 40 p h)
  have hN : ∀ x ∈ (arrP 40 p).2.nums, Fnt x := fun x hx => (VV.nums_num hg.1 hg.2.1 x hx).1
  have hi := its_arrP (d := 39) h
  refine ⟨h2, h1, hN, len_chk (d := 39) h, fun hf => ?_, ?_⟩
  · rw [← hi]; exact keyed_its (by rw [h2]; exact hf) hN
  · rw [← hi, itsA_len, h1]
theorem fld_arr16 (x y : Value) (w : World) : (Instr.field 39 (.agg #[x, y]) 1).run Tryd.prog w = .ok (.agg #[y]) w := by kernel_rfl
end Go.Proofs.YtibkbhglcmpeaaaDoor

/- Merged: MgP, MgA, MgM, MgN, MgR, MgS, MgB, MgT, MgU, MgV, MgL, MgO, MgZ, MgH, MgQ. -/
import Derived.Laws.CopyOwn
import Derived.Deep.DeepMust
import Derived.Defers
import Derived.Recover
import Derived.Test.YtbdbpamefkgelaaGreatDoorMgRx1
import Derived.Test.YtbdbpamefkgelaaGreatDoorMgFl1
import Derived.Test.YtbdbpamefkgelaaGreatDoorMgOr1
import Derived.Test.YtbdbpamefkgelaaGreatDoorMgFo1
import Derived.Test.YtbdbpamefkgelaaGreatDoorMgSh1
import Derived.Test.YtbdbpamefkgelaaGreatDoorMgSq1
import Derived.Test.YtbdbpamefkgelaaGreatDoorMgVe1
import Derived.Test.YtbdbpamefkgelaaGreatDoorMgAr1
import Derived.Test.YtbdbpamefkgelaaGreatDoorMgPi1
import Derived.Test.YtbdbpamefkgelaaGreatDoorMgVa2
/- Layer 18, plain: elements in order, in order once more, and backwards. -/
namespace Go.Proofs.YtbdbpamefkgelaaGreatDoor
set_option maxRecDepth 100000
open Go.RowKit Fl
set_option linter.unusedVariables false

/-- What Grade and Cells tell of cells. -/
noncomputable def mgL (A : VV) (size : Nat) (down : Bool) : List Nat := grN (A.len / size) (lesK (keyV A) size down) (A.len / size)
theorem mgL_len (A : VV) (size : Nat) (down : Bool) : (mgL A size down).length = A.len / size := grN_len _ _ _
theorem so_pair {n : Nat} {lt : Nat → Nat → Bool} (h : TotO n lt) {a : List Nat} (ha : IsSo n lt a) : a.Pairwise (fun x y => lt x y = true) := by
  rw [List.pairwise_iff_getElem]
  intro i j hi hj hij
  have e1 : a.getD i 0 = a[i] := by rw [List.getD_eq_getElem?_getD, List.getElem?_eq_getElem hi]; rfl
  have e2 : a.getD j 0 = a[j] := by rw [List.getD_eq_getElem?_getD, List.getElem?_eq_getElem hj]; rfl
  have r1 := so_rank h ha i (by rw [← ha.1]; exact hi)
  have r2 := so_rank h ha j (by rw [← ha.1]; exact hj)
  rw [e1] at r1
  rw [e2] at r2
  refine (rkO_iff h (ha.2.1 _ (List.getElem_mem hi)) (ha.2.1 _ (List.getElem_mem hj))).2 ?_
  rw [r1, r2]; exact hij
theorem so_perm {n : Nat} {lt : Nat → Nat → Bool} {a : List Nat} (ha : IsSo n lt a) : a.Perm (List.range n) :=
  (List.perm_ext_iff_of_nodup ha.2.2.1 List.nodup_range).2 fun x => ⟨fun hx => List.mem_range.2 (ha.2.1 x hx), fun hx => full_of ha.2.2.1 ha.1 ha.2.1 x (List.mem_range.1 hx)⟩
theorem grN_so (n : Nat) (K : Nat → Int) (size : Nat) (down : Bool) : IsSo n (lesK K size down) (grN n (lesK K size down) n) := gr_so (lesK_tot _ _ _ _) (grN_gr (lesK_tot _ _ _ _))
theorem grN_mem {n : Nat} {K : Nat → Int} {size : Nat} {down : Bool} : ∀ x ∈ grN n (lesK K size down) n, x < n := (grN_so n K size down).2.1
/-- What is in order stays. -/
theorem grN_id {n : Nat} {K : Nat → Int} (hK : ∀ i j, i ≤ j → j < n → K i ≤ K j) : grN n (lesK K 1 false) n = List.range n := by
  refine ((so_iff (lesK_tot _ _ _ _) (grN_gr (lesK_tot _ _ _ _))).1 ⟨List.length_range, fun x hx => List.mem_range.1 hx, List.nodup_range, fun r hr => ?_⟩).symm
  have e1 : (List.range n).getD r 0 = r := by rw [List.getD_eq_getElem?_getD, List.getElem?_range (by omega)]; rfl
  have e2 : (List.range n).getD (r + 1) 0 = r + 1 := by rw [List.getD_eq_getElem?_getD, List.getElem?_range hr]; rfl
  rw [e1, e2, lesK_one]
  simp only [Bool.false_eq_true, if_false]
  have := hK r (r + 1) (by omega) hr
  omega
theorem sorted_one {a b : List Int} (h : a.Perm b) (sa : a.Pairwise (· ≤ ·)) (sb : b.Pairwise (· ≤ ·)) : a = b := by
  induction a generalizing b with
  | nil => exact (List.nil_perm.1 h).symm
  | cons x a ih =>
    cases b with
    | nil => exact absurd h (by simp)
    | cons y b =>
      have hxy : x = y := by
        have h1 : x ∈ y :: b := h.mem_iff.1 (List.mem_cons_self ..)
        have h2 : y ∈ x :: a := h.mem_iff.2 (List.mem_cons_self ..)
        rw [List.pairwise_cons] at sa sb
        rcases List.mem_cons.1 h1 with e | e
        · exact e
        · rcases List.mem_cons.1 h2 with f | f
          · exact f.symm
          · have := sa.1 y f; have := sb.1 x e; omega
      subst hxy
      rw [List.pairwise_cons] at sa sb
      rw [ih ((List.perm_cons x).1 h) sa.2 sb.2]
/-- Downwards is upwards backwards, as far as keys tell. -/
theorem grN_back {n : Nat} {K : Nat → Int} (hK : ∀ i j, i ≤ j → j < n → K i ≤ K j) {i : Nat} (hi : i < n) : K ((grN n (lesK K 1 true) n).getD (n - 1 - i) 0) = K i := by
  have hs := grN_so n K 1 true
  obtain ⟨g, hg⟩ : ∃ g, grN n (lesK K 1 true) n = g := ⟨_, rfl⟩
  rw [hg] at hs ⊢
  have hp := so_pair (lesK_tot K 1 true n) hs
  have e : (g.map K).reverse = (List.range n).map K := by
    refine sorted_one ((List.reverse_perm _).trans ((so_perm hs).map K)) ?_ ?_
    · rw [List.pairwise_reverse, List.pairwise_map]
      refine hp.imp fun {x y} h => ?_
      rw [lesK_one] at h
      simp only [if_true] at h
      omega
    · rw [List.pairwise_map]
      refine List.Pairwise.imp_of_mem (fun {x y} hx hy h => ?_) (range_pair n)
      exact hK x y (by omega) (List.mem_range.1 hy)
  have h1 : ((g.map K).reverse)[i]? = some (K i) := by rw [e, List.getElem?_map, List.getElem?_range hi]; rfl
  rw [List.getElem?_reverse (by rw [List.length_map, hs.1]; exact hi), List.length_map, hs.1, List.getElem?_map] at h1
  obtain ⟨x, hx, hy⟩ := Option.map_eq_some_iff.1 h1
  rw [List.getD_eq_getElem?_getD, hx]; exact hy
/-- The keys of elements picked. -/
theorem sel_key {A : VV} (hok : A.ok) (hn : A.nm) (hc : A.cls < 2) {g : List Nat} (hg : ∀ x ∈ g, x < A.len) (hm : g.length ≤ 1048576) {i : Nat} (hi : i < g.length) : keyV (A.sel (zL g)) i = keyV A (g.getD i 0) := by
  have hN := VV.nums_num hok hn
  have hz : (zL g)[i]? = some ((g[i] : Nat) : Int) := by unfold zL; rw [List.getElem?_map, List.getElem?_eq_getElem hi]; rfl
  have hd : g.getD i 0 = g[i] := by rw [List.getD_eq_getElem?_getD, List.getElem?_eq_getElem hi]; rfl
  have hcl := VV.sel_cls A (zL g) hN (by rw [zL_len]; exact hm)
  rw [hd]
  rcases VV.cls_cases A with c | c | c
  · unfold keyV
    rw [hcl, if_pos c, if_pos c, VV.sel_numbers (zL g) hN (by rw [zL_len]; exact hm) c]
    congr 1
    exact atI_some (by rw [List.getElem?_map, hz]; rfl)
  · unfold keyV
    rw [hcl, if_neg (by omega), if_neg (by omega), VV.sel_chars c]
    have hl : g[i] < A.text.length := by rw [VV.text_len c]; exact hg _ (List.getElem_mem hi)
    have e : ((zL g).map (atI A.text 32))[i]? = some (A.text[g[i]]) := by rw [List.getElem?_map, hz]; exact congrArg some (atI_nat hl)
    have e2 : (VV.chars ((zL g).map (atI A.text 32))).text = (zL g).map (atI A.text 32) := rfl
    rw [e2, atI_some e, atI_nat hl]
  · omega
/-- Elements in order: their keys rise. -/
theorem sel_sorted {A : VV} (hok : A.ok) (hn : A.nm) (hc : A.cls < 2) : ∀ i j, i ≤ j → j < A.len → keyV (A.sel (zL (mgL A 1 false))) i ≤ keyV (A.sel (zL (mgL A 1 false))) j := by
  intro i j hij hj
  have hl : (mgL A 1 false).length = A.len := by rw [mgL_len, Nat.div_one]
  have hs := grN_so (A.len / 1) (keyV A) 1 false
  have hb : ∀ x ∈ mgL A 1 false, x < A.len := fun x hx => by have := hs.2.1 x hx; rwa [Nat.div_one] at this
  have hm : (mgL A 1 false).length ≤ 1048576 := by rw [hl]; exact VV.ok_len hok
  rw [sel_key hok hn hc hb hm (by omega), sel_key hok hn hc hb hm (by omega)]
  by_cases e : i = j
  · subst e; exact Int.le_refl _
  · have hp := List.pairwise_iff_getElem.1 (so_pair (lesK_tot (keyV A) 1 false _) hs) i j (by unfold mgL at hl; omega) (by unfold mgL at hl; omega) (by omega)
    rw [lesK_one] at hp
    simp only [Bool.false_eq_true, if_false] at hp
    have e1 : (mgL A 1 false).getD i 0 = (mgL A 1 false)[i]'(by omega) := by rw [List.getD_eq_getElem?_getD, List.getElem?_eq_getElem (by omega)]; rfl
    have e2 : (mgL A 1 false).getD j 0 = (mgL A 1 false)[j]'(by omega) := by rw [List.getD_eq_getElem?_getD, List.getElem?_eq_getElem (by omega)]; rfl
    rw [e1, e2]
    unfold mgL
    omega
end Go.Proofs.YtbdbpamefkgelaaGreatDoor

/- Layer 18, walked: the reference's Grade. -/
namespace Go.Proofs.YtbdbpamefkgelaaGreatDoor
set_option maxRecDepth 100000
open Go.RowKit Fl
set_option linter.unusedVariables false

end Go.Proofs.YtbdbpamefkgelaaGreatDoor

/- Layer 18, plain: two runs put together, the lesser one first; the order that an 'ahead' gives. -/
namespace Go.Proofs.YtbdbpamefkgelaaGreatDoor
set_option maxRecDepth 100000
set_option linter.unusedVariables false

/-- Ahead, and of alike ones the first. -/
def stO (ahead : Nat → Nat → Bool) (i k : Nat) : Bool := ahead i k || (!ahead k i && decide (i < k))
/-- A strict weak order of the numbers below n. -/
structure Weak (n : Nat) (ahead : Nat → Nat → Bool) : Prop where
  irr : ∀ i, i < n → ahead i i = false
  tra : ∀ i j k, i < n → j < n → k < n → ahead i j = true → ahead j k = true → ahead i k = true
  nei : ∀ i j k, i < n → j < n → k < n → ahead i j = false → ahead j k = false → ahead i k = false
theorem Weak.tot {n : Nat} {ahead : Nat → Nat → Bool} (h : Weak n ahead) : TotO n (stO ahead) := by
  have asy : ∀ i k, i < n → k < n → ahead i k = true → ahead k i = false := fun i k hi hk h1 => by
    cases h2 : ahead k i
    · rfl
    · have := h.tra i k i hi hk hi h1 h2
      rw [h.irr i hi] at this; cases this
  refine ⟨fun i hi => ?_, fun i j hi hj hij => ?_, fun i j k hi hj hk a b => ?_⟩
  · unfold stO; rw [h.irr i hi]; simp
  · unfold stO
    cases h1 : ahead i j
    · cases h2 : ahead j i
      · by_cases h3 : i < j
        · simp [h3, show ¬ j < i by omega]
        · simp [h3, show j < i by omega]
      · simp
    · rw [asy i j hi hj h1]; simp
  · unfold stO at a b ⊢
    cases h1 : ahead i j
    · cases h2 : ahead j k
      · rw [h1] at a; rw [h2] at b
        simp at a b
        have h3 := h.nei k j i hk hj hi b.1 a.1
        have h4 := h.nei i j k hi hj hk h1 h2
        rw [h3, h4]; simp; omega
      · rw [h1] at a
        simp at a
        cases h4 : ahead i k
        · have h5 : ahead k j = false := asy j k hj hk h2
          have h6 := h.nei j i k hj hi hk a.1 h4
          rw [h2] at h6; cases h6
        · rfl
    · cases h2 : ahead j k
      · rw [h2] at b
        simp at b
        cases h4 : ahead i k
        · have h6 := h.nei i k j hi hk hj h4 b.1
          rw [h1] at h6; cases h6
        · rfl
      · rw [h.tra i j k hi hj hk h1 h2]; rfl
/-- Two runs, i of the one and j of the other already put into the list o. -/
structure Mrg (lt : Nat → Nat → Bool) (A B : List Nat) (i j : Nat) (o : List Nat) : Prop where
  perm : o.Perm (A.take i ++ B.take j)
  pair : o.Pairwise (fun x y => lt x y = true)
  rest : ∀ x ∈ o, ∀ y ∈ A.drop i ++ B.drop j, lt x y = true
theorem Mrg.start (lt : Nat → Nat → Bool) (A B : List Nat) : Mrg lt A B 0 0 [] := ⟨by simp, List.Pairwise.nil, fun x hx => by cases hx⟩
theorem Mrg.len {lt : Nat → Nat → Bool} {A B : List Nat} {i j : Nat} {o : List Nat} (h : Mrg lt A B i j o) (hi : i ≤ A.length) (hj : j ≤ B.length) : o.length = i + j := by
  rw [h.perm.length_eq, List.length_append, List.length_take, List.length_take]; omega
theorem Mrg.swap {lt : Nat → Nat → Bool} {A B : List Nat} {i j : Nat} {o : List Nat} (h : Mrg lt A B i j o) : Mrg lt B A j i o :=
  ⟨h.perm.trans List.perm_append_comm, h.pair, fun x hx y hy => h.rest x hx y (by rw [List.mem_append] at hy ⊢; exact hy.symm)⟩
/-- A piece of the first run goes over: all of it is ahead of what is left of the other one. -/
theorem Mrg.piece {n : Nat} {lt : Nat → Nat → Bool} {A B : List Nat} {i j m : Nat} {o : List Nat} (h : Mrg lt A B i j o) (ht : TotO n lt) (hA : ∀ x ∈ A, x < n) (hB : ∀ x ∈ B, x < n) (sA : A.Pairwise (fun x y => lt x y = true)) (sB : B.Pairwise (fun x y => lt x y = true))
    (hm : i + m ≤ A.length) (hp : ∀ x ∈ (A.drop i).take m, ∀ b, B[j]? = some b → lt x b = true) : Mrg lt A B (i + m) j (o ++ (A.drop i).take m) := by
  have e1 : A.take (i + m) = A.take i ++ (A.drop i).take m := List.take_add ..
  have e2 : A.drop i = (A.drop i).take m ++ A.drop (i + m) := by rw [← List.drop_drop]; exact (List.take_append_drop m (A.drop i)).symm
  have sD : (A.drop i).Pairwise (fun x y => lt x y = true) := sA.sublist (List.drop_sublist i A)
  refine ⟨?_, ?_, ?_⟩
  · rw [e1]
    refine (h.perm.append_right _).trans ?_
    rw [List.append_assoc, List.append_assoc]
    exact List.perm_append_comm.append_left _
  · rw [List.pairwise_append]
    refine ⟨h.pair, sD.sublist (List.take_sublist _ _), fun x hx y hy => h.rest x hx y (List.mem_append_left _ (List.mem_of_mem_take hy))⟩
  · intro x hx y hy
    rcases List.mem_append.1 hx with h1 | h1
    · refine h.rest x h1 y ?_
      rcases List.mem_append.1 hy with h2 | h2
      · rw [e2]; exact List.mem_append_left _ (List.mem_append_right _ h2)
      · exact List.mem_append_right _ h2
    · rcases List.mem_append.1 hy with h2 | h2
      · rw [e2, List.pairwise_append] at sD
        exact sD.2.2 x h1 y h2
      · have hjl : j < B.length := by
          have := List.length_pos_of_mem h2
          rw [List.length_drop] at this; omega
        have hb : B[j]? = some B[j] := List.getElem?_eq_getElem hjl
        have hxb := hp x h1 _ hb
        rw [List.drop_eq_getElem_cons hjl] at h2
        rcases List.mem_cons.1 h2 with h3 | h3
        · rw [h3]; exact hxb
        · have sB2 : (B.drop j).Pairwise (fun x y => lt x y = true) := sB.sublist (List.drop_sublist j B)
          rw [List.drop_eq_getElem_cons hjl, List.pairwise_cons] at sB2
          have hby := sB2.1 y h3
          exact ht.tra x B[j] y (hA x (List.mem_of_mem_drop (List.mem_of_mem_take h1))) (hB _ (List.getElem_mem _)) (hB y (List.mem_of_mem_drop h3)) hxb hby
/-- One of the first run. -/
theorem Mrg.one {n : Nat} {lt : Nat → Nat → Bool} {A B : List Nat} {i j : Nat} {o : List Nat} {a : Nat} (h : Mrg lt A B i j o) (ht : TotO n lt) (hA : ∀ x ∈ A, x < n) (hB : ∀ x ∈ B, x < n) (sA : A.Pairwise (fun x y => lt x y = true)) (sB : B.Pairwise (fun x y => lt x y = true))
    (ha : A[i]? = some a) (hp : ∀ b, B[j]? = some b → lt a b = true) : Mrg lt A B (i + 1) j (o ++ [a]) := by
  obtain ⟨h1, h2⟩ := List.getElem?_eq_some_iff.1 ha
  have e : (A.drop i).take 1 = [a] := by rw [List.drop_eq_getElem_cons h1, h2]; rfl
  have := h.piece (m := 1) ht hA hB sA sB (by omega) (by rw [e]; intro x hx b hb; rw [List.mem_singleton.1 hx]; exact hp b hb)
  rwa [e] at this
/-- What is left of the first run, where nothing is left of the other. -/
theorem Mrg.left {n : Nat} {lt : Nat → Nat → Bool} {A B : List Nat} {i j : Nat} {o : List Nat} (h : Mrg lt A B i j o) (ht : TotO n lt) (hA : ∀ x ∈ A, x < n) (hB : ∀ x ∈ B, x < n) (sA : A.Pairwise (fun x y => lt x y = true)) (sB : B.Pairwise (fun x y => lt x y = true))
    (hi : i ≤ A.length) (hj : B.length ≤ j) : Mrg lt A B A.length j (o ++ A.drop i) := by
  have := h.piece (m := A.length - i) ht hA hB sA sB (by omega) (fun x _ b hb => by rw [List.getElem?_eq_none hj] at hb; cases hb)
  rw [List.take_of_length_le (by rw [List.length_drop]; exact Nat.le_refl _), show i + (A.length - i) = A.length by omega] at this
  exact this
theorem Mrg.ends {lt : Nat → Nat → Bool} {A B : List Nat} {i j : Nat} {o : List Nat} (h : Mrg lt A B i j o) (hi : A.length ≤ i) (hj : B.length ≤ j) : o.Perm (A ++ B) ∧ o.Pairwise (fun x y => lt x y = true) := by
  have := h.perm
  rw [List.take_of_length_le hi, List.take_of_length_le hj] at this
  exact ⟨this, h.pair⟩
/-- Which one goes first, where all of the first run stand ahead of the other one's. -/
theorem stO_pick {n : Nat} {ahead : Nat → Nat → Bool} (h : Weak n ahead) {a b : Nat} (ha : a < n) (hb : b < n) (hab : a < b) : (ahead b a = true → stO ahead b a = true) ∧ (ahead b a = false → stO ahead a b = true) := by
  unfold stO
  refine ⟨fun h1 => by rw [h1]; rfl, fun h1 => ?_⟩
  rw [h1, decide_eq_true hab]; simp
end Go.Proofs.YtbdbpamefkgelaaGreatDoor

/- Layer 18, plain: runs that are in order, merged two by two. -/
namespace Go.Proofs.YtbdbpamefkgelaaGreatDoor
set_option maxRecDepth 100000
set_option linter.unusedVariables false

/-- Runs of r places: each holds its own places, in order. -/
structure Rp (lt : Nat → Nat → Bool) (r : Nat) (l : List Nat) : Prop where
  blk : ∀ i x, l[i]? = some x → x / r = i / r
  ord : ∀ i j x y, l[i]? = some x → l[j]? = some y → i < j → i / r = j / r → lt x y = true
theorem Rp.start (lt : Nat → Nat → Bool) (n : Nat) : Rp lt 1 (List.range n) := by
  refine ⟨fun i x h => ?_, fun i j x y _ _ h1 h2 => ?_⟩
  · obtain ⟨h1, h2⟩ := List.getElem?_eq_some_iff.1 h
    rw [List.getElem_range] at h2; rw [h2]
  · rw [Nat.div_one, Nat.div_one] at h2; omega
theorem Rp.nil (lt : Nat → Nat → Bool) (r : Nat) : Rp lt r [] := ⟨fun i x h => by simp at h, fun i j x y h => by simp at h⟩
/-- One run, whole. -/
def runL (l : List Nat) (r q : Nat) : List Nat := (l.drop (r * q)).take r
theorem runL_get {l : List Nat} {r q i x : Nat} (h : (runL l r q)[i]? = some x) : i < r ∧ l[r * q + i]? = some x := by
  unfold runL at h
  rw [List.getElem?_take] at h
  split at h
  · rename_i hi
    rw [List.getElem?_drop] at h
    exact ⟨hi, h⟩
  · cases h
theorem runL_len (l : List Nat) (r q : Nat) : (runL l r q).length = min r (l.length - r * q) := by unfold runL; rw [List.length_take, List.length_drop]
theorem div_run {r q i : Nat} (h : i < r) : (r * q + i) / r = q := by
  rw [Nat.mul_add_div (by omega), Nat.div_eq_of_lt h]; omega
theorem Rp.run {lt : Nat → Nat → Bool} {r : Nat} {l : List Nat} (h : Rp lt r l) (q : Nat) : (runL l r q).Pairwise (fun x y => lt x y = true) ∧ ∀ x ∈ runL l r q, x / r = q := by
  refine ⟨?_, fun x hx => ?_⟩
  · rw [List.pairwise_iff_getElem]
    intro i j hi hj hij
    obtain ⟨a1, a2⟩ := runL_get (List.getElem?_eq_getElem hi)
    obtain ⟨b1, b2⟩ := runL_get (List.getElem?_eq_getElem hj)
    exact h.ord _ _ _ _ a2 b2 (by omega) (by rw [div_run a1, div_run b1])
  · obtain ⟨i, hi⟩ := List.getElem?_of_mem hx
    obtain ⟨a1, a2⟩ := runL_get hi
    rw [h.blk _ _ a2, div_run a1]
theorem Rp.put {lt : Nat → Nat → Bool} {r q : Nat} {l o : List Nat} (h : Rp lt r l) (hl : l.length = r * q) (ho : ∀ x ∈ o, x / r = q) (hp : o.Pairwise (fun x y => lt x y = true)) (hm : o.length ≤ r) : Rp lt r (l ++ o) := by
  have key : ∀ i x, (l ++ o)[i]? = some x → (i < r * q ∧ l[i]? = some x) ∨ (r * q ≤ i ∧ i / r = q ∧ o[i - r * q]? = some x) := by
    intro i x hx
    by_cases hi : i < r * q
    · rw [List.getElem?_append_left (by omega)] at hx
      exact Or.inl ⟨hi, hx⟩
    · rw [List.getElem?_append_right (by omega), hl] at hx
      have h1 := (List.getElem?_eq_some_iff.1 hx).1
      refine Or.inr ⟨by omega, ?_, hx⟩
      have : i = r * q + (i - r * q) := by omega
      rw [this, div_run (by omega)]
  refine ⟨fun i x hx => ?_, fun i j x y hx hy hij hb => ?_⟩
  · rcases key i x hx with ⟨h1, h2⟩ | ⟨h1, h2, h3⟩
    · exact h.blk i x h2
    · rw [h2]; exact ho x (List.mem_of_getElem? h3)
  · rcases key i x hx with ⟨h1, h2⟩ | ⟨h1, h2, h3⟩
    · rcases key j y hy with ⟨k1, k2⟩ | ⟨k1, k2, k3⟩
      · exact h.ord i j x y h2 k2 hij hb
      · have hr : 0 < r := by
          rcases Nat.eq_zero_or_pos r with e | e
          · subst e; omega
          · exact e
        have := (Nat.div_lt_iff_lt_mul hr).2 (show i < q * r by rw [Nat.mul_comm]; exact h1)
        omega
    · rcases key j y hy with ⟨k1, k2⟩ | ⟨k1, k2, k3⟩
      · omega
      · obtain ⟨a1, a2⟩ := List.getElem?_eq_some_iff.1 h3
        obtain ⟨b1, b2⟩ := List.getElem?_eq_some_iff.1 k3
        have := List.pairwise_iff_getElem.1 hp _ _ a1 b1 (by omega)
        rwa [a2, b2] at this
theorem Rp.all {lt : Nat → Nat → Bool} {r : Nat} {l : List Nat} (h : Rp lt r l) (hr : l.length ≤ r) : l.Pairwise (fun x y => lt x y = true) := by
  rw [List.pairwise_iff_getElem]
  intro i j hi hj hij
  exact h.ord i j _ _ (List.getElem?_eq_getElem hi) (List.getElem?_eq_getElem hj) hij (by rw [Nat.div_eq_of_lt (by omega), Nat.div_eq_of_lt (by omega)])
theorem so_of_pair {n : Nat} {lt : Nat → Nat → Bool} (ht : TotO n lt) {l : List Nat} (hl : l.length = n) (hm : ∀ x ∈ l, x < n) (hp : l.Pairwise (fun x y => lt x y = true)) : IsSo n lt l := by
  refine ⟨hl, hm, ?_, fun r hr => ?_⟩
  · refine hp.imp_of_mem fun {x y} hx hy h e => ?_
    subst e
    rw [ht.irr x (hm x hx)] at h; cases h
  · have h1 := List.pairwise_iff_getElem.1 hp r (r + 1) (by omega) (by omega) (by omega)
    rw [List.getD_eq_getElem?_getD, List.getElem?_eq_getElem (by omega), List.getD_eq_getElem?_getD, List.getElem?_eq_getElem (by omega)]
    exact h1
/-- The two runs of a longer one. -/
theorem run_two {r q x : Nat} (h : x / r = 2 * q ∨ x / r = 2 * q + 1) : x / (2 * r) = q := by
  rw [Nat.mul_comm, ← Nat.div_div_eq_div_mul]; omega
theorem run_lt {r q x y : Nat} (hx : x / r = 2 * q) (hy : y / r = 2 * q + 1) : x < y := by
  rcases Nat.lt_or_ge x y with h | h
  · exact h
  · have := Nat.div_le_div_right (c := r) h; omega
/-- A row, a piece of it laid anew. -/
theorem splice_len {α : Type} (m : List α) (f : Nat) (o : List α) (h : f + o.length ≤ m.length) : (splice m f o).length = m.length := length_splice m f o h
theorem splice_nil {α : Type} (m : List α) (f : Nat) : splice m f [] = m := by simp [splice]
theorem splice_set {α : Type} (m : List α) (f : Nat) (o : List α) (x : α) (h : f + o.length < m.length) : (splice m f o).set (f + o.length) x = splice m f (o ++ [x]) := by
  unfold splice
  rw [List.set_append_right _ _ (by rw [List.length_take]; omega), List.set_append_right _ _ (by rw [List.length_take]; omega)]
  have e : f + o.length - (m.take f).length - o.length = 0 := by rw [List.length_take]; omega
  rw [e, List.drop_eq_getElem_cons h, List.set_cons_zero]
  simp only [List.length_append, List.length_singleton, List.append_assoc, List.singleton_append]
  rw [Nat.add_assoc]
theorem splice_more {α : Type} (m : List α) (f : Nat) (o cs : List α) (h : f + o.length + cs.length ≤ m.length) : splice (splice m f o) (f + o.length) cs = splice m f (o ++ cs) := by
  have hl : (m.take f ++ o).length = f + o.length := by rw [List.length_append, List.length_take]; omega
  unfold splice
  rw [← List.append_assoc (m.take f) o, List.take_left' hl, ← hl, List.drop_append, hl]
  rw [List.drop_eq_nil_of_le (by omega), List.nil_append, List.drop_drop]
  simp only [List.length_append, List.append_assoc]
  rw [show f + o.length + (f + o.length + cs.length - (f + o.length)) = f + (o.length + cs.length) by omega]
theorem splice_map {α β : Type} (F : α → β) (m : List α) (f : Nat) (o : List α) : (splice m f o).map F = splice (m.map F) f (o.map F) := by
  simp [splice, List.map_take, List.map_drop]
/-- What is done behind one more run. -/
theorem splice_take {α : Type} (m : List α) (f r : Nat) (o : List α) (hf : f < m.length) (ho : o.length = min r (m.length - f)) : (splice m f o).take (f + r) = m.take f ++ o := by
  have hl : (m.take f ++ o).length = f + o.length := by rw [List.length_append, List.length_take]; omega
  unfold splice
  rw [← List.append_assoc]
  by_cases h : f + r ≤ m.length
  · rw [List.take_left' (by rw [hl]; omega)]
  · rw [List.drop_eq_nil_of_le (by omega), List.append_nil, List.take_of_length_le (by rw [hl]; omega)]
end Go.Proofs.YtbdbpamefkgelaaGreatDoor

/- Layer 18, walked: mergeInto: two runs go over into a row, the one ahead first. Written by tools/gen_mgr.py. -/
namespace Go.Proofs.YtbdbpamefkgelaaGreatDoor
set_option maxRecDepth 100000
open Go.RowKit
set_option linter.unusedVariables false

/-- A block that holds a row of places, whole. -/
def RowP (w : World) (b : Nat) (l : List Nat) : Prop := w.heap[b]? = some (.cells (ints (zL l)).toArray 3 (0, 0))
theorem RowP.cell {w : World} {b : Nat} {l : List Nat} (h : RowP w b l) {i x : Nat} (hx : l[i]? = some x) : w.cell? ⟨b, i, none⟩ = some (.int .i64 (x : Int)) :=
  row_cell h (by unfold ints zL; rw [List.getElem?_map, List.getElem?_map, hx]; rfl)
theorem RowP.free {w : World} {b : Nat} {l : List Nat} (h : RowP w b l) (i : Nat) : w.frozen? ⟨b, i, none⟩ = false := frozen_of_row w b i _ _ h
theorem RowP.lt {w : World} {b : Nat} {l : List Nat} (h : RowP w b l) : b < w.heap.size := lt_heap h
theorem RowP.set {w : World} {b : Nat} {l : List Nat} (h : RowP w b l) (i x : Nat) : RowP (w.setCell ⟨b, i, none⟩ (.int .i64 (x : Int))) b (l.set i x) := by
  have := heap_setCell_same w b i _ _ (.int .i64 (x : Int)) h
  unfold RowP
  rw [this]
  congr 2
  rw [List.setIfInBounds_toArray]
  unfold ints zL
  rw [List.map_set, List.map_set]
theorem RowP.below {w w' : World} {b : Nat} {l : List Nat} (h : RowP w b l) (hb : Below w.heap.size w w') : RowP w' b l := (hb.block _ h.lt).trans h
theorem RowP.kept {w w' : World} {b c : Nat} {l : List Nat} (h : RowP w b l) (hg : w.grownBy w' (some c)) (hne : b ≠ c) : RowP w' b l := (hg.block _ h.lt (by simpa using hne)).trans h
theorem RowP.slc {w : World} {b : Nat} {l : List Nat} (h : RowP w b l) (hm : l.length ≤ maxLen) : Slc w (fun c => c = b) (.slice (some ⟨b, 0, none⟩) l.length l.length) (zL l).length (ints (zL l)) := by
  rw [zL_len]
  refine ⟨⟨by rw [ints_len, zL_len], _, _, rfl, fun i hi => ?_⟩, _, _, rfl, Nat.le_refl _, hm⟩
  rw [ints_len, zL_len] at hi
  refine ⟨b, 0, rfl, rfl, ?_⟩
  rw [Nat.zero_add, h.cell (List.getElem?_eq_getElem hi)]
  simp [ints, zL]
theorem Slc.grownBy {w w' : World} {c : Nat} {s : Value} {n : Nat} {xs : List Value} (h : Slc w (fun b => b ≠ c) s n xs) (hg : w.grownBy w' (some c)) : Slc w' (fun b => b ≠ c) s n xs :=
  h.keep (fun a v ho hv => hg.cell hv (by simpa using ho)) (fun _ _ h => h)
theorem splice_rows (m : List Nat) (f : Nat) (o : List Nat) : ints (zL (splice m f o)) = splice (ints (zL m)) f (ints (zL o)) := by
  unfold ints zL; rw [splice_map, splice_map]
/-- The rest of a run behind one more. -/
theorem run_rest {w : World} {ok : Nat → Prop} {b off cp n : Nat} {l : List Nat} (h : Slc w ok (.slice (some ⟨b, off, none⟩) n cp) n (ints (zL l))) (hp : 0 < n) :
    (cp = 1 → Slc w ok (.slice (some ⟨b, off, none⟩) (n - 1) 0) (n - 1) (ints (zL (l.drop 1)))) ∧ (¬ cp = 1 → Slc w ok (.slice (some ⟨b, off + 1, none⟩) (n - 1) (cp - 1)) (n - 1) (ints (zL (l.drop 1)))) := by
  rw [zL_drop]
  have hz : (zL l).length = n := by have := h.1.len; rwa [ints_len] at this
  have h' : Slc w ok (.slice (some ⟨b, off, none⟩) (zL l).length cp) (zL l).length (ints (zL l)) := by rw [hz]; exact h
  have hcp : n ≤ cp := by obtain ⟨_, ao, c1, e, h1, _⟩ := h; cases e; exact h1
  refine ⟨fun e => ?_, fun _ => ?_⟩
  · have := Slc.drop0 (w := w) (ok := ok) (b := b) (off := off) (cap := cp) (k := 0) (s := zL l) (by omega) (by omega) (by omega)
    rw [List.length_drop, hz] at this
    exact this
  · have := h'.drop 1 (by omega)
    rw [List.length_drop, hz] at this
    exact this
theorem drop_get {l : List Nat} {i x : Nat} (h : (l.drop i)[0]? = some x) : l[i]? = some x := by rw [List.getElem?_drop, Nat.add_zero] at h; exact h
def lenS : Value → Nat
  | .slice _ n _ => n
  | _ => 0
/-- Two runs. -/
structure Runs18 (n : Nat) (ahead : Nat → Nat → Bool) (A B : List Nat) : Prop where
  weak : Weak n ahead
  ltA : ∀ x ∈ A, x < n
  ltB : ∀ x ∈ B, x < n
  soA : A.Pairwise (fun x y => stO ahead x y = true)
  soB : B.Pairwise (fun x y => stO ahead x y = true)
  lt : ∀ a ∈ A, ∀ b ∈ B, a < b
theorem Runs18.takeB {n : Nat} {ahead : Nat → Nat → Bool} {A B : List Nat} (h : Runs18 n ahead A B) {i j a b : Nat} {o : List Nat} (hm : Mrg (stO ahead) A B i j o) (ha : A[i]? = some a) (hb : B[j]? = some b) (hc : ahead b a = true) : Mrg (stO ahead) A B i (j + 1) (o ++ [b]) := by
  have ha' := List.mem_of_getElem? ha
  have hb' := List.mem_of_getElem? hb
  exact (hm.swap.one h.weak.tot h.ltB h.ltA h.soB h.soA hb (fun x hx => by
    rw [ha] at hx; cases hx
    exact (stO_pick h.weak (h.ltA a ha') (h.ltB b hb') (h.lt a ha' b hb')).1 hc)).swap
theorem Runs18.takeA {n : Nat} {ahead : Nat → Nat → Bool} {A B : List Nat} (h : Runs18 n ahead A B) {i j a b : Nat} {o : List Nat} (hm : Mrg (stO ahead) A B i j o) (ha : A[i]? = some a) (hb : B[j]? = some b) (hc : ahead b a = false) : Mrg (stO ahead) A B (i + 1) j (o ++ [a]) := by
  have ha' := List.mem_of_getElem? ha
  have hb' := List.mem_of_getElem? hb
  exact hm.one h.weak.tot h.ltA h.ltB h.soA h.soB ha (fun x hx => by
    rw [hb] at hx; cases hx
    exact (stO_pick h.weak (h.ltA a ha') (h.ltB b hb') (h.lt a ha' b hb')).2 hc)

theorem run_len_of {w : World} {ok : Nat → Prop} {v : Value} {n : Nat} {l : List Nat} (h : Slc w ok v n (ints (zL l))) : l.length = n := by
  have := h.1.len; rwa [ints_len, zL_len] at this


/-- 'copy' as a step of the walk: the row behind it, and that no other block has turned. -/
theorem wpList_copy_put {P : Program} {w : World} {ops : Array Oper} {rest : List Oper} {o : Oper} {a : Act} {Q : Exit → Act → World → Prop} (hgd : o.guard = none) (d s : Operand) (dT sT : TypeId)
    (ho : o.op = .call { callee := .builtin .copy, args := #[d, s], argTypes := #[dT, sT] }) (elem : TypeId) (hu : P.underlying dT = some (.slice elem)) (hsz : (P.info? elem).map (·.size) = some 1)
    (dp sp : Option Addr) (dLen dCap sLen sCap : Nat) (hd : a.eval d = .slice dp dLen dCap) (hs : a.eval s = .slice sp sLen sCap)
    (g off : Nat) (cur : List Value) (t : TypeId) (hg : w.heap[g]? = some (.cells cur.toArray t (0, 0))) (cs : List Value) (hn : cs.length = Nat.min sLen dLen)
    (hpos : 0 < cs.length → dp = some ⟨g, off, none⟩ ∧ ∃ ad, sp = some ad ∧ ∀ j v, cs[j]? = some v → w.cell? (ad.add j) = some v)
    (hfit : off + cs.length ≤ cur.length) (h1 : ∀ v ∈ cs, v.oneCell' = true)
    (h : ∀ w', Hid (w'.heap[g]? = some (.cells (splice cur off cs).toArray t (0, 0))) → Hid (w.grownBy w' (some g)) → wpList P ops Q rest (a.put o.dst (goInt cs.length)) w') :
    wpList P ops Q (o :: rest) a w := by
  by_cases h0 : cs.length = 0
  · obtain rfl : cs = [] := List.eq_nil_of_length_eq_zero h0
    refine wpList_copy_nothing hgd d s dT sT ho elem hu hsz dp sp dLen dCap sLen sCap hd hs (by simpa using hn.symm) ?_
    exact h w (show _ = _ by simpa [splice] using hg) (Lib.hid (grown_refl _ _))
  · obtain ⟨rfl, ad, rfl, hsrc⟩ := hpos (by omega)
    refine wpList_copy_own hgd d s dT sT ho elem hu hsz g off dLen dCap ad sLen sCap hd hs cur.toArray t hg cs hn hsrc (by simpa using hfit) h1 ?_
    exact h _ (show _ = _ by simpa [splice] using setRow_heap w g _ _ t _ hg) (Lib.hid ⟨rfl, rfl, rfl, by simp [World.setRow], fun k _ hk => setRow_other w g k _ (fun e => hk (by rw [e]))⟩)
theorem places_one (l : List Nat) : ∀ v ∈ ints (zL l), v.oneCell' = true := by
  intro v hv
  obtain ⟨x, _, rfl⟩ := List.mem_map.1 hv
  rfl
theorem places_at {w : World} {ok : Nat → Prop} {so : Option Addr} {n c : Nat} {l : List Nat} (h : Slc w ok (.slice so n c) n (ints (zL l))) (hp : 0 < (ints (zL l)).length) : ∃ ad, so = some ad ∧ ∀ j v, (ints (zL l))[j]? = some v → w.cell? (ad.add j) = some v := by
  obtain ⟨ao, cap, e, _, _, hl, hc⟩ := h.opened
  cases e
  obtain ⟨b, off, rfl, _, _⟩ := hc 0 hp
  refine ⟨_, rfl, fun j v hj => ?_⟩
  obtain ⟨h1, h2⟩ := List.getElem?_eq_some_iff.1 hj
  obtain ⟨b', off', e, _, hcc⟩ := hc j h1
  cases e
  rw [h2] at hcc
  exact add_cell hcc
theorem slice_eqN {b a a' n n' c c' : Nat} (h1 : a = a') (h2 : n = n') (h3 : c = c') : Value.slice (some ⟨b, a, none⟩) n c = .slice (some ⟨b, a', none⟩) n' c' := by rw [h1, h2, h3]
theorem size_int18 : (Tryz.prog.info? 3).map (·.size) = some 1 := by kernel_rfl

set_option maxHeartbeats 8000000 in
theorem mginto_calls (K : FuncId) (cap : Array Value) {n g : Nat} {ahead : Nat → Nat → Bool} (W0 : World) (hK : ∀ (args : Array Value) (wx : World), (callFunc K args).run Tryz.prog wx = .ok (.enter K args) wx)
    (hA : ∀ (i k : Nat) (wx : World), i < n → k < n → Below g W0 wx → Calls Tryz.prog K (#[.int .i64 (i : Int), .int .i64 (k : Int)] ++ cap) wx fun e w' => e = .returned (.bool (ahead i k)) ∧ Below wx.heap.size wx w')
    (bt f nA nB ct : Nat) (m A B : List Nat) (vf vs : Value) (w : World) (hW : Below g W0 w) (hgs : g ≤ w.heap.size) (hg : g ≤ bt) (hT : RowP w bt m) (hf : f + (nA + nB) ≤ m.length) (hm : m.length ≤ 1048576) (hct : nA + nB ≤ ct) (hcm : ct ≤ 1048576) (hpos : 0 < nA + nB)
    (hF : Slc w (fun b => b ≠ bt) vf nA (ints (zL A))) (hS : Slc w (fun b => b ≠ bt) vs nB (ints (zL B))) (hR : Runs18 n ahead A B) :
    Calls Tryz.prog 65 #[.slice (some ⟨bt, f, none⟩) (nA + nB) ct, vf, vs, .func (.func K) #[] cap] w fun e w' => e = .returned (.tuple #[]) ∧ ∃ o, o.Perm (A ++ B) ∧ o.Pairwise (fun x y => stO ahead x y = true) ∧ RowP w' bt (splice m f o) ∧ w.grownBy w' (some bt) := by
  have HLA := Lib.hid (run_len_of hF)
  have HLB := Lib.hid (run_len_of hS)
  have HKF := Lib.hid hK
  have HAH := Lib.hid hA
  have HR := Lib.hid hR
  have HF0 := Lib.hid hF
  have HS0 := Lib.hid hS
  have HT0 := Lib.hid hT
  have HW := Lib.hid hW
  have HGS := Lib.hid hgs
  have HG := Lib.hid hg
  clear hA hR hF hS hT hW hg hK hgs
  go_enter Tryz.func65, Tryz.ntmps65
  go_wp2_with fail
  go_loopw [0, 1, 2] (fun tv fv sv wr => ∃ (i j : Nat) (o : List Nat), i + j < nA + nB ∧ i ≤ nA ∧ j ≤ nB ∧ Mrg (stO ahead) A B i j o ∧ tv = .slice (some ⟨bt, f + (i + j), none⟩) (nA + nB - (i + j)) (ct - (i + j)) ∧ RowP wr bt (splice m f o) ∧ Slc wr (fun b => b ≠ bt) fv (nA - i) (ints (zL (A.drop i))) ∧ Slc wr (fun b => b ≠ bt) sv (nB - j) (ints (zL (B.drop j))) ∧ w.grownBy wr (some bt)) (fun tv _ _ _ => lenS tv)
  case atStart => exact ⟨0, 0, [], hpos, Nat.zero_le _, Nat.zero_le _, Mrg.start _ _ _, rfl, by rw [splice_nil]; exact HT0.out, HF0.out, HS0.out, grown_refl _ _⟩
  case round =>
    obtain ⟨i, j, o, hij, hi, hj, hM, rfl, hrow, hsF, hsS, hgr⟩ := hrel
    have hol := hM.len (by rw [HLA.out]; exact hi) (by rw [HLB.out]; exact hj)
    have HM := Lib.hid hM
    have HRW := Lib.hid hrow
    have HF := Lib.hid hsF
    have HS := Lib.hid hsS
    have HGR := Lib.hid hgr
    have HOL := Lib.hid hol
    clear HF0 HS0 HT0 hM hrow hgr hol
    obtain ⟨ao, cf, rfl, hcf1, hcf2, _⟩ := hsF.opened
    obtain ⟨so, cs, rfl, hcs1, hcs2, _⟩ := hsS.opened
    clear hsF hsS
    have hm1 : maxLen = 9223372036854775807 := by decide
    by_cases hin : i < nA
    · by_cases hjn : j < nB
      · obtain ⟨b1, o1, c1, x1, e9, hx1, hcx⟩ := Slc.at_map (Value.int .i64) (l := zL (A.drop i)) (by rw [zL_len, List.length_drop, HLA.out]; exact HF.out) 0 (by rw [zL_len, List.length_drop, HLA.out]; omega)
        rw [zL_len, List.length_drop, HLA.out] at e9
        cases e9
        obtain ⟨a, ha, rfl⟩ := zL_get hx1
        obtain ⟨b2, o2, c2, x2, e9, hx2, hcy⟩ := Slc.at_map (Value.int .i64) (l := zL (B.drop j)) (by rw [zL_len, List.length_drop, HLB.out]; exact HS.out) 0 (by rw [zL_len, List.length_drop, HLB.out]; omega)
        rw [zL_len, List.length_drop, HLB.out] at e9
        cases e9
        obtain ⟨b, hb, rfl⟩ := zL_get hx2
        rw [Nat.add_zero] at hcx hcy
        have HXA := Lib.hid (drop_get ha)
        have HXB := Lib.hid (drop_get hb)
        clear hx1 hx2 ha hb
        have hBr : Below g W0 wr := HW.out.grown HGR.out HGS.out (fun k hk => by cases hk; exact HG.out)
        have HBR := Lib.hid hBr
        clear hBr
        go_wp2_with fail
        --REGION1
        obtain ⟨W11, hWD⟩ : ∃ xw9, wr.drew = xw9 := ⟨_, rfl⟩
        have hB : Below wr.heap.size wr W11 := by rw [← hWD]; exact Below.drewN' (Below.refl _ _) 1
        replace hcx := keep_below hB _ _ hcx
        replace hcy := keep_below hB _ _ hcy
        replace HRW := Lib.hid (HRW.out.below hB)
        replace HF := Lib.hid (HF.out.below hB)
        replace HS := Lib.hid (HS.out.below hB)
        replace HBR := Lib.hid (HBR.out.trans (hB.mono (Nat.le_trans HGS.out HGR.out.size)))
        replace HGR := Lib.hid (grown_trans HGR.out (grown_any (below_grown hB) _))
        clear hB
        refine wp_region_held_drew (S := fun w' => w'.cell? ⟨b2, o2, none⟩ = some (.int .i64 (b : Int)) ∧ w'.cell? ⟨b1, o1, none⟩ = some (.int .i64 (a : Int))) (by kernel_rfl) (by rw [hWD]; exact ⟨hcy, hcx⟩) (fun hHeld => ?_)
        rw [hWD] at hHeld ⊢
        clear hWD
        refine wpAnyH_take (i := 0) (v := ?_) rfl (by kernel_rfl) (by kernel_rfl) (by kernel_rfl) (fun _ _ _ h => h) (Or.inl ⟨by rfl, ?_⟩) (by assumption) ?_
        rotate_left
        · (intro w hSw; (try dsimp only at hSw); go_simp; try with_reducible rfl)
        simp only [Act.put, List.getElem_toArray, List.getElem_cons_zero, List.setIfInBounds_toArray, List.set_cons_zero, List.set_cons_succ]
        refine wpAnyH_take (i := 1) (v := ?_) rfl (by kernel_rfl) (by kernel_rfl) (by kernel_rfl) (fun _ _ _ h => h) (Or.inl ⟨by rfl, ?_⟩) (by assumption) ?_
        rotate_left
        · (intro w hSw; (try dsimp only at hSw); go_simp; try with_reducible rfl)
        simp only [Act.put, List.getElem_toArray, List.getElem_cons_succ, List.getElem_cons_zero, List.setIfInBounds_toArray, List.set_cons_zero, List.set_cons_succ]
        refine wpAnyH_take (i := 2) (v := ?_) rfl (by kernel_rfl) (by kernel_rfl) (by kernel_rfl) (fun _ _ _ h => h) (Or.inl ⟨by rfl, ?_⟩) (by assumption) ?_
        rotate_left
        · (intro w hSw; (try dsimp only at hSw); go_simp; try with_reducible rfl)
        simp only [Act.put, List.getElem_toArray, List.getElem_cons_succ, List.getElem_cons_zero, List.setIfInBounds_toArray, List.set_cons_zero, List.set_cons_succ]
        refine wpAnyH_take (i := 3) (v := ?_) rfl (by kernel_rfl) (by kernel_rfl) (by kernel_rfl) (fun _ _ _ h => h) (Or.inl ⟨by rfl, ?_⟩) (by assumption) ?_
        rotate_left
        · (intro w hSw; (try dsimp only at hSw); go_simp; try with_reducible rfl)
        simp only [Act.put, List.getElem_toArray, List.getElem_cons_succ, List.getElem_cons_zero, List.setIfInBounds_toArray, List.set_cons_zero, List.set_cons_succ]
        refine wpAnyH_take (i := 4) (v := ?_) rfl (by kernel_rfl) (by kernel_rfl) (by kernel_rfl) (fun _ _ _ h => h) (Or.inl ⟨by rfl, ?_⟩) (by assumption) ?_
        rotate_left
        · (intro w hSw; (try dsimp only at hSw); go_simp; try with_reducible rfl)
        simp only [Act.put, List.getElem_toArray, List.getElem_cons_succ, List.getElem_cons_zero, List.setIfInBounds_toArray, List.set_cons_zero, List.set_cons_succ]
        refine wpAnyH_take (i := 5) (v := ?_) rfl (by kernel_rfl) (by kernel_rfl) (by kernel_rfl) (fun _ _ _ h => h) (Or.inl ⟨by rfl, ?_⟩) (by assumption) ?_
        rotate_left
        · (intro w hSw; (try dsimp only at hSw); go_simp; try with_reducible rfl)
        simp only [Act.put, List.getElem_toArray, List.getElem_cons_succ, List.getElem_cons_zero, List.setIfInBounds_toArray, List.set_cons_zero, List.set_cons_succ]
        refine wpAnyH_take (i := 6) (v := ?_) rfl (by kernel_rfl) (by kernel_rfl) (by kernel_rfl) (fun _ _ _ h => h) (Or.inl ⟨by rfl, ?_⟩) (by assumption) ?_
        rotate_left
        · (intro w hSw; (try dsimp only at hSw); go_simp; try with_reducible rfl)
        simp only [Act.put, List.getElem_toArray, List.getElem_cons_succ, List.getElem_cons_zero, List.setIfInBounds_toArray, List.set_cons_zero, List.set_cons_succ]
        refine wpAnyH_ready (rs := [7]) (by kernel_rfl) (by simp) ?_
        refine AllReadyH.cons (o := _) rfl (fun K' hK' => ?_) AllReadyH.nil
        clear hHeld
        have hKF := HKF.out
        go_simp
        clear hKF
        refine (HAH.out b a _ (HR.out.ltB b (List.mem_of_getElem? HXB.out)) (HR.out.ltA a (List.mem_of_getElem? HXA.out)) HBR.out).mono ?_
        rintro e W12 ⟨rfl, hB⟩
        replace hcx := keep_below hB _ _ hcx
        replace hcy := keep_below hB _ _ hcy
        replace HRW := Lib.hid (HRW.out.below hB)
        replace HF := Lib.hid (HF.out.below hB)
        replace HS := Lib.hid (HS.out.below hB)
        replace HBR := Lib.hid (HBR.out.trans (hB.mono (Nat.le_trans HGS.out HGR.out.size)))
        replace HGR := Lib.hid (grown_trans HGR.out (grown_any (below_grown hB) _))
        clear hB
        refine hK'.out _ _ ⟨hcy, hcx⟩ (fun hHeld => ?_)
        clear hK' K'
        refine wpAnyH_done (by kernel_rfl) ?_ _
        clear hHeld
        obtain ⟨c, hc⟩ : ∃ c, ahead b a = c := ⟨_, rfl⟩
        rw [hc]
        cases c
        · --ARM first goes
          have hct1 : ¬ (ct - (i + j) = 1) := by omega
          have HC := Lib.hid hc
          have hrf := HRW.out.free (f + (i + j))
          have hsl := splice_len m f o (by rw [HOL.out]; omega)
          obtain ⟨xx, hxx⟩ : ∃ xx, (splice m f o)[f + (i + j)]? = some xx := ⟨_, List.getElem?_eq_getElem (by rw [hsl]; omega)⟩
          have hrx := HRW.out.cell hxx
          clear hxx hc hsl
          by_cases hcap : cf = 1
          · have HRS := Lib.hid ((run_rest HF.out (by omega)).1 hcap)
            go_wp2
            go_region
            go_wp2
            go_roundw
            case rel =>
              refine ⟨i + 1, j, o ++ [a], by omega, by omega, by omega, HR.out.takeA HM.out HXA.out HXB.out HC.out, slice_eqN (by omega) (by omega) (by omega), ?_, (by rw [show nA - (i + 1) = nA - i - 1 by omega, ← List.drop_drop]; exact (HRS.out.keep (Kept.setCell _ _ _ (by simp)) (fun _ _ h => h))), (HS.out.keep (Kept.setCell _ _ _ (by simp)) (fun _ _ h => h)), grown_drew (grown_trans HGR.out (grown_setCell _ ⟨bt, f + (i + j), none⟩ _))⟩
              have h9 := HRW.out.set (f + (i + j)) a
              rw [← HOL.out, splice_set m f o _ (by rw [HOL.out]; omega)] at h9
              rw [← HOL.out]
              exact h9
            case measure => simp [lenS]; omega
          · have HRS := Lib.hid ((run_rest HF.out (by omega)).2 hcap)
            go_wp2
            go_region
            go_wp2
            go_roundw
            case rel =>
              refine ⟨i + 1, j, o ++ [a], by omega, by omega, by omega, HR.out.takeA HM.out HXA.out HXB.out HC.out, slice_eqN (by omega) (by omega) (by omega), ?_, (by rw [show nA - (i + 1) = nA - i - 1 by omega, ← List.drop_drop]; exact (HRS.out.keep (Kept.setCell _ _ _ (by simp)) (fun _ _ h => h))), (HS.out.keep (Kept.setCell _ _ _ (by simp)) (fun _ _ h => h)), grown_drew (grown_trans HGR.out (grown_setCell _ ⟨bt, f + (i + j), none⟩ _))⟩
              have h9 := HRW.out.set (f + (i + j)) a
              rw [← HOL.out, splice_set m f o _ (by rw [HOL.out]; omega)] at h9
              rw [← HOL.out]
              exact h9
            case measure => simp [lenS]; omega
        · --ARM second goes
          have hct1 : ¬ (ct - (i + j) = 1) := by omega
          have HC := Lib.hid hc
          have hrf := HRW.out.free (f + (i + j))
          have hsl := splice_len m f o (by rw [HOL.out]; omega)
          obtain ⟨xx, hxx⟩ : ∃ xx, (splice m f o)[f + (i + j)]? = some xx := ⟨_, List.getElem?_eq_getElem (by rw [hsl]; omega)⟩
          have hrx := HRW.out.cell hxx
          clear hxx hc hsl
          by_cases hcap : cs = 1
          · have HRS := Lib.hid ((run_rest HS.out (by omega)).1 hcap)
            go_wp2
            go_region
            go_wp2
            go_roundw
            case rel =>
              refine ⟨i, j + 1, o ++ [b], by omega, by omega, by omega, HR.out.takeB HM.out HXA.out HXB.out HC.out, slice_eqN (by omega) (by omega) (by omega), ?_, (HF.out.keep (Kept.setCell _ _ _ (by simp)) (fun _ _ h => h)), (by rw [show nB - (j + 1) = nB - j - 1 by omega, ← List.drop_drop]; exact (HRS.out.keep (Kept.setCell _ _ _ (by simp)) (fun _ _ h => h))), grown_drew (grown_trans HGR.out (grown_setCell _ ⟨bt, f + (i + j), none⟩ _))⟩
              have h9 := HRW.out.set (f + (i + j)) b
              rw [← HOL.out, splice_set m f o _ (by rw [HOL.out]; omega)] at h9
              rw [← HOL.out]
              exact h9
            case measure => simp [lenS]; omega
          · have HRS := Lib.hid ((run_rest HS.out (by omega)).2 hcap)
            go_wp2
            go_region
            go_wp2
            go_roundw
            case rel =>
              refine ⟨i, j + 1, o ++ [b], by omega, by omega, by omega, HR.out.takeB HM.out HXA.out HXB.out HC.out, slice_eqN (by omega) (by omega) (by omega), ?_, (HF.out.keep (Kept.setCell _ _ _ (by simp)) (fun _ _ h => h)), (by rw [show nB - (j + 1) = nB - j - 1 by omega, ← List.drop_drop]; exact (HRS.out.keep (Kept.setCell _ _ _ (by simp)) (fun _ _ h => h))), grown_drew (grown_trans HGR.out (grown_setCell _ ⟨bt, f + (i + j), none⟩ _))⟩
              have h9 := HRW.out.set (f + (i + j)) b
              rw [← HOL.out, splice_set m f o _ (by rw [HOL.out]; omega)] at h9
              rw [← HOL.out]
              exact h9
            case measure => simp [lenS]; omega
      · --ONLY THE FIRST RUN
        obtain ⟨p, hp⟩ : ∃ p, nA - i = p := ⟨_, rfl⟩
        have e1 : nA + nB - (i + j) = p := by omega
        have e2 : nB - j = 0 := by omega
        have hLL : (splice m f o).length = m.length := splice_len m f o (by rw [HOL.out]; omega)
        obtain ⟨d, hd⟩ : ∃ d, ct - (i + j) = d := ⟨_, rfl⟩
        rw [e1, hd]
        rw [hp] at HF hcf1 ⊢
        rw [e2] at HS hcs1 ⊢
        obtain ⟨c8, hc8⟩ : ∃ c8, ints (zL (A.drop i)) = c8 := ⟨_, rfl⟩
        have hcl : c8.length = p := by rw [← hc8, ints_len, zL_len, List.length_drop, HLA.out]; exact hp
        have HCN := Lib.hid (show c8.length = Nat.min p p by rw [hcl]; simp)
        have HCP := Lib.hid (show 0 < c8.length → ∃ ad, ao = some ad ∧ ∀ j v, c8[j]? = some v → wr.cell? (ad.add j) = some v from fun h => by rw [← hc8] at h ⊢; exact places_at HF.out h)
        have HCF := Lib.hid (show (f + (i + j)) + c8.length ≤ (ints (zL (splice m f o))).length by rw [hcl, ints_len, zL_len, hLL]; omega)
        have HC1 := Lib.hid (show ∀ v ∈ c8, v.oneCell' = true by rw [← hc8]; exact places_one _)
        have HC8 := Lib.hid hc8
        have HCL := Lib.hid hcl
        have HE := Lib.hid (show ∃ q, q.Perm (A ++ B) ∧ q.Pairwise (fun x y => stO ahead x y = true) ∧ q = o ++ A.drop i from by
          have h8 := HM.out.left HR.out.weak.tot HR.out.ltA HR.out.ltB HR.out.soA HR.out.soB (by rw [HLA.out]; exact hi) (by rw [HLB.out]; omega)
          obtain ⟨h6, h7⟩ := h8.ends (Nat.le_refl _) (by rw [HLB.out]; omega)
          exact ⟨_, h6, h7, rfl⟩)
        have HPE := Lib.hid (show nA - i = p from hp)
        have HF9 := Lib.hid (show f + o.length + (A.drop i).length ≤ m.length by rw [HOL.out, List.length_drop, HLA.out]; omega)
        have hd0 : ¬ (d = 0) := by omega
        have hjn0 : ¬ (0 < nB - j) := by omega
        clear hc8 hcl hLL e1 e2
        by_cases hpd : p = d
        · subst hpd
          go_wp2_with (first | ((with_reducible show wpList _ _ _ ({ dst := some 43, op := _, type := _, pos := _, after := _, guard := _ } :: _) _ _); go_must (refine wpList_copy_put rfl (.tmp 41) (.tmp 42) 24 24 rfl 3 Tryz.underlying24 size_int18 _ _ _ _ _ _ rfl rfl bt (f + (i + j)) (ints (zL (splice m f o))) 3 HRW.out c8 HCN.out (fun h => ⟨rfl, HCP.out h⟩) HCF.out HC1.out ?_); intro w8 HQ8 HG8; rw [HCL.out]) | ((with_reducible show wpList _ _ _ ({ dst := some 46, op := _, type := _, pos := _, after := _, guard := _ } :: _) _ _); go_must (refine wpList_copy_put rfl (.tmp 44) (.tmp 45) 24 24 rfl 3 Tryz.underlying24 size_int18 _ _ _ _ _ _ rfl rfl bt 0 (splice (ints (zL (splice m f o))) (f + (i + j)) c8) 3 HQ8.out [] (by simp) (fun h => absurd h (by simp)) (by simp) (fun v h => absurd h (by simp)) ?_); intro w9 HQ9 HG9))
          go_end0
          obtain ⟨q, h6, h7, rfl⟩ := HE.out
          refine ⟨rfl, _, h6, h7, ?_, grown_trans (grown_trans HGR.out HG8.out) HG9.out⟩
          have h9 := HQ9.out
          rw [splice_nil, ← HC8.out, ← splice_rows, ← HOL.out, splice_more m f o _ HF9.out] at h9
          exact h9
        · go_wp2_with (first | ((with_reducible show wpList _ _ _ ({ dst := some 43, op := _, type := _, pos := _, after := _, guard := _ } :: _) _ _); go_must (refine wpList_copy_put rfl (.tmp 41) (.tmp 42) 24 24 rfl 3 Tryz.underlying24 size_int18 _ _ _ _ _ _ rfl rfl bt (f + (i + j)) (ints (zL (splice m f o))) 3 HRW.out c8 HCN.out (fun h => ⟨rfl, HCP.out h⟩) HCF.out HC1.out ?_); intro w8 HQ8 HG8; rw [HCL.out]) | ((with_reducible show wpList _ _ _ ({ dst := some 46, op := _, type := _, pos := _, after := _, guard := _ } :: _) _ _); go_must (refine wpList_copy_put rfl (.tmp 44) (.tmp 45) 24 24 rfl 3 Tryz.underlying24 size_int18 _ _ _ _ _ _ rfl rfl bt 0 (splice (ints (zL (splice m f o))) (f + (i + j)) c8) 3 HQ8.out [] (by simp) (fun h => absurd h (by simp)) (by simp) (fun v h => absurd h (by simp)) ?_); intro w9 HQ9 HG9))
          go_end0
          obtain ⟨q, h6, h7, rfl⟩ := HE.out
          refine ⟨rfl, _, h6, h7, ?_, grown_trans (grown_trans HGR.out HG8.out) HG9.out⟩
          have h9 := HQ9.out
          rw [splice_nil, ← HC8.out, ← splice_rows, ← HOL.out, splice_more m f o _ HF9.out] at h9
          exact h9
    · --ONLY THE SECOND RUN
      obtain ⟨p, hp⟩ : ∃ p, nB - j = p := ⟨_, rfl⟩
      have e1 : nA + nB - (i + j) = p := by omega
      have e2 : nA - i = 0 := by omega
      have hLL : (splice m f o).length = m.length := splice_len m f o (by rw [HOL.out]; omega)
      obtain ⟨d, hd⟩ : ∃ d, ct - (i + j) = d := ⟨_, rfl⟩
      rw [e1, hd]
      rw [hp] at HS hcs1 ⊢
      rw [e2] at HF hcf1 ⊢
      obtain ⟨c8, hc8⟩ : ∃ c8, ints (zL (B.drop j)) = c8 := ⟨_, rfl⟩
      have hcl : c8.length = p := by rw [← hc8, ints_len, zL_len, List.length_drop, HLB.out]; exact hp
      have HCN := Lib.hid (show c8.length = Nat.min p p by rw [hcl]; simp)
      have HCP := Lib.hid (show 0 < c8.length → ∃ ad, so = some ad ∧ ∀ j v, c8[j]? = some v → wr.cell? (ad.add j) = some v from fun h => by rw [← hc8] at h ⊢; exact places_at HS.out h)
      have HCQ := Lib.hid (show ∀ wx : World, wr.grownBy wx (some bt) → 0 < c8.length → ∃ ad, so = some ad ∧ ∀ j v, c8[j]? = some v → wx.cell? (ad.add j) = some v from fun wx hgx h => by rw [← hc8] at h ⊢; exact places_at (Slc.grownBy HS.out hgx) h)
      have HCF := Lib.hid (show (f + (i + j)) + c8.length ≤ (splice (ints (zL (splice m f o))) 0 []).length by rw [splice_nil, hcl, ints_len, zL_len, hLL]; omega)
      have HC1 := Lib.hid (show ∀ v ∈ c8, v.oneCell' = true by rw [← hc8]; exact places_one _)
      have HC8 := Lib.hid hc8
      have HCL := Lib.hid hcl
      have HE := Lib.hid (show ∃ q, q.Perm (A ++ B) ∧ q.Pairwise (fun x y => stO ahead x y = true) ∧ q = o ++ B.drop j from by
        have h8 := (HM.out.swap.left HR.out.weak.tot HR.out.ltB HR.out.ltA HR.out.soB HR.out.soA (by rw [HLB.out]; exact hj) (by rw [HLA.out]; omega)).swap
        obtain ⟨h6, h7⟩ := h8.ends (by rw [HLA.out]; omega) (Nat.le_refl _)
        exact ⟨_, h6, h7, rfl⟩)
      have HPE := Lib.hid (show nB - j = p from hp)
      have HF9 := Lib.hid (show f + o.length + (B.drop j).length ≤ m.length by rw [HOL.out, List.length_drop, HLB.out]; omega)
      have hd0 : ¬ (d = 0) := by omega
      have hjn0 : ¬ (0 < nA - i) := by omega
      clear hc8 hcl hLL e1 e2
      by_cases hpd : p = d
      · subst hpd
        go_wp2_with (first | ((with_reducible show wpList _ _ _ ({ dst := some 43, op := _, type := _, pos := _, after := _, guard := _ } :: _) _ _); go_must (refine wpList_copy_put rfl (.tmp 41) (.tmp 42) 24 24 rfl 3 Tryz.underlying24 size_int18 _ _ _ _ _ _ rfl rfl bt 0 (ints (zL (splice m f o))) 3 HRW.out [] (by simp) (fun h => absurd h (by simp)) (by simp) (fun v h => absurd h (by simp)) ?_); intro w8 HQ8 HG8) | ((with_reducible show wpList _ _ _ ({ dst := some 46, op := _, type := _, pos := _, after := _, guard := _ } :: _) _ _); go_must (refine wpList_copy_put rfl (.tmp 44) (.tmp 45) 24 24 rfl 3 Tryz.underlying24 size_int18 _ _ _ _ _ _ rfl rfl bt (f + (i + j)) (splice (ints (zL (splice m f o))) 0 []) 3 HQ8.out c8 HCN.out (fun h => ⟨rfl, HCQ.out _ HG8.out h⟩) HCF.out HC1.out ?_); intro w9 HQ9 HG9))
        go_end0
        obtain ⟨q, h6, h7, rfl⟩ := HE.out
        refine ⟨rfl, _, h6, h7, ?_, grown_trans (grown_trans HGR.out HG8.out) HG9.out⟩
        have h9 := HQ9.out
        rw [splice_nil, ← HC8.out, ← HOL.out, ← splice_rows, splice_more m f o _ HF9.out] at h9
        exact h9
      · go_wp2_with (first | ((with_reducible show wpList _ _ _ ({ dst := some 43, op := _, type := _, pos := _, after := _, guard := _ } :: _) _ _); go_must (refine wpList_copy_put rfl (.tmp 41) (.tmp 42) 24 24 rfl 3 Tryz.underlying24 size_int18 _ _ _ _ _ _ rfl rfl bt 0 (ints (zL (splice m f o))) 3 HRW.out [] (by simp) (fun h => absurd h (by simp)) (by simp) (fun v h => absurd h (by simp)) ?_); intro w8 HQ8 HG8) | ((with_reducible show wpList _ _ _ ({ dst := some 46, op := _, type := _, pos := _, after := _, guard := _ } :: _) _ _); go_must (refine wpList_copy_put rfl (.tmp 44) (.tmp 45) 24 24 rfl 3 Tryz.underlying24 size_int18 _ _ _ _ _ _ rfl rfl bt (f + (i + j)) (splice (ints (zL (splice m f o))) 0 []) 3 HQ8.out c8 HCN.out (fun h => ⟨rfl, HCQ.out _ HG8.out h⟩) HCF.out HC1.out ?_); intro w9 HQ9 HG9))
        go_end0
        obtain ⟨q, h6, h7, rfl⟩ := HE.out
        refine ⟨rfl, _, h6, h7, ?_, grown_trans (grown_trans HGR.out HG8.out) HG9.out⟩
        have h9 := HQ9.out
        rw [splice_nil, ← HC8.out, ← HOL.out, ← splice_rows, splice_more m f o _ HF9.out] at h9
        exact h9
end Go.Proofs.YtbdbpamefkgelaaGreatDoor

/- Layer 18, walked: sorted: runs that are in order, merged into longer ones. Written by tools/gen_mgs.py. -/
namespace Go.Proofs.YtbdbpamefkgelaaGreatDoor
set_option maxRecDepth 100000
open Go.RowKit
set_option linter.unusedVariables false

theorem splice_whole {α : Type} (m o : List α) (h : o.length = m.length) : splice m 0 o = o := by
  unfold splice; rw [List.take_zero, List.nil_append, List.drop_eq_nil_of_le (by omega), List.append_nil]
theorem RowP.make (w : World) (n : Nat) : RowP (w.alloc (.cells (zeroI n) 3)) w.heap.size (List.replicate n 0) := by
  unfold RowP
  rw [heap_alloc_new]
  have e : zeroI n = (ints (zL (List.replicate n 0))).toArray := by
    apply Array.ext'
    rw [zeroI, toList_madeCells_one]; simp [ints, zL]
  rw [e]
theorem run_cut {l : List Nat} {n : Nat} (hl : l.length = n) (s r : Nat) : (l.drop (min s n)).take (min (s + r) n - min s n) = (l.drop s).take r := by
  by_cases h : s ≤ n
  · rw [Nat.min_eq_left h, List.take_eq_take_iff, List.length_drop, hl]; omega
  · rw [List.drop_eq_nil_of_le (by omega), List.drop_eq_nil_of_le (by omega), List.take_nil, List.take_nil]
theorem Slc.cutP {w : World} {c n : Nat} {l : List Nat} (h : RowP w c l) (hl : l.length = n) (hm : n ≤ 1048576) {s e : Nat} (hs : s < n) (hse : s ≤ e) (he : e ≤ n) : Slc w (fun b => b = c) (.slice (some ⟨c, s, none⟩) (e - s) (n - s)) (e - s) (ints (zL ((l.drop s).take (e - s)))) := by
  obtain ⟨X, hX⟩ : ∃ X, zL l = X := ⟨_, rfl⟩
  have hXl : X.length = n := by rw [← hX, zL_len]; exact hl
  have h1 := h.slc (by rw [hl]; unfold maxLen; omega)
  rw [hX, hl, hXl] at h1
  have h1' : Slc w (fun b => b = c) (.slice (some ⟨c, 0, none⟩) X.length n) X.length (ints X) := by rw [hXl]; exact h1
  have h2 := h1'.drop s (by omega)
  rw [Nat.zero_add, show X.length - s = (X.drop s).length from (List.length_drop ..).symm] at h2
  have h3 := h2.take (e - s) (by rw [List.length_drop]; omega)
  have e1 : ((X.drop s).take (e - s)).length = e - s := by rw [List.length_take, List.length_drop]; omega
  have e2 : (X.drop s).take (e - s) = zL ((l.drop s).take (e - s)) := by rw [← hX]; unfold zL; rw [List.map_take, List.map_drop]
  rw [e1, e2] at h3
  exact h3
theorem Slc.noneP {w : World} {ok : Nat → Prop} (a : Option Addr) {n : Nat} {l : List Nat} (hn : n = 0) (hl : l = []) : Slc w ok (.slice a n 0) n (ints (zL l)) := by
  subst hn hl
  exact ⟨⟨rfl, _, _, rfl, fun i hi => absurd hi (by simp [ints, zL])⟩, _, _, rfl, Nat.le_refl _, by unfold maxLen; omega⟩
/-- The two runs that go into one. -/
theorem runs_two {n r q : Nat} {ahead : Nat → Nat → Bool} {l : List Nat} (hw : Weak n ahead) (hlt : ∀ x ∈ l, x < n) (h : Rp (stO ahead) r l) : Runs18 n ahead (runL l r (2 * q)) (runL l r (2 * q + 1)) := by
  have mem : ∀ s x, x ∈ runL l r s → x < n := fun s x hx => hlt x (List.mem_of_mem_drop (List.mem_of_mem_take hx))
  exact ⟨hw, mem _, mem _, (h.run _).1, (h.run _).1, fun a ha b hb => run_lt ((h.run _).2 a ha) ((h.run _).2 b hb)⟩
theorem runs_put {n r q : Nat} {ahead : Nat → Nat → Bool} {l m o : List Nat} (hlt : ∀ x ∈ l, x < n) (h : Rp (stO ahead) r l) (hl : l.length = n) (hm : m.length = n) (hq : 2 * r * q < n)
    (hd : Rp (stO ahead) (2 * r) (m.take (2 * r * q))) (hdm : ∀ x ∈ m.take (2 * r * q), x < n) (hp : o.Perm (runL l r (2 * q) ++ runL l r (2 * q + 1))) (ho : o.Pairwise (fun x y => stO ahead x y = true)) :
    (splice m (2 * r * q) o).length = n ∧ (∀ x ∈ (splice m (2 * r * q) o).take (2 * r * (q + 1)), x < n) ∧ Rp (stO ahead) (2 * r) ((splice m (2 * r * q) o).take (2 * r * (q + 1))) := by
  have e1 : r * (2 * q) = 2 * r * q := by rw [Nat.mul_comm 2 r, Nat.mul_assoc]
  have e2 : r * (2 * q + 1) = 2 * r * q + r := by rw [Nat.mul_add, e1, Nat.mul_one]
  have hol : o.length = min (2 * r) (n - 2 * r * q) := by
    rw [hp.length_eq, List.length_append, runL_len, runL_len, hl, e1, e2]; omega
  have e3 : 2 * r * (q + 1) = 2 * r * q + 2 * r := by rw [Nat.mul_add, Nat.mul_one]
  have e4 := splice_take m (2 * r * q) (2 * r) o (by omega) (by rw [hm]; exact hol)
  have mem : ∀ x ∈ o, x / (2 * r) = q ∧ x < n := by
    intro x hx
    rcases List.mem_append.1 (hp.mem_iff.1 hx) with h1 | h1
    · exact ⟨run_two (Or.inl ((h.run _).2 x h1)), hlt x (List.mem_of_mem_drop (List.mem_of_mem_take h1))⟩
    · exact ⟨run_two (Or.inr ((h.run _).2 x h1)), hlt x (List.mem_of_mem_drop (List.mem_of_mem_take h1))⟩
  refine ⟨by rw [splice_len m _ o (by omega)]; exact hm, ?_, ?_⟩
  · rw [e3, e4]
    intro x hx
    rcases List.mem_append.1 hx with h1 | h1
    · exact hdm x h1
    · exact (mem x h1).2
  · rw [e3, e4]
    exact hd.put (by rw [List.length_take]; omega) (fun x hx => (mem x hx).1) ho (by omega)

set_option maxHeartbeats 8000000 in
theorem mgsorted_calls (K : FuncId) (cap : Array Value) {n : Nat} {ahead : Nat → Nat → Bool} (w : World) (hK : ∀ (args : Array Value) (wx : World), (callFunc K args).run Tryz.prog wx = .ok (.enter K args) wx)
    (hA : ∀ (i k : Nat) (wx : World), i < n → k < n → Below w.heap.size w wx → Calls Tryz.prog K (#[.int .i64 (i : Int), .int .i64 (k : Int)] ++ cap) wx fun e w' => e = .returned (.bool (ahead i k)) ∧ Below wx.heap.size wx w')
    (hw : Weak n ahead) (hn : n ≤ 1048576) :
    Calls Tryz.prog 32 #[.int .i64 (n : Int), .func (.func K) #[] cap] w fun e w' => ∃ v l, e = .returned v ∧ IsSo n (stO ahead) l ∧ Slc w' (fun b => w.heap.size ≤ b) v n (ints (zL l)) ∧ Below w.heap.size w w' := by
  have HKF := Lib.hid hK
  have HAH := Lib.hid hA
  have HWK := Lib.hid hw
  have HN := Lib.hid hn
  obtain ⟨g, hg⟩ : ∃ g, w.heap.size = g := ⟨_, rfl⟩
  have HG := Lib.hid hg
  have hmk : ∀ wx, (Instr.makeSlice 24 (.int .i64 (n : Int)) (.int .i64 (n : Int))).run Tryz.prog wx = .ok (.slice (some ⟨wx.heap.size, 0, none⟩) n n) (wx.alloc (.cells (zeroI n) 3)) := run_mkInt n (by omega)
  clear hK hA hw
  go_enter Tryz.func32, Tryz.ntmps32
  go_wp2_with fail
  refine wp_mid (fun s0 s1 w' => ∃ ba br : Nat, s1 = ((((((s0.put (some 12) (.int .i64 (n : Int))).put (some 13) (.slice (some ⟨ba, 0, none⟩) n n)).put (some 14) (.int .i64 (n : Int))).put (some 15) (.slice (some ⟨br, 0, none⟩) n n)).put (some 5) (.slice (some ⟨ba, 0, none⟩) n n)).put (some 6) (.slice (some ⟨br, 0, none⟩) n n)) ∧ ba ≠ br ∧ w.heap.size ≤ ba ∧ w.heap.size ≤ br ∧ RowP w' ba (List.replicate n 0) ∧ RowP w' br (List.replicate n 0) ∧ Below w.heap.size w w') ?_ ?_
  · clear HG
    subst hg
    have hsz : (w.alloc (.cells (zeroI n) 3)).heap.size = w.heap.size + 1 := by simp
    have r0 : RowP ((w.alloc (.cells (zeroI n) 3)).alloc (.cells (zeroI n) 3)) w.heap.size (List.replicate n 0) := (RowP.make w n).below (below_new _ _)
    have r1 : RowP ((w.alloc (.cells (zeroI n) 3)).alloc (.cells (zeroI n) 3)) (w.heap.size + 1) (List.replicate n 0) := by have h9 := RowP.make (w.alloc (.cells (zeroI n) 3)) n; rw [hsz] at h9; exact h9
    have rb : Below w.heap.size w (((w.alloc (.cells (zeroI n) 3)).alloc (.cells (zeroI n) 3)).drew) := ((below_new _ _).alloc (by rw [hsz]; omega) _).drew
    have HR := Lib.hid (And.intro r0 (And.intro r1 rb))
    clear r0 r1 rb
    go_region
    all_goals first
      | exact ⟨rfl, w.heap.size, w.heap.size + 1, rfl, by omega, by omega, by omega, HR.out.1, HR.out.2.1, HR.out.2.2⟩
      | exact ⟨rfl, w.heap.size + 1, w.heap.size, rfl, by omega, by omega, by omega, HR.out.2.1, HR.out.1, HR.out.2.2⟩
  rintro _ W2 ⟨ba, br, rfl, hne, hga, hgr, hra, hrr, hB⟩
  rw [hg] at hga hgr hB
  have HGA := Lib.hid hga
  have HGR := Lib.hid hgr
  have HNE := Lib.hid hne
  have HRA := Lib.hid hra
  have HRR := Lib.hid hrr
  have HB := Lib.hid hB
  simp only [Act.put, List.setIfInBounds_toArray, List.set_cons_zero, List.set_cons_succ]
  clear hne hga hgr hra hrr hB hmk hg
  go_wp2_with fail
  go_loopw [18] (fun iv wr => ∃ k : Nat, k ≤ n ∧ iv = .int .i64 k ∧ RowP wr ba (splice (List.replicate n 0) 0 (List.range k)) ∧ RowP wr br (List.replicate n 0) ∧ Below g w wr) (fun iv _ => n - (intOf iv).toNat)
  case atStart => exact ⟨0, by omega, rfl, by rw [List.range_zero, splice_nil]; exact HRA.out, HRR.out, HB.out⟩
  case round =>
    obtain ⟨k, hk, rfl, hra, hrr, hB⟩ := hrel
    clear HRA HRR HB
    have HRA := Lib.hid hra
    have HRR := Lib.hid hrr
    have HB := Lib.hid hB
    clear hra hrr hB
    by_cases hlt : k < n
    · have hcw := HRA.out.cell (i := k) (x := (splice (List.replicate n 0) 0 (List.range k))[k]'(by rw [splice_len _ _ _ (by simp; omega), List.length_replicate]; exact hlt)) (List.getElem?_eq_getElem _)
      obtain ⟨xx, hxx⟩ : ∃ xx, (splice (List.replicate n 0) 0 (List.range k))[k]'(by rw [splice_len _ _ _ (by simp; omega), List.length_replicate]; exact hlt) = xx := ⟨_, rfl⟩
      rw [hxx] at hcw
      have hfr := HRA.out.free k
      clear hxx
      go_wp2
      go_roundw
      case rel =>
        refine ⟨k + 1, by omega, by go_num, ?_, ?_, HB.out.setCell HGA.out _⟩
        · have h9 := HRA.out.set k k
          rw [show (splice (List.replicate n 0) 0 (List.range k)).set k k = splice (List.replicate n 0) 0 (List.range (k + 1)) by
            have := splice_set (List.replicate n 0) 0 (List.range k) k (by simp; omega)
            rw [List.length_range, Nat.zero_add] at this
            rw [this, List.range_succ]] at h9
          exact h9
        · exact HRR.out.kept (grown_setCell _ ⟨ba, k, none⟩ _) (Ne.symm HNE.out)
      case measure => simp [intOf]; omega
    · have hkn : k = n := by omega
      have HRA2 := Lib.hid (show RowP wr ba (List.range n) by rw [← splice_whole (List.replicate n 0) (List.range n) (by simp), ← hkn]; simpa [hkn] using HRA.out)
      clear HRA hkn
      go_wp2
      go_loopw [8, 5, 6] (fun rv av ov wq => ∃ (r c d : Nat) (l m : List Nat), 0 < r ∧ r ≤ 2097152 ∧ rv = .int .i64 (r : Int) ∧ av = .slice (some ⟨c, 0, none⟩) n n ∧ ov = .slice (some ⟨d, 0, none⟩) n n ∧ c ≠ d ∧ g ≤ c ∧ g ≤ d ∧ l.length = n ∧ m.length = n ∧ (∀ x ∈ l, x < n) ∧ Rp (stO ahead) r l ∧ RowP wq c l ∧ RowP wq d m ∧ Below g w wq) (fun rv _ _ _ => n - (intOf rv).toNat)
      case atStart => exact ⟨1, ba, br, List.range n, List.replicate n 0, by omega, by omega, rfl, rfl, rfl, HNE.out, HGA.out, HGR.out, by simp, by simp, fun x hx => List.mem_range.1 hx, Rp.start _ _, HRA2.out, HRR.out, HB.out⟩
      case round =>
        obtain ⟨r, c, d, l, m, hr0, hr1, rfl, rfl, rfl, hcd, hgc, hgd, hl, hm, hlt, hRp, hrc, hrd, hB⟩ := hrel
        clear HRA2 HRR HB HNE HGA HGR
        have HCD := Lib.hid hcd
        have HGC := Lib.hid hgc
        have HGD := Lib.hid hgd
        have HL := Lib.hid hl
        have HM := Lib.hid hm
        have HLT := Lib.hid hlt
        have HRP := Lib.hid hRp
        have HRC := Lib.hid hrc
        have HRD := Lib.hid hrd
        have HB := Lib.hid hB
        clear hcd hgc hgd hl hm hlt hRp hrc hrd hB
        by_cases hrn : r < n
        · go_wp2
          go_loopw [9] (fun fv wf => ∃ (q F : Nat) (m2 : List Nat), Hid (F = 2 * r * q) ∧ F < n + 2 * r ∧ fv = .int .i64 (F : Int) ∧ m2.length = n ∧ (∀ x ∈ m2.take F, x < n) ∧ Rp (stO ahead) (2 * r) (m2.take F) ∧ RowP wf d m2 ∧ wr.grownBy wf (some d)) (fun fv _ => n + 2 * r - (intOf fv).toNat)
          case atStart => exact ⟨0, 0, m, Lib.hid (by omega), by omega, rfl, HM.out, fun x hx => by simp at hx, by rw [List.take_zero]; exact Rp.nil _ _, HRD.out, grown_refl _ _⟩
          case round =>
            obtain ⟨q, F, m2, hF, hF2, rfl, hm2, hmem, hRp2, hrd2, hgr⟩ := hrel
            clear HRD
            have HFE := hF
            have HM2 := Lib.hid hm2
            have HMEM := Lib.hid hmem
            have HRP2 := Lib.hid hRp2
            have HRD2 := Lib.hid hrd2
            have HGW := Lib.hid hgr
            clear hF hm2 hmem hRp2 hrd2 hgr
            by_cases hFn : F < n
            · --A MERGE
              obtain ⟨P, hP⟩ : ∃ P, F + r = P := ⟨_, rfl⟩
              obtain ⟨Q, hQ⟩ : ∃ Q, F + 2 * r = Q := ⟨_, rfl⟩
              have hPi : (F : Int) + (r : Int) = (P : Int) := by omega
              have hQi : (F : Int) + 2 * (r : Int) = (Q : Int) := by omega
              have hPw : IntKind.i64.wrap (P : Int) = P := IntWalk.i64_in _ (by omega)
              have hQw : IntKind.i64.wrap (Q : Int) = Q := IntWalk.i64_in _ (by omega)
              have hFP : F ≤ P := by omega
              have hFQ : F ≤ Q := by omega
              have hPQ : P ≤ Q := by omega
              have hFn' : F ≤ n := by omega
              have hnF : ¬ (n = F) := by omega
              have HQE := Lib.hid (show Q = 2 * r * (q + 1) by rw [Nat.mul_add, Nat.mul_one, ← HFE.out]; omega)
              have HCALL := Lib.hid (show ∀ (M E : Nat) (wx : World) (vs : Value), min P n = M → min Q n = E → Below wr.heap.size wr wx → Slc wx (fun b => b ≠ d) vs (E - M) (ints (zL ((l.drop M).take (E - M)))) → Calls Tryz.prog 65 #[.slice (some ⟨d, F, none⟩) (E - F) (n - F), .slice (some ⟨c, F, none⟩) (M - F) (n - F), vs, .func (.func K) #[] cap] wx (fun e w' => e = .returned (.tuple #[]) ∧ ∃ m3, m3.length = n ∧ (∀ x ∈ m3.take Q, x < n) ∧ Rp (stO ahead) (2 * r) (m3.take Q) ∧ RowP w' d m3 ∧ wx.grownBy w' (some d)) from by
                intro M E wx vs hM hE hB hS
                have hrcx : RowP wx c l := (HRC.out.kept HGW.out HCD.out).below hB
                have hF9 := Slc.cutP hrcx HL.out (by omega) hFn (show F ≤ M by omega) (show M ≤ n by omega)
                have e0 : r * (2 * q) = F := by rw [HFE.out, Nat.mul_comm 2 r, Nat.mul_assoc]
                have e1 : (l.drop F).take (M - F) = runL l r (2 * q) := by
                  have := run_cut HL.out F r
                  rw [Nat.min_eq_left hFn', hP, hM] at this
                  rw [this, ← e0]; rfl
                have e2 : (l.drop M).take (E - M) = runL l r (2 * q + 1) := by
                  have := run_cut HL.out P r
                  rw [hM, show P + r = Q by omega, hE] at this
                  rw [this]
                  unfold runL
                  rw [Nat.mul_add, e0, Nat.mul_one, hP]
                rw [e1] at hF9
                rw [e2] at hS
                have hW1 : Below g w wx := (HB.out.grown HGW.out (by rw [← HG.out]; exact HB.out.size) (fun k hk => by cases hk; exact HGD.out)).trans (hB.mono (by have := HB.out.size; have := HGW.out.size; rw [← HG.out]; omega))
                have h := mginto_calls K cap (n := n) (g := g) (ahead := ahead) w HKF.out (by rw [← HG.out]; exact HAH.out) d F (M - F) (E - M) (n - F) m2 _ _ _ vs wx hW1 (by rw [← HG.out]; exact hW1.size) HGD.out (HRD2.out.below hB) (by rw [HM2.out]; omega) (by rw [HM2.out]; omega) (by omega) (by omega) (by omega) (hF9.keep (Kept.refl _ _) (fun b _ e => by subst e; exact HCD.out)) hS (runs_two HWK.out HLT.out HRP.out)
                rw [show M - F + (E - M) = E - F by omega] at h
                refine h.mono ?_
                rintro e w' ⟨rfl, o, hp, ho, hrow, hgr⟩
                have hr9 := HRP2.out
                have hm9 := HMEM.out
                rw [HFE.out] at hr9 hm9
                obtain ⟨x1, x2, x3⟩ := runs_put HLT.out HRP.out HL.out HM2.out (by rw [← HFE.out]; exact hFn) hr9 hm9 hp ho
                rw [← HFE.out, ← HQE.out] at x2 x3
                rw [← HFE.out] at x1
                exact ⟨rfl, _, x1, x2, x3, hrow, hgr⟩)
              by_cases hcQ : Q ≤ n
              · --CASE both whole
                have hnP : ¬ (n = P) := by omega
                have hPn : P ≤ n := by omega
                go_wp2_with fail
                obtain ⟨W11, hWD⟩ : ∃ xw9, wr.drew = xw9 := ⟨_, rfl⟩
                have hB9 : Below wr.heap.size wr W11 := by rw [← hWD]; exact Below.drewN' (Below.refl _ _) 1
                refine wp_region_held_drew (S := fun _ => True) (by kernel_rfl) trivial (fun hHeld => ?_)
                rw [hWD]
                clear hWD
                refine wpAnyH_take (i := 0) (v := ?_) rfl (by kernel_rfl) (by kernel_rfl) (by kernel_rfl) (fun _ _ _ h => h) (Or.inl ⟨by rfl, ?_⟩) (by assumption) ?_
                rotate_left
                · (intro w hSw; (try dsimp only at hSw); go_simp; try with_reducible rfl)
                simp only [Act.put, List.getElem_toArray, List.getElem_cons_zero, List.setIfInBounds_toArray, List.set_cons_zero, List.set_cons_succ]
                refine wpAnyH_take (i := 1) (v := ?_) rfl (by kernel_rfl) (by kernel_rfl) (by kernel_rfl) (fun _ _ _ h => h) (Or.inl ⟨by rfl, ?_⟩) (by assumption) ?_
                rotate_left
                · (intro w hSw; (try dsimp only at hSw); go_simp; try with_reducible rfl)
                simp only [Act.put, List.getElem_toArray, List.getElem_cons_succ, List.getElem_cons_zero, List.setIfInBounds_toArray, List.set_cons_zero, List.set_cons_succ]
                refine wpAnyH_take (i := 2) (v := ?_) rfl (by kernel_rfl) (by kernel_rfl) (by kernel_rfl) (fun _ _ _ h => h) (Or.inl ⟨by rfl, ?_⟩) (by assumption) ?_
                rotate_left
                · (intro w hSw; (try dsimp only at hSw); go_simp; try with_reducible rfl)
                simp only [Act.put, List.getElem_toArray, List.getElem_cons_succ, List.getElem_cons_zero, List.setIfInBounds_toArray, List.set_cons_zero, List.set_cons_succ]
                refine wpAnyH_take (i := 3) (v := ?_) rfl (by kernel_rfl) (by kernel_rfl) (by kernel_rfl) (fun _ _ _ h => h) (Or.inl ⟨by rfl, ?_⟩) (by assumption) ?_
                rotate_left
                · (intro w hSw; (try dsimp only at hSw); go_simp; try with_reducible rfl)
                simp only [Act.put, List.getElem_toArray, List.getElem_cons_succ, List.getElem_cons_zero, List.setIfInBounds_toArray, List.set_cons_zero, List.set_cons_succ]
                refine wpAnyH_take (i := 4) (v := ?_) rfl (by kernel_rfl) (by kernel_rfl) (by kernel_rfl) (fun _ _ _ h => h) (Or.inl ⟨by rfl, ?_⟩) (by assumption) ?_
                rotate_left
                · (intro w hSw; (try dsimp only at hSw); go_simp; try with_reducible rfl)
                simp only [Act.put, List.getElem_toArray, List.getElem_cons_succ, List.getElem_cons_zero, List.setIfInBounds_toArray, List.set_cons_zero, List.set_cons_succ]
                refine wpAnyH_take (i := 5) (v := ?_) rfl (by kernel_rfl) (by kernel_rfl) (by kernel_rfl) (fun _ _ _ h => h) (Or.inl ⟨by rfl, ?_⟩) (by assumption) ?_
                rotate_left
                · (intro w hSw; (try dsimp only at hSw); go_simp; try with_reducible rfl)
                simp only [Act.put, List.getElem_toArray, List.getElem_cons_succ, List.getElem_cons_zero, List.setIfInBounds_toArray, List.set_cons_zero, List.set_cons_succ]
                refine wpAnyH_take (i := 6) (v := ?_) rfl (by kernel_rfl) (by kernel_rfl) (by kernel_rfl) (fun _ _ _ h => h) (Or.inl ⟨by rfl, ?_⟩) (by assumption) ?_
                rotate_left
                · (intro w hSw; (try dsimp only at hSw); go_simp; try with_reducible rfl)
                simp only [Act.put, List.getElem_toArray, List.getElem_cons_succ, List.getElem_cons_zero, List.setIfInBounds_toArray, List.set_cons_zero, List.set_cons_succ]
                refine wpAnyH_take (i := 7) (v := ?_) rfl (by kernel_rfl) (by kernel_rfl) (by kernel_rfl) (fun _ _ _ h => h) (Or.inl ⟨by rfl, ?_⟩) (by assumption) ?_
                rotate_left
                · (intro w hSw; (try dsimp only at hSw); go_simp; try with_reducible rfl)
                simp only [Act.put, List.getElem_toArray, List.getElem_cons_succ, List.getElem_cons_zero, List.setIfInBounds_toArray, List.set_cons_zero, List.set_cons_succ]
                refine wpAnyH_take (i := 8) (v := ?_) rfl (by kernel_rfl) (by kernel_rfl) (by kernel_rfl) (fun _ _ _ h => h) (Or.inl ⟨by rfl, ?_⟩) (by assumption) ?_
                rotate_left
                · (intro w hSw; (try dsimp only at hSw); go_simp; try with_reducible rfl)
                simp only [Act.put, List.getElem_toArray, List.getElem_cons_succ, List.getElem_cons_zero, List.setIfInBounds_toArray, List.set_cons_zero, List.set_cons_succ]
                refine wpAnyH_take (i := 9) (v := ?_) rfl (by kernel_rfl) (by kernel_rfl) (by kernel_rfl) (fun _ _ _ h => h) (Or.inl ⟨by rfl, ?_⟩) (by assumption) ?_
                rotate_left
                · (intro w hSw; (try dsimp only at hSw); go_simp; try with_reducible rfl)
                simp only [Act.put, List.getElem_toArray, List.getElem_cons_succ, List.getElem_cons_zero, List.setIfInBounds_toArray, List.set_cons_zero, List.set_cons_succ]
                refine wpAnyH_take (i := 10) (v := ?_) rfl (by kernel_rfl) (by kernel_rfl) (by kernel_rfl) (fun _ _ _ h => h) (Or.inl ⟨by rfl, ?_⟩) (by assumption) ?_
                rotate_left
                · (intro w hSw; (try dsimp only at hSw); go_simp; try with_reducible rfl)
                simp only [Act.put, List.getElem_toArray, List.getElem_cons_succ, List.getElem_cons_zero, List.setIfInBounds_toArray, List.set_cons_zero, List.set_cons_succ]
                refine wpAnyH_take (i := 11) (v := ?_) rfl (by kernel_rfl) (by kernel_rfl) (by kernel_rfl) (fun _ _ _ h => h) (Or.inl ⟨by rfl, ?_⟩) (by assumption) ?_
                rotate_left
                · (intro w hSw; (try dsimp only at hSw); go_simp; try with_reducible rfl)
                simp only [Act.put, List.getElem_toArray, List.getElem_cons_succ, List.getElem_cons_zero, List.setIfInBounds_toArray, List.set_cons_zero, List.set_cons_succ]
                refine wpAnyH_take (i := 12) (v := ?_) rfl (by kernel_rfl) (by kernel_rfl) (by kernel_rfl) (fun _ _ _ h => h) (Or.inl ⟨by rfl, ?_⟩) (by assumption) ?_
                rotate_left
                · (intro w hSw; (try dsimp only at hSw); go_simp; try with_reducible rfl)
                simp only [Act.put, List.getElem_toArray, List.getElem_cons_succ, List.getElem_cons_zero, List.setIfInBounds_toArray, List.set_cons_zero, List.set_cons_succ]
                refine wpAnyH_ready (rs := [13]) (by kernel_rfl) (by simp) ?_
                refine AllReadyH.cons (o := _) rfl (fun K' hK' => ?_) AllReadyH.nil
                clear hHeld
                go_simp
                refine (HCALL.out P Q W11 _ (by omega) (by omega) hB9 ((Slc.cutP (((HRC.out.kept HGW.out HCD.out)).below hB9) HL.out (by omega) (by omega) (by omega) (by omega) (s := P) (e := Q)).keep (Kept.refl _ _) (fun b _ e => by subst e; exact HCD.out))).mono ?_
                rintro e W12 ⟨rfl, m3, x1, x2, x3, x4, x5⟩
                have HX1 := Lib.hid x1
                have HX2 := Lib.hid x2
                have HX3 := Lib.hid x3
                have HX4 := Lib.hid x4
                have HX5 := Lib.hid (grown_trans HGW.out (grown_trans (grown_any (below_grown hB9) _) x5))
                clear x1 x2 x3 x4 x5 hB9
                refine hK'.out _ _ trivial (fun hHeld => ?_)
                clear hK' K'
                refine wpAnyH_done (by kernel_rfl) ?_ _
                clear hHeld
                go_wp2
                go_roundw
                case rel => exact ⟨q + 1, Q, m3, HQE, by omega, by go_num, HX1.out, HX2.out, HX3.out, HX4.out, HX5.out⟩
                case measure => simp [intOf]; omega
              · by_cases hcP : P < n
                · --CASE the second cut
                  have hnP : ¬ (n = P) := by omega
                  have hPn : P ≤ n := by omega
                  have hnQ : min (Q : Int) (n : Int) = (n : Int) := by omega
                  go_wp2_with fail
                  obtain ⟨W11, hWD⟩ : ∃ xw9, wr.drew = xw9 := ⟨_, rfl⟩
                  have hB9 : Below wr.heap.size wr W11 := by rw [← hWD]; exact Below.drewN' (Below.refl _ _) 1
                  refine wp_region_held_drew (S := fun _ => True) (by kernel_rfl) trivial (fun hHeld => ?_)
                  rw [hWD]
                  clear hWD
                  refine wpAnyH_take (i := 0) (v := ?_) rfl (by kernel_rfl) (by kernel_rfl) (by kernel_rfl) (fun _ _ _ h => h) (Or.inl ⟨by rfl, ?_⟩) (by assumption) ?_
                  rotate_left
                  · (intro w hSw; (try dsimp only at hSw); go_simp; try with_reducible rfl)
                  simp only [Act.put, List.getElem_toArray, List.getElem_cons_zero, List.setIfInBounds_toArray, List.set_cons_zero, List.set_cons_succ]
                  refine wpAnyH_take (i := 1) (v := ?_) rfl (by kernel_rfl) (by kernel_rfl) (by kernel_rfl) (fun _ _ _ h => h) (Or.inl ⟨by rfl, ?_⟩) (by assumption) ?_
                  rotate_left
                  · (intro w hSw; (try dsimp only at hSw); go_simp; try with_reducible rfl)
                  simp only [Act.put, List.getElem_toArray, List.getElem_cons_succ, List.getElem_cons_zero, List.setIfInBounds_toArray, List.set_cons_zero, List.set_cons_succ]
                  refine wpAnyH_take (i := 2) (v := ?_) rfl (by kernel_rfl) (by kernel_rfl) (by kernel_rfl) (fun _ _ _ h => h) (Or.inl ⟨by rfl, ?_⟩) (by assumption) ?_
                  rotate_left
                  · (intro w hSw; (try dsimp only at hSw); go_simp; try with_reducible rfl)
                  simp only [Act.put, List.getElem_toArray, List.getElem_cons_succ, List.getElem_cons_zero, List.setIfInBounds_toArray, List.set_cons_zero, List.set_cons_succ]
                  refine wpAnyH_take (i := 3) (v := ?_) rfl (by kernel_rfl) (by kernel_rfl) (by kernel_rfl) (fun _ _ _ h => h) (Or.inl ⟨by rfl, ?_⟩) (by assumption) ?_
                  rotate_left
                  · (intro w hSw; (try dsimp only at hSw); go_simp; try with_reducible rfl)
                  simp only [Act.put, List.getElem_toArray, List.getElem_cons_succ, List.getElem_cons_zero, List.setIfInBounds_toArray, List.set_cons_zero, List.set_cons_succ]
                  refine wpAnyH_take (i := 4) (v := ?_) rfl (by kernel_rfl) (by kernel_rfl) (by kernel_rfl) (fun _ _ _ h => h) (Or.inl ⟨by rfl, ?_⟩) (by assumption) ?_
                  rotate_left
                  · (intro w hSw; (try dsimp only at hSw); go_simp; try with_reducible rfl)
                  simp only [Act.put, List.getElem_toArray, List.getElem_cons_succ, List.getElem_cons_zero, List.setIfInBounds_toArray, List.set_cons_zero, List.set_cons_succ]
                  refine wpAnyH_take (i := 5) (v := ?_) rfl (by kernel_rfl) (by kernel_rfl) (by kernel_rfl) (fun _ _ _ h => h) (Or.inl ⟨by rfl, ?_⟩) (by assumption) ?_
                  rotate_left
                  · (intro w hSw; (try dsimp only at hSw); go_simp; try with_reducible rfl)
                  simp only [Act.put, List.getElem_toArray, List.getElem_cons_succ, List.getElem_cons_zero, List.setIfInBounds_toArray, List.set_cons_zero, List.set_cons_succ]
                  refine wpAnyH_take (i := 6) (v := ?_) rfl (by kernel_rfl) (by kernel_rfl) (by kernel_rfl) (fun _ _ _ h => h) (Or.inl ⟨by rfl, ?_⟩) (by assumption) ?_
                  rotate_left
                  · (intro w hSw; (try dsimp only at hSw); go_simp; try with_reducible rfl)
                  simp only [Act.put, List.getElem_toArray, List.getElem_cons_succ, List.getElem_cons_zero, List.setIfInBounds_toArray, List.set_cons_zero, List.set_cons_succ]
                  refine wpAnyH_take (i := 7) (v := ?_) rfl (by kernel_rfl) (by kernel_rfl) (by kernel_rfl) (fun _ _ _ h => h) (Or.inl ⟨by rfl, ?_⟩) (by assumption) ?_
                  rotate_left
                  · (intro w hSw; (try dsimp only at hSw); go_simp; try with_reducible rfl)
                  simp only [Act.put, List.getElem_toArray, List.getElem_cons_succ, List.getElem_cons_zero, List.setIfInBounds_toArray, List.set_cons_zero, List.set_cons_succ]
                  refine wpAnyH_take (i := 8) (v := ?_) rfl (by kernel_rfl) (by kernel_rfl) (by kernel_rfl) (fun _ _ _ h => h) (Or.inl ⟨by rfl, ?_⟩) (by assumption) ?_
                  rotate_left
                  · (intro w hSw; (try dsimp only at hSw); go_simp; try with_reducible rfl)
                  simp only [Act.put, List.getElem_toArray, List.getElem_cons_succ, List.getElem_cons_zero, List.setIfInBounds_toArray, List.set_cons_zero, List.set_cons_succ]
                  refine wpAnyH_take (i := 9) (v := ?_) rfl (by kernel_rfl) (by kernel_rfl) (by kernel_rfl) (fun _ _ _ h => h) (Or.inl ⟨by rfl, ?_⟩) (by assumption) ?_
                  rotate_left
                  · (intro w hSw; (try dsimp only at hSw); go_simp; try with_reducible rfl)
                  simp only [Act.put, List.getElem_toArray, List.getElem_cons_succ, List.getElem_cons_zero, List.setIfInBounds_toArray, List.set_cons_zero, List.set_cons_succ]
                  refine wpAnyH_take (i := 10) (v := ?_) rfl (by kernel_rfl) (by kernel_rfl) (by kernel_rfl) (fun _ _ _ h => h) (Or.inl ⟨by rfl, ?_⟩) (by assumption) ?_
                  rotate_left
                  · (intro w hSw; (try dsimp only at hSw); go_simp; try with_reducible rfl)
                  simp only [Act.put, List.getElem_toArray, List.getElem_cons_succ, List.getElem_cons_zero, List.setIfInBounds_toArray, List.set_cons_zero, List.set_cons_succ]
                  refine wpAnyH_take (i := 11) (v := ?_) rfl (by kernel_rfl) (by kernel_rfl) (by kernel_rfl) (fun _ _ _ h => h) (Or.inl ⟨by rfl, ?_⟩) (by assumption) ?_
                  rotate_left
                  · (intro w hSw; (try dsimp only at hSw); go_simp; try with_reducible rfl)
                  simp only [Act.put, List.getElem_toArray, List.getElem_cons_succ, List.getElem_cons_zero, List.setIfInBounds_toArray, List.set_cons_zero, List.set_cons_succ]
                  refine wpAnyH_take (i := 12) (v := ?_) rfl (by kernel_rfl) (by kernel_rfl) (by kernel_rfl) (fun _ _ _ h => h) (Or.inl ⟨by rfl, ?_⟩) (by assumption) ?_
                  rotate_left
                  · (intro w hSw; (try dsimp only at hSw); go_simp; try with_reducible rfl)
                  simp only [Act.put, List.getElem_toArray, List.getElem_cons_succ, List.getElem_cons_zero, List.setIfInBounds_toArray, List.set_cons_zero, List.set_cons_succ]
                  refine wpAnyH_ready (rs := [13]) (by kernel_rfl) (by simp) ?_
                  refine AllReadyH.cons (o := _) rfl (fun K' hK' => ?_) AllReadyH.nil
                  clear hHeld
                  go_simp
                  refine (HCALL.out P n W11 _ (by omega) (by omega) hB9 ((Slc.cutP (((HRC.out.kept HGW.out HCD.out)).below hB9) HL.out (by omega) (by omega) (by omega) (by omega) (s := P) (e := n)).keep (Kept.refl _ _) (fun b _ e => by subst e; exact HCD.out))).mono ?_
                  rintro e W12 ⟨rfl, m3, x1, x2, x3, x4, x5⟩
                  have HX1 := Lib.hid x1
                  have HX2 := Lib.hid x2
                  have HX3 := Lib.hid x3
                  have HX4 := Lib.hid x4
                  have HX5 := Lib.hid (grown_trans HGW.out (grown_trans (grown_any (below_grown hB9) _) x5))
                  clear x1 x2 x3 x4 x5 hB9
                  refine hK'.out _ _ trivial (fun hHeld => ?_)
                  clear hK' K'
                  refine wpAnyH_done (by kernel_rfl) ?_ _
                  clear hHeld
                  go_wp2
                  go_roundw
                  case rel => exact ⟨q + 1, Q, m3, HQE, by omega, by go_num, HX1.out, HX2.out, HX3.out, HX4.out, HX5.out⟩
                  case measure => simp [intOf]; omega
                · by_cases hPn : n = P
                  · --CASE no second, just so
                    subst hPn
                    have hnQ : ¬ (Q ≤ n) := hcQ
                    go_wp2_with fail
                    obtain ⟨W11, hWD⟩ : ∃ xw9, wr.drew = xw9 := ⟨_, rfl⟩
                    have hB9 : Below wr.heap.size wr W11 := by rw [← hWD]; exact Below.drewN' (Below.refl _ _) 1
                    refine wp_region_held_drew (S := fun _ => True) (by kernel_rfl) trivial (fun hHeld => ?_)
                    rw [hWD]
                    clear hWD
                    refine wpAnyH_take (i := 0) (v := ?_) rfl (by kernel_rfl) (by kernel_rfl) (by kernel_rfl) (fun _ _ _ h => h) (Or.inl ⟨by rfl, ?_⟩) (by assumption) ?_
                    rotate_left
                    · (intro w hSw; (try dsimp only at hSw); go_simp; try with_reducible rfl)
                    simp only [Act.put, List.getElem_toArray, List.getElem_cons_zero, List.setIfInBounds_toArray, List.set_cons_zero, List.set_cons_succ]
                    refine wpAnyH_take (i := 1) (v := ?_) rfl (by kernel_rfl) (by kernel_rfl) (by kernel_rfl) (fun _ _ _ h => h) (Or.inl ⟨by rfl, ?_⟩) (by assumption) ?_
                    rotate_left
                    · (intro w hSw; (try dsimp only at hSw); go_simp; try with_reducible rfl)
                    simp only [Act.put, List.getElem_toArray, List.getElem_cons_succ, List.getElem_cons_zero, List.setIfInBounds_toArray, List.set_cons_zero, List.set_cons_succ]
                    refine wpAnyH_take (i := 2) (v := ?_) rfl (by kernel_rfl) (by kernel_rfl) (by kernel_rfl) (fun _ _ _ h => h) (Or.inl ⟨by rfl, ?_⟩) (by assumption) ?_
                    rotate_left
                    · (intro w hSw; (try dsimp only at hSw); go_simp; try with_reducible rfl)
                    simp only [Act.put, List.getElem_toArray, List.getElem_cons_succ, List.getElem_cons_zero, List.setIfInBounds_toArray, List.set_cons_zero, List.set_cons_succ]
                    refine wpAnyH_take (i := 3) (v := ?_) rfl (by kernel_rfl) (by kernel_rfl) (by kernel_rfl) (fun _ _ _ h => h) (Or.inl ⟨by rfl, ?_⟩) (by assumption) ?_
                    rotate_left
                    · (intro w hSw; (try dsimp only at hSw); go_simp; try with_reducible rfl)
                    simp only [Act.put, List.getElem_toArray, List.getElem_cons_succ, List.getElem_cons_zero, List.setIfInBounds_toArray, List.set_cons_zero, List.set_cons_succ]
                    refine wpAnyH_take (i := 4) (v := ?_) rfl (by kernel_rfl) (by kernel_rfl) (by kernel_rfl) (fun _ _ _ h => h) (Or.inl ⟨by rfl, ?_⟩) (by assumption) ?_
                    rotate_left
                    · (intro w hSw; (try dsimp only at hSw); go_simp; try with_reducible rfl)
                    simp only [Act.put, List.getElem_toArray, List.getElem_cons_succ, List.getElem_cons_zero, List.setIfInBounds_toArray, List.set_cons_zero, List.set_cons_succ]
                    refine wpAnyH_take (i := 5) (v := ?_) rfl (by kernel_rfl) (by kernel_rfl) (by kernel_rfl) (fun _ _ _ h => h) (Or.inl ⟨by rfl, ?_⟩) (by assumption) ?_
                    rotate_left
                    · (intro w hSw; (try dsimp only at hSw); go_simp; try with_reducible rfl)
                    simp only [Act.put, List.getElem_toArray, List.getElem_cons_succ, List.getElem_cons_zero, List.setIfInBounds_toArray, List.set_cons_zero, List.set_cons_succ]
                    refine wpAnyH_take (i := 6) (v := ?_) rfl (by kernel_rfl) (by kernel_rfl) (by kernel_rfl) (fun _ _ _ h => h) (Or.inl ⟨by rfl, ?_⟩) (by assumption) ?_
                    rotate_left
                    · (intro w hSw; (try dsimp only at hSw); go_simp; try with_reducible rfl)
                    simp only [Act.put, List.getElem_toArray, List.getElem_cons_succ, List.getElem_cons_zero, List.setIfInBounds_toArray, List.set_cons_zero, List.set_cons_succ]
                    refine wpAnyH_take (i := 7) (v := ?_) rfl (by kernel_rfl) (by kernel_rfl) (by kernel_rfl) (fun _ _ _ h => h) (Or.inl ⟨by rfl, ?_⟩) (by assumption) ?_
                    rotate_left
                    · (intro w hSw; (try dsimp only at hSw); go_simp; try with_reducible rfl)
                    simp only [Act.put, List.getElem_toArray, List.getElem_cons_succ, List.getElem_cons_zero, List.setIfInBounds_toArray, List.set_cons_zero, List.set_cons_succ]
                    refine wpAnyH_take (i := 8) (v := ?_) rfl (by kernel_rfl) (by kernel_rfl) (by kernel_rfl) (fun _ _ _ h => h) (Or.inl ⟨by rfl, ?_⟩) (by assumption) ?_
                    rotate_left
                    · (intro w hSw; (try dsimp only at hSw); go_simp; try with_reducible rfl)
                    simp only [Act.put, List.getElem_toArray, List.getElem_cons_succ, List.getElem_cons_zero, List.setIfInBounds_toArray, List.set_cons_zero, List.set_cons_succ]
                    refine wpAnyH_take (i := 9) (v := ?_) rfl (by kernel_rfl) (by kernel_rfl) (by kernel_rfl) (fun _ _ _ h => h) (Or.inl ⟨by rfl, ?_⟩) (by assumption) ?_
                    rotate_left
                    · (intro w hSw; (try dsimp only at hSw); go_simp; try with_reducible rfl)
                    simp only [Act.put, List.getElem_toArray, List.getElem_cons_succ, List.getElem_cons_zero, List.setIfInBounds_toArray, List.set_cons_zero, List.set_cons_succ]
                    refine wpAnyH_take (i := 10) (v := ?_) rfl (by kernel_rfl) (by kernel_rfl) (by kernel_rfl) (fun _ _ _ h => h) (Or.inl ⟨by rfl, ?_⟩) (by assumption) ?_
                    rotate_left
                    · (intro w hSw; (try dsimp only at hSw); go_simp; try with_reducible rfl)
                    simp only [Act.put, List.getElem_toArray, List.getElem_cons_succ, List.getElem_cons_zero, List.setIfInBounds_toArray, List.set_cons_zero, List.set_cons_succ]
                    refine wpAnyH_take (i := 11) (v := ?_) rfl (by kernel_rfl) (by kernel_rfl) (by kernel_rfl) (fun _ _ _ h => h) (Or.inl ⟨by rfl, ?_⟩) (by assumption) ?_
                    rotate_left
                    · (intro w hSw; (try dsimp only at hSw); go_simp; try with_reducible rfl)
                    simp only [Act.put, List.getElem_toArray, List.getElem_cons_succ, List.getElem_cons_zero, List.setIfInBounds_toArray, List.set_cons_zero, List.set_cons_succ]
                    refine wpAnyH_take (i := 12) (v := ?_) rfl (by kernel_rfl) (by kernel_rfl) (by kernel_rfl) (fun _ _ _ h => h) (Or.inl ⟨by rfl, ?_⟩) (by assumption) ?_
                    rotate_left
                    · (intro w hSw; (try dsimp only at hSw); go_simp; try with_reducible rfl)
                    simp only [Act.put, List.getElem_toArray, List.getElem_cons_succ, List.getElem_cons_zero, List.setIfInBounds_toArray, List.set_cons_zero, List.set_cons_succ]
                    refine wpAnyH_ready (rs := [13]) (by kernel_rfl) (by simp) ?_
                    refine AllReadyH.cons (o := _) rfl (fun K' hK' => ?_) AllReadyH.nil
                    clear hHeld
                    go_simp
                    refine (HCALL.out n n W11 (.slice (some ⟨c, 0, none⟩) 0 0) (by omega) (by omega) hB9 (by rw [Nat.sub_self, List.take_zero]; exact Slc.noneP _ rfl rfl)).mono ?_
                    rintro e W12 ⟨rfl, m3, x1, x2, x3, x4, x5⟩
                    have HX1 := Lib.hid x1
                    have HX2 := Lib.hid x2
                    have HX3 := Lib.hid x3
                    have HX4 := Lib.hid x4
                    have HX5 := Lib.hid (grown_trans HGW.out (grown_trans (grown_any (below_grown hB9) _) x5))
                    clear x1 x2 x3 x4 x5 hB9
                    refine hK'.out _ _ trivial (fun hHeld => ?_)
                    clear hK' K'
                    refine wpAnyH_done (by kernel_rfl) ?_ _
                    clear hHeld
                    go_wp2
                    go_roundw
                    case rel => exact ⟨q + 1, Q, m3, HQE, by omega, by go_num, HX1.out, HX2.out, HX3.out, HX4.out, HX5.out⟩
                    case measure => simp [intOf]; omega
                  · --CASE no second
                    have hnP : ¬ (P ≤ n) := by omega
                    go_wp2_with fail
                    obtain ⟨W11, hWD⟩ : ∃ xw9, wr.drew = xw9 := ⟨_, rfl⟩
                    have hB9 : Below wr.heap.size wr W11 := by rw [← hWD]; exact Below.drewN' (Below.refl _ _) 1
                    refine wp_region_held_drew (S := fun _ => True) (by kernel_rfl) trivial (fun hHeld => ?_)
                    rw [hWD]
                    clear hWD
                    refine wpAnyH_take (i := 0) (v := ?_) rfl (by kernel_rfl) (by kernel_rfl) (by kernel_rfl) (fun _ _ _ h => h) (Or.inl ⟨by rfl, ?_⟩) (by assumption) ?_
                    rotate_left
                    · (intro w hSw; (try dsimp only at hSw); go_simp; try with_reducible rfl)
                    simp only [Act.put, List.getElem_toArray, List.getElem_cons_zero, List.setIfInBounds_toArray, List.set_cons_zero, List.set_cons_succ]
                    refine wpAnyH_take (i := 1) (v := ?_) rfl (by kernel_rfl) (by kernel_rfl) (by kernel_rfl) (fun _ _ _ h => h) (Or.inl ⟨by rfl, ?_⟩) (by assumption) ?_
                    rotate_left
                    · (intro w hSw; (try dsimp only at hSw); go_simp; try with_reducible rfl)
                    simp only [Act.put, List.getElem_toArray, List.getElem_cons_succ, List.getElem_cons_zero, List.setIfInBounds_toArray, List.set_cons_zero, List.set_cons_succ]
                    refine wpAnyH_take (i := 2) (v := ?_) rfl (by kernel_rfl) (by kernel_rfl) (by kernel_rfl) (fun _ _ _ h => h) (Or.inl ⟨by rfl, ?_⟩) (by assumption) ?_
                    rotate_left
                    · (intro w hSw; (try dsimp only at hSw); go_simp; try with_reducible rfl)
                    simp only [Act.put, List.getElem_toArray, List.getElem_cons_succ, List.getElem_cons_zero, List.setIfInBounds_toArray, List.set_cons_zero, List.set_cons_succ]
                    refine wpAnyH_take (i := 3) (v := ?_) rfl (by kernel_rfl) (by kernel_rfl) (by kernel_rfl) (fun _ _ _ h => h) (Or.inl ⟨by rfl, ?_⟩) (by assumption) ?_
                    rotate_left
                    · (intro w hSw; (try dsimp only at hSw); go_simp; try with_reducible rfl)
                    simp only [Act.put, List.getElem_toArray, List.getElem_cons_succ, List.getElem_cons_zero, List.setIfInBounds_toArray, List.set_cons_zero, List.set_cons_succ]
                    refine wpAnyH_take (i := 4) (v := ?_) rfl (by kernel_rfl) (by kernel_rfl) (by kernel_rfl) (fun _ _ _ h => h) (Or.inl ⟨by rfl, ?_⟩) (by assumption) ?_
                    rotate_left
                    · (intro w hSw; (try dsimp only at hSw); go_simp; try with_reducible rfl)
                    simp only [Act.put, List.getElem_toArray, List.getElem_cons_succ, List.getElem_cons_zero, List.setIfInBounds_toArray, List.set_cons_zero, List.set_cons_succ]
                    refine wpAnyH_take (i := 5) (v := ?_) rfl (by kernel_rfl) (by kernel_rfl) (by kernel_rfl) (fun _ _ _ h => h) (Or.inl ⟨by rfl, ?_⟩) (by assumption) ?_
                    rotate_left
                    · (intro w hSw; (try dsimp only at hSw); go_simp; try with_reducible rfl)
                    simp only [Act.put, List.getElem_toArray, List.getElem_cons_succ, List.getElem_cons_zero, List.setIfInBounds_toArray, List.set_cons_zero, List.set_cons_succ]
                    refine wpAnyH_take (i := 6) (v := ?_) rfl (by kernel_rfl) (by kernel_rfl) (by kernel_rfl) (fun _ _ _ h => h) (Or.inl ⟨by rfl, ?_⟩) (by assumption) ?_
                    rotate_left
                    · (intro w hSw; (try dsimp only at hSw); go_simp; try with_reducible rfl)
                    simp only [Act.put, List.getElem_toArray, List.getElem_cons_succ, List.getElem_cons_zero, List.setIfInBounds_toArray, List.set_cons_zero, List.set_cons_succ]
                    refine wpAnyH_take (i := 7) (v := ?_) rfl (by kernel_rfl) (by kernel_rfl) (by kernel_rfl) (fun _ _ _ h => h) (Or.inl ⟨by rfl, ?_⟩) (by assumption) ?_
                    rotate_left
                    · (intro w hSw; (try dsimp only at hSw); go_simp; try with_reducible rfl)
                    simp only [Act.put, List.getElem_toArray, List.getElem_cons_succ, List.getElem_cons_zero, List.setIfInBounds_toArray, List.set_cons_zero, List.set_cons_succ]
                    refine wpAnyH_take (i := 8) (v := ?_) rfl (by kernel_rfl) (by kernel_rfl) (by kernel_rfl) (fun _ _ _ h => h) (Or.inl ⟨by rfl, ?_⟩) (by assumption) ?_
                    rotate_left
                    · (intro w hSw; (try dsimp only at hSw); go_simp; try with_reducible rfl)
                    simp only [Act.put, List.getElem_toArray, List.getElem_cons_succ, List.getElem_cons_zero, List.setIfInBounds_toArray, List.set_cons_zero, List.set_cons_succ]
                    refine wpAnyH_take (i := 9) (v := ?_) rfl (by kernel_rfl) (by kernel_rfl) (by kernel_rfl) (fun _ _ _ h => h) (Or.inl ⟨by rfl, ?_⟩) (by assumption) ?_
                    rotate_left
                    · (intro w hSw; (try dsimp only at hSw); go_simp; try with_reducible rfl)
                    simp only [Act.put, List.getElem_toArray, List.getElem_cons_succ, List.getElem_cons_zero, List.setIfInBounds_toArray, List.set_cons_zero, List.set_cons_succ]
                    refine wpAnyH_take (i := 10) (v := ?_) rfl (by kernel_rfl) (by kernel_rfl) (by kernel_rfl) (fun _ _ _ h => h) (Or.inl ⟨by rfl, ?_⟩) (by assumption) ?_
                    rotate_left
                    · (intro w hSw; (try dsimp only at hSw); go_simp; try with_reducible rfl)
                    simp only [Act.put, List.getElem_toArray, List.getElem_cons_succ, List.getElem_cons_zero, List.setIfInBounds_toArray, List.set_cons_zero, List.set_cons_succ]
                    refine wpAnyH_take (i := 11) (v := ?_) rfl (by kernel_rfl) (by kernel_rfl) (by kernel_rfl) (fun _ _ _ h => h) (Or.inl ⟨by rfl, ?_⟩) (by assumption) ?_
                    rotate_left
                    · (intro w hSw; (try dsimp only at hSw); go_simp; try with_reducible rfl)
                    simp only [Act.put, List.getElem_toArray, List.getElem_cons_succ, List.getElem_cons_zero, List.setIfInBounds_toArray, List.set_cons_zero, List.set_cons_succ]
                    refine wpAnyH_take (i := 12) (v := ?_) rfl (by kernel_rfl) (by kernel_rfl) (by kernel_rfl) (fun _ _ _ h => h) (Or.inl ⟨by rfl, ?_⟩) (by assumption) ?_
                    rotate_left
                    · (intro w hSw; (try dsimp only at hSw); go_simp; try with_reducible rfl)
                    simp only [Act.put, List.getElem_toArray, List.getElem_cons_succ, List.getElem_cons_zero, List.setIfInBounds_toArray, List.set_cons_zero, List.set_cons_succ]
                    refine wpAnyH_ready (rs := [13]) (by kernel_rfl) (by simp) ?_
                    refine AllReadyH.cons (o := _) rfl (fun K' hK' => ?_) AllReadyH.nil
                    clear hHeld
                    go_simp
                    refine (HCALL.out n n W11 (.slice (some ⟨c, 0, none⟩) 0 0) (by omega) (by omega) hB9 (by rw [Nat.sub_self, List.take_zero]; exact Slc.noneP _ rfl rfl)).mono ?_
                    rintro e W12 ⟨rfl, m3, x1, x2, x3, x4, x5⟩
                    have HX1 := Lib.hid x1
                    have HX2 := Lib.hid x2
                    have HX3 := Lib.hid x3
                    have HX4 := Lib.hid x4
                    have HX5 := Lib.hid (grown_trans HGW.out (grown_trans (grown_any (below_grown hB9) _) x5))
                    clear x1 x2 x3 x4 x5 hB9
                    refine hK'.out _ _ trivial (fun hHeld => ?_)
                    clear hK' K'
                    refine wpAnyH_done (by kernel_rfl) ?_ _
                    clear hHeld
                    go_wp2
                    go_roundw
                    case rel => exact ⟨q + 1, Q, m3, HQE, by omega, by go_num, HX1.out, HX2.out, HX3.out, HX4.out, HX5.out⟩
                    case measure => simp [intOf]; omega
            · go_wp2
              have e9 : m2.take F = m2 := List.take_of_length_le (by rw [HM2.out]; omega)
              rw [e9] at HMEM HRP2
              clear e9
              go_roundw
              case rel =>
                exact ⟨2 * r, d, c, m2, l, by omega, by omega, by go_num, rfl, rfl, Ne.symm HCD.out, HGD.out, HGC.out, HM2.out, HL.out, HMEM.out, HRP2.out, HRD2.out, HRC.out.kept HGW.out HCD.out, HB.out.grown HGW.out (by rw [← HG.out]; exact HB.out.size) (fun k hk => by cases hk; exact HGD.out)⟩
              case measure => simp [intOf]; omega
        · go_wp2
          go_ret
          refine ⟨_, l, rfl, so_of_pair HWK.out.tot HL.out HLT.out (HRP.out.all (by rw [HL.out]; omega)), ?_, by rw [HG.out]; exact HB.out⟩
          have h9 := HRC.out.slc (by rw [HL.out]; unfold maxLen; omega)
          rw [zL_len, HL.out] at h9
          exact h9.keep (Kept.refl _ _) (fun b _ e => by subst e; rw [HG.out]; exact HGC.out)
end Go.Proofs.YtbdbpamefkgelaaGreatDoor

/- Layer 18, walked: the function value of law MergeSorts. -/
namespace Go.Proofs.YtbdbpamefkgelaaGreatDoor
set_option maxRecDepth 100000
open Go.RowKit Fl
set_option linter.unusedVariables false

end Go.Proofs.YtbdbpamefkgelaaGreatDoor

/- Layer 18, walked: Sort; what Cells hands to sorted. Written by tools/gen_mgt.py. -/
namespace Go.Proofs.YtbdbpamefkgelaaGreatDoor
set_option maxRecDepth 100000
open Go.RowKit Fl
set_option linter.unusedVariables false

theorem stO_tot {n : Nat} {lt : Nat → Nat → Bool} (h : TotO n lt) {i k : Nat} (hi : i < n) (hk : k < n) : stO lt i k = lt i k := by
  unfold stO
  by_cases e : i = k
  · subst e; rw [h.irr i hi]; simp
  · have := h.tot i k hi hk e
    cases h1 : lt i k
    · rw [h1] at this; cases h2 : lt k i
      · rw [h2] at this; cases this
      · rfl
    · rfl
theorem weak_tot {n : Nat} {lt : Nat → Nat → Bool} (h : TotO n lt) : Weak n lt := by
  refine ⟨h.irr, h.tra, fun i j k hi hj hk a b => ?_⟩
  by_cases e1 : i = j
  · subst e1; exact b
  · by_cases e2 : j = k
    · subst e2; exact a
    · have h1 := h.tot i j hi hj e1
      have h2 := h.tot j k hj hk e2
      rw [a] at h1
      rw [b] at h2
      have h3 : lt k j = true := by
        cases h4 : lt k j
        · rw [h4] at h2; cases h2
        · rfl
      have h5 : lt j i = true := by
        cases h4 : lt j i
        · rw [h4] at h1; cases h1
        · rfl
      have h6 := h.tra k j i hk hj hi h3 h5
      by_cases e3 : i = k
      · subst e3; exact h.irr i hi
      · have := h.tot i k hi hk e3
        rw [h6] at this; exact this
theorem so_same {n : Nat} {lt lt' : Nat → Nat → Bool} (h : ∀ i k, i < n → k < n → lt i k = lt' i k) {a : List Nat} (ha : IsSo n lt a) : IsSo n lt' a := by
  refine ⟨ha.1, ha.2.1, ha.2.2.1, fun r hr => ?_⟩
  have key : ∀ i, i < n → a.getD i 0 < n := fun i hi => by
    rw [List.getD_eq_getElem?_getD, List.getElem?_eq_getElem (by rw [ha.1]; exact hi)]
    exact ha.2.1 _ (List.getElem_mem _)
  rw [← h _ _ (key r (by omega)) (key (r + 1) hr)]
  exact ha.2.2.2 r hr

end Go.Proofs.YtbdbpamefkgelaaGreatDoor

/- Layer 18, walked: Cells, Grade. Written by tools/gen_mgu.py. -/
namespace Go.Proofs.YtbdbpamefkgelaaGreatDoor
set_option maxRecDepth 100000
open Go.RowKit Fl
set_option linter.unusedVariables false

def MgYes (A : VV) (size : Nat) (down : Bool) (w : World) (e : Ending) (w' : World) : Prop := ∃ v, e = .returned (.tuple #[v, .bool true]) ∧ Slc w' (fun b => w.heap.size ≤ b) v (A.len / size) (ints (zL (mgL A size down))) ∧ Below w.heap.size w w'
theorem mgc1_calls {ok : Nat → Prop} (u : Value) (A : VV) (size i k bv bs bd : Nat) (down : Bool) (w : World) (hv : At1 w bv u) (hs : At1 w bs (.int .i64 (size : Int))) (hd : At1 w bd (.bool down)) (h : IsV w ok u A) (fA : ∀ x ∈ A.nums, Fnt x) (hc : A.cls < 2) (hp : 0 < size) (hm : A.len ≤ 1048576) (hi : i < A.len / size) (hk : k < A.len / size) :
    Calls Tryz.prog 38 #[.int .i64 (i : Int), .int .i64 (k : Int), .pointer (some ⟨bv, 0, none⟩), .pointer (some ⟨bs, 0, none⟩), .pointer (some ⟨bd, 0, none⟩)] w fun e w' => e = .returned (.bool (lesK (keyV A) size down i k)) ∧ Below w.heap.size w w' := by
  have HCALL := Lib.hid (oless_calls u A size i k down w h fA hc hp hm hi hk)
  have c0 := hv.2.1
  have c1 := hs.2.1
  have c2 := hd.2.1
  have hsu := h.store
  clear hv hs hd h fA hc hp hm hi hk
  go_enter Tryz.func38, Tryz.ntmps38
  go_wp2_with fail
  refine HCALL.out.mono ?_
  rintro e w1 ⟨rfl, hB⟩
  go_wp2
  go_ret
  exact ⟨rfl, hB⟩
theorem mg_nums {A : VV} (hok : A.ok) (hn : A.nm) : ∀ x ∈ A.nums, Fnt x := fun x hx => (VV.nums_num hok hn x hx).1

set_option maxHeartbeats 8000000 in
theorem mgcells_yes {ok : Nat → Prop} (u : Value) (A : VV) (size : Nat) (down : Bool) (w : World) (h : IsV w ok u A) (hA : A.ok ∧ A.nm) (ht : ∀ z ∈ A.text, -2147483648 ≤ z ∧ z ≤ 2147483647) (hc : A.cls < 2) (hk : A.kind ≠ 0) (hs : 0 < size) (hsm : size ≤ 1048576) (hT : TabAt w) :
    Calls Tryz.prog 16 #[.agg #[u], .int .i64 (size : Int), .bool down] w (MgYes A size down w) := by
  have hsu := h.store
  obtain ⟨W1, hW1⟩ : ∃ W1, W1 = ((w.alloc (.cells #[u] 36)).alloc (.cells #[.int .i64 (size : Int)] 3)).alloc (.cells #[.bool down] 4) := ⟨_, rfl⟩
  have HB := Lib.hid (show Below w.heap.size w W1 by rw [hW1]; exact ((below_new _ _).alloc (by simp) _).alloc (by simp; omega) _)
  have HV := Lib.hid (show At1 W1 w.heap.size u by rw [hW1]; exact ((At1.new w _ _).below (below_new _ _)).below (below_new _ _))
  have HS := Lib.hid (show At1 W1 (w.heap.size + 1) (.int .i64 (size : Int)) by rw [hW1]; have := (At1.new (w.alloc (.cells #[u] 36)) (.int .i64 (size : Int)) 3).below (below_new _ (.cells #[.bool down] 4)); simpa using this)
  have HD := Lib.hid (show At1 W1 (w.heap.size + 1 + 1) (.bool down) by rw [hW1]; have := At1.new ((w.alloc (.cells #[u] 36)).alloc (.cells #[.int .i64 (size : Int)] 3)) (.bool down) 4; simpa using this)
  have HU := Lib.hid (show IsV W1 ok u A from h.grow HB.out)
  have hfold := hW1.symm
  have hmf : ∀ (fn : Fn) (first cap : Array Value) (w : World), (Instr.makeFunc fn first cap).run Tryz.prog w = .ok (.func fn first cap) w := fun _ _ _ _ => rfl
  have HA := Lib.hid hA
  have HC := Lib.hid hc
  have HP := Lib.hid hs
  have HLN := Lib.hid (VV.ok_len hA.1)
  obtain ⟨n, hn⟩ : ∃ n, A.len = n := ⟨_, rfl⟩
  obtain ⟨Q, hQ⟩ : ∃ Q, n / size = Q := ⟨_, rfl⟩
  have d2 : (n : Int).tdiv (size : Int) = (Q : Int) := by rw [← hQ]; rfl
  have hnm : n ≤ 1048576 := by rw [← hn]; exact HLN.out
  have hQn : Q ≤ n := by rw [← hQ]; exact Nat.div_le_self _ _
  have HN := Lib.hid hn
  have HQ := Lib.hid hQ
  have hsz1 : ¬ ((size : Int) < 1) := by omega
  have w1 : IntKind.i64.wrap (Q : Int) = (Q : Int) := IntWalk.i64_in _ (by omega)
  have hz1 : ¬ (size : Int) = 0 := by omega
  have hz2 : ¬ size = 0 := by omega
  have d1 : (n : Int) / (size : Int) = (Q : Int) := by rw [← hQ]; rfl
  have hcl : decide (A.cls = 0 ∨ A.cls = 1) = true := decide_eq_true (by rcases VV.cls_cases A with c | c | c <;> omega)
  have HCL := Lib.hid hcl
  clear hW1 h hA ht hc hk hT hn hQ hcl
  have cHV0 := HV.out.2.1
  have cHS0 := HS.out.2.1
  have cHD0 := HD.out.2.1
  go_enter Tryz.func16, Tryz.ntmps16
  go_wp2_with fail
  clear hfold
  refine (class_calls _ A _ HU.out).mono ?_
  rintro e W2 ⟨rfl, hB⟩
  clear cHV0 cHS0 cHD0
  replace HV := Lib.hid (HV.out.below hB)
  replace HS := Lib.hid (HS.out.below hB)
  replace HD := Lib.hid (HD.out.below hB)
  replace HB := Lib.hid (HB.out.trans (hB.mono HB.out.size))
  replace HU := Lib.hid (HU.out.grow hB)
  clear hB
  go_wp2_with ((with_reducible refine (ohas_calls A.cls _).mono ?_); rintro e w9 ⟨rfl, rfl⟩; rw [HCL.out])
  obtain ⟨W3, hWD⟩ : ∃ xw9, W2.drew = xw9 := ⟨_, rfl⟩
  have hB : Below W2.heap.size W2 W3 := by rw [← hWD]; exact Below.drewN' (Below.refl _ _) 1
  replace HV := Lib.hid (HV.out.below hB)
  replace HS := Lib.hid (HS.out.below hB)
  replace HD := Lib.hid (HD.out.below hB)
  replace HB := Lib.hid (HB.out.trans (hB.mono HB.out.size))
  replace HU := Lib.hid (HU.out.grow hB)
  clear hB
  refine wp_region_held_drew (S := fun w' => w'.cell? ⟨w.heap.size, 0, none⟩ = some u ∧ w'.cell? ⟨w.heap.size + 1, 0, none⟩ = some (.int .i64 (size : Int))) (by kernel_rfl) (by rw [hWD]; exact ⟨HV.out.2.1, HS.out.2.1⟩) (fun hHeld => ?_)
  rw [hWD] at hHeld ⊢
  clear hWD
  refine wpAnyH_take (i := 0) (v := ?_) rfl (by kernel_rfl) (by kernel_rfl) (by kernel_rfl) (fun _ _ _ h => h) (Or.inl ⟨by rfl, ?_⟩) (by assumption) ?_
  rotate_left
  · (intro w hSw; (try dsimp only at hSw); go_simp; try with_reducible rfl)
  simp only [Act.put, List.getElem_toArray, List.getElem_cons_zero, List.setIfInBounds_toArray, List.set_cons_zero, List.set_cons_succ]
  refine wpAnyH_take (i := 2) (v := ?_) rfl (by kernel_rfl) (by kernel_rfl) (by kernel_rfl) (fun _ _ _ h => h) (Or.inl ⟨by rfl, ?_⟩) (by assumption) ?_
  rotate_left
  · (intro w hSw; (try dsimp only at hSw); go_simp; try with_reducible rfl)
  simp only [Act.put, List.getElem_toArray, List.getElem_cons_succ, List.getElem_cons_zero, List.setIfInBounds_toArray, List.set_cons_zero, List.set_cons_succ]
  refine wpAnyH_take (i := 4) (v := ?_) rfl (by kernel_rfl) (by kernel_rfl) (by kernel_rfl) (fun _ _ _ h => h) (Or.inl ⟨by rfl, ?_⟩) (by assumption) ?_
  rotate_left
  · (intro w hSw; (try dsimp only at hSw); go_simp; try with_reducible rfl)
  simp only [Act.put, List.getElem_toArray, List.getElem_cons_succ, List.getElem_cons_zero, List.setIfInBounds_toArray, List.set_cons_zero, List.set_cons_succ]
  refine wpAnyH_ready (rs := [1]) (by kernel_rfl) (by simp) ?_
  refine AllReadyH.cons (o := _) rfl (fun K' hK' => ?_) AllReadyH.nil
  clear hHeld
  go_simp
  refine (vlen_calls _ A _ HU.out).mono ?_
  rintro e W4 ⟨rfl, hB⟩
  rw [HN.out]
  replace HV := Lib.hid (HV.out.below hB)
  replace HS := Lib.hid (HS.out.below hB)
  replace HD := Lib.hid (HD.out.below hB)
  replace HB := Lib.hid (HB.out.trans (hB.mono HB.out.size))
  replace HU := Lib.hid (HU.out.grow hB)
  clear hB
  refine hK'.out _ _ ⟨HV.out.2.1, HS.out.2.1⟩ (fun hHeld => ?_)
  clear hK' K'
  refine wpAnyH_take (i := 3) (v := ?_) rfl (by kernel_rfl) (by kernel_rfl) (by kernel_rfl) (fun _ _ _ h => h) (Or.inl ⟨by rfl, ?_⟩) (by assumption) ?_
  rotate_left
  · (intro w hSw; (try dsimp only at hSw); go_simp; try with_reducible rfl)
  simp only [Act.put, List.getElem_toArray, List.getElem_cons_succ, List.getElem_cons_zero, List.setIfInBounds_toArray, List.set_cons_zero, List.set_cons_succ]
  refine wpAnyH_ready (rs := [5]) (by kernel_rfl) (by simp) ?_
  refine AllReadyH.cons (o := _) rfl (fun K' hK' => ?_) AllReadyH.nil
  clear hHeld
  go_simp
  refine (mgsorted_calls 38 #[.pointer (some ⟨w.heap.size, 0, none⟩), .pointer (some ⟨w.heap.size + 1, 0, none⟩), .pointer (some ⟨w.heap.size + 1 + 1, 0, none⟩)] (n := Q) (ahead := lesK (keyV A) size down) W4 (fun args wx => by simp [go_sem]) (fun i k wx hi hk hB => mgc1_calls u A size i k _ _ _ down wx (HV.out.below hB) (HS.out.below hB) (HD.out.below hB) (HU.out.grow hB) (mg_nums HA.out.1 HA.out.2) HC.out HP.out HLN.out (by rw [HN.out, HQ.out]; exact hi) (by rw [HN.out, HQ.out]; exact hk)) (weak_tot (lesK_tot _ _ _ _)) (by omega)).mono ?_
  rintro e W5 ⟨v, l, rfl, hso, hv, hB⟩
  have HSO := Lib.hid (so_same (fun i k hi hk => stO_tot (lesK_tot _ _ _ _) hi hk) hso)
  have HV5 := Lib.hid hv
  clear hso hv
  replace HV := Lib.hid (HV.out.below hB)
  replace HS := Lib.hid (HS.out.below hB)
  have HSZ := Lib.hid (HB.out.size)
  replace HB := Lib.hid (HB.out.trans (hB.mono HB.out.size))
  clear hB
  refine hK'.out _ _ ⟨HV.out.2.1, HS.out.2.1⟩ (fun hHeld => ?_)
  clear hK' K'
  refine wpAnyH_take (i := 6) (v := ?_) rfl (by kernel_rfl) (by kernel_rfl) (by kernel_rfl) (fun _ _ _ h => h) (Or.inl ⟨by rfl, ?_⟩) (by assumption) ?_
  rotate_left
  · (intro w hSw; (try dsimp only at hSw); go_simp; try with_reducible rfl)
  simp only [Act.put, List.getElem_toArray, List.getElem_cons_succ, List.getElem_cons_zero, List.setIfInBounds_toArray, List.set_cons_zero, List.set_cons_succ]
  refine wpAnyH_take (i := 7) (v := ?_) rfl (by kernel_rfl) (by kernel_rfl) (by kernel_rfl) (fun _ _ _ h => h) (Or.inl ⟨by rfl, ?_⟩) (by assumption) ?_
  rotate_left
  · (intro w hSw; (try dsimp only at hSw); go_simp; try with_reducible rfl)
  simp only [Act.put, List.getElem_toArray, List.getElem_cons_succ, List.getElem_cons_zero, List.setIfInBounds_toArray, List.set_cons_zero, List.set_cons_succ]
  refine wpAnyH_done (by kernel_rfl) ?_ _
  clear hHeld
  go_wp2
  go_ret2
  refine ⟨v, rfl, ?_, HB.out⟩
  unfold mgL
  rw [HN.out, HQ.out, ← (so_iff (lesK_tot _ _ _ _) (grN_gr (lesK_tot _ _ _ _))).1 HSO.out]
  exact HV5.out.keep (Kept.refl _ _) (fun b _ h => Nat.le_trans HSZ.out h)
end Go.Proofs.YtbdbpamefkgelaaGreatDoor

/- Layer 18, walked: Grade. Written by tools/gen_mgv.py. -/
namespace Go.Proofs.YtbdbpamefkgelaaGreatDoor
set_option maxRecDepth 100000
open Go.RowKit Fl
set_option linter.unusedVariables false

set_option maxHeartbeats 8000000 in
theorem mggrade_yes {ok : Nat → Prop} (u : Value) (A : VV) (size : Nat) (down : Bool) (w : World) (h : IsV w ok u A) (hA : A.ok ∧ A.nm) (ht : ∀ z ∈ A.text, -2147483648 ≤ z ∧ z ≤ 2147483647) (hc : A.cls < 2) (hk : A.kind ≠ 0) (hs : 0 < size) (hsm : size ≤ 1048576) (hT : TabAt w) :
    Calls Tryz.prog 15 #[.agg #[u], .int .i64 (size : Int), .bool down] w (MgYes A size down w) := by
  have hsu := h.store
  obtain ⟨W1, hW1⟩ : ∃ W1, W1 = w.alloc (.cells #[u] 36) := ⟨_, rfl⟩
  have HB := Lib.hid (show Below w.heap.size w W1 by rw [hW1]; exact below_new _ _)
  have HV := Lib.hid (show At1 W1 w.heap.size u by rw [hW1]; exact At1.new w _ _)
  have HU := Lib.hid (show IsV W1 ok u A from h.grow HB.out)
  have HT := Lib.hid (show TabAt W1 from fun j hj => keep_below HB.out _ _ (hT j hj))
  have hfold := hW1.symm
  have HC := Lib.hid (show ∀ wx : World, IsV wx ok u A → TabAt wx → Calls Tryz.prog 16 #[.agg #[u], .int .i64 (size : Int), .bool down] wx (MgYes A size down wx) from fun wx h1 h2 => mgcells_yes u A size down wx h1 hA ht hc hk hs hsm h2)
  have HG := Lib.hid (show ∀ wx : World, IsV wx ok u A → TabAt wx → Calls Tryz.prog 35 #[.agg #[u], .bool down] wx (GradeIs A down wx) from fun wx h1 h2 => rxgrade_calls u A down wx h1 hA.1 hA.2 ht h2)
  have cHV0 := HV.out.2.1
  clear hW1 h hA ht hc hk hT
  by_cases h1 : size = 1
  · subst h1
    obtain ⟨kb, hkb⟩ : ∃ kb, A.keyB = kb := ⟨_, rfl⟩
    have HKB := Lib.hid hkb
    clear hkb
    go_enter Tryz.func15, Tryz.ntmps15
    go_wp2_with fail
    clear hfold
    refine (HG.out _ HU.out HT.out).mono ?_
    rintro e W2 ⟨v, rfl, hv, hn, hB⟩
    rw [HKB.out]
    have HV2 := Lib.hid hv
    have hsv : ∃ ao cap, v = .slice ao (grL A down).length cap := by obtain ⟨a1, c1, h1, _⟩ := hv.opened; exact ⟨a1, c1, h1⟩
    obtain ⟨vo, vc, rfl⟩ := hsv
    clear cHV0 hv hn
    replace HV := Lib.hid (HV.out.below hB)
    replace HU := Lib.hid (HU.out.grow hB)
    replace HT := Lib.hid (fun j hj => keep_below hB _ _ (HT.out j hj))
    have HSZ := Lib.hid HB.out.size
    replace HB := Lib.hid (HB.out.trans (hB.mono HB.out.size))
    clear hB
    cases kb
    · have cHV0 := HV.out.2.1
      go_wp2_with fail
      refine (HC.out _ HU.out HT.out).mono ?_
      rintro e W3 ⟨v, rfl, hv, hB⟩
      have HSZ2 := Lib.hid HB.out.size
      replace HB := Lib.hid (HB.out.trans (hB.mono HB.out.size))
      clear hB
      go_wp2
      go_ret2
      exact ⟨_, rfl, hv.keep (Kept.refl _ _) (fun b _ h => Nat.le_trans HSZ2.out h), HB.out⟩
    · go_wp2
      go_ret2
      refine ⟨_, rfl, ?_, HB.out⟩
      have e1 : mgL A 1 down = grL A down := by unfold mgL grL; rw [if_pos HKB.out, Nat.div_one]
      rw [e1, Nat.div_one, ← grL_len HKB.out down]
      exact HV2.out.keep (Kept.refl _ _) (fun b _ h => Nat.le_trans HSZ.out h)
  · have hs1 : ((size : Int) == 1) = false := by rw [beq_eq_false_iff_ne]; omega
    go_enter Tryz.func15, Tryz.ntmps15
    go_wp2_with fail
    clear hfold
    refine (HC.out _ HU.out HT.out).mono ?_
    rintro e W3 ⟨v, rfl, hv, hB⟩
    have HSZ2 := Lib.hid HB.out.size
    replace HB := Lib.hid (HB.out.trans (hB.mono HB.out.size))
    clear hB
    go_wp2
    go_ret2
    exact ⟨_, rfl, hv.keep (Kept.refl _ _) (fun b _ h => Nat.le_trans HSZ2.out h), HB.out⟩
end Go.Proofs.YtbdbpamefkgelaaGreatDoor

/- Layer 18, walked: listed, twice. Written by tools/gen_mgl.py. -/
namespace Go.Proofs.YtbdbpamefkgelaaGreatDoor
set_option maxRecDepth 100000
open Go.RowKit Fl
set_option linter.unusedVariables false

set_option maxHeartbeats 4000000 in
theorem mglistr_calls {ok ok2 : Nat → Prop} (u : Value) (A : VV) (v : Value) (l : List Nat) (w : World) (hu : IsV w ok u A) (hv : Slc w ok2 v l.length (ints (zL l))) (hm : l.length ≤ 1048576) :
    Calls Tryz.prog 43 #[v, .func (.func 44) #[.agg #[u]] #[]] w fun e w' => ∃ v, e = .returned v ∧ Slc w' (fun b => w.heap.size ≤ b) v l.length (i32s (l.map fun (x : Nat) => atI A.text 0 (x : Int))) ∧ Below w.heap.size w w' := by
  obtain ⟨n, hn⟩ : ∃ n, l.length = n := ⟨_, rfl⟩
  rw [hn] at hv hm ⊢
  have HU := Lib.hid hu
  have HV := Lib.hid hv
  have HN := Lib.hid hn
  obtain ⟨ao, cap, rfl, _⟩ := hv.opened
  obtain ⟨xs, hxs⟩ : ∃ xs : List Value, xs = (i32s (l.map fun (x : Nat) => atI A.text 0 (x : Int))) := ⟨_, rfl⟩
  have hxl : xs.length = n := by rw [hxs]; simp [i32s, hn]
  have hget : ∀ k (h : k < xs.length) (x : Nat), l[k]? = some x → xs[k]'h = .int .i32 (atI A.text 0 (x : Int)) := by
    intro k h x hx
    obtain ⟨h1, h2⟩ := List.getElem?_eq_some_iff.1 hx
    simp [hxs, i32s, h2]
  rw [← hxs]
  have HX := Lib.hid hget
  have HXL := Lib.hid hxl
  have hmk := run_mkC1 n (by omega) w
  clear hxs hget hxl hu hv hn
  obtain ⟨W0, hW0⟩ : ∃ W0, W0 = w.alloc (.cells (zerosV (.int .i32 0) n) 21) := ⟨_, rfl⟩
  have HO0 : Hid (W0.ownsRow w.heap.size 21 1 (.slice (some ⟨w.heap.size, 0, none⟩) n n) n (List.replicate n (.int .i32 0))) := Lib.hid (by rw [hW0]; exact own_make1 _ _ _ (by omega) _ _ (Nat.le_refl _))
  have HW := Lib.hid (show Below w.heap.size w W0 by rw [hW0]; exact below_new _ _)
  obtain ⟨g, hg⟩ : ∃ g, w.heap.size = g := ⟨_, rfl⟩
  rw [hg] at HO0 HW
  have HG := Lib.hid hg
  go_enter Tryz.func43, Tryz.ntmps43
  go_wp2_with fail
  rw [← hW0]
  clear hW0 hmk
  (try rw [hg])
  clear hg
  go_wp2_with fail
  go_loopw [13] (fun i wr => ∃ k : Nat, k ≤ n ∧ i = .int .i64 k ∧ wr.ownsRow g 21 1 (.slice (some ⟨g, 0, none⟩) n n) n (fillTo xs (.int .i32 0) k) ∧ Below g w wr) (fun i _ => n - (intOf i).toNat)
  case atStart => exact ⟨0, by omega, rfl, by rw [fillTo_zero, HXL.out]; exact HO0.out, HW.out⟩
  case round =>
    obtain ⟨k, hk, rfl, hown, hB⟩ := hrel
    clear HO0 HW
    have HO := Lib.hid hown
    have HB := Lib.hid hB
    clear hown hB
    by_cases hlt : k < n
    · have hBw : Below w.heap.size w wr := by rw [HG.out]; exact HB.out
      have HU2 := Lib.hid (HU.out.grow hBw)
      obtain ⟨b, off, cap2, x, e9, hx, hcx⟩ := Slc.at_map (Value.int .i64) (l := zL l) (by rw [zL_len, HN.out]; exact HV.out.below hBw) k (by rw [zL_len, HN.out]; exact hlt)
      rw [zL_len, HN.out] at e9
      cases e9
      obtain ⟨p, hp, rfl⟩ := zL_get hx
      have HXK := Lib.hid (HX.out k (by rw [HXL.out]; exact hlt) p hp)
      clear hx hp hBw
      go_wp2_with fail
      refine (vchar_calls u A (p : Int) _ HU2.out).mono ?_
      rintro e w9 ⟨rfl, hB9⟩
      replace HO := Lib.hid (owns_below HO.out hB9)
      have HGS := Lib.hid (show g ≤ wr.heap.size by have := HB.out.size; rw [HG.out] at this; exact this)
      replace HB := Lib.hid (HB.out.trans (hB9.mono HGS.out))
      have hcw := owns_cell HO.out k (by rw [fillTo_len _ _ _ (by rw [HXL.out]; exact hk), HXL.out]; exact hlt)
      have hfr := World.ownsRow.frozenAt HO.out k
      obtain ⟨old, hold⟩ : ∃ old, (fillTo xs (.int .i32 0) k)[k]'(by rw [fillTo_len _ _ _ (by rw [HXL.out]; exact hk), HXL.out]; exact hlt) = old := ⟨_, rfl⟩
      rw [hold] at hcw
      clear hold hB9 hcx
      go_wp2
      go_roundw
      case rel =>
        refine ⟨k + 1, by omega, by go_num, ?_, HB.out.setCell (Nat.le_refl _) _⟩
        have := (World.ownsRow.stored HO.out k (.int .i32 (atI A.text 0 (p : Int)))).1
        rw [← HXK.out, fillTo_set] at this
        rw [← HXK.out]
        exact this
      case measure => simp [intOf]; omega
    · have hkl : k = n := by omega
      have HK := Lib.hid hkl
      clear hkl
      go_wp2
      go_ret
      refine ⟨_, rfl, ?_, by rw [HG.out]; exact HB.out⟩
      have := Slc.owned HO.out
      rw [HK.out, ← HXL.out, fillTo_all, HXL.out] at this
      rw [HG.out]
      exact this
set_option maxHeartbeats 4000000 in
theorem mglistf_calls {ok ok2 : Nat → Prop} (u : Value) (A : VV) (v : Value) (l : List Nat) (w : World) (hu : IsV w ok u A) (hv : Slc w ok2 v l.length (ints (zL l))) (hm : l.length ≤ 1048576) :
    Calls Tryz.prog 46 #[v, .func (.func 47) #[.agg #[u]] #[]] w fun e w' => ∃ v, e = .returned v ∧ Slc w' (fun b => w.heap.size ≤ b) v l.length (f64s (l.map fun (x : Nat) => atI A.nums 0 (x : Int))) ∧ Below w.heap.size w w' := by
  obtain ⟨n, hn⟩ : ∃ n, l.length = n := ⟨_, rfl⟩
  rw [hn] at hv hm ⊢
  have HU := Lib.hid hu
  have HV := Lib.hid hv
  have HN := Lib.hid hn
  obtain ⟨ao, cap, rfl, _⟩ := hv.opened
  have hst := run_store_float
  obtain ⟨xs, hxs⟩ : ∃ xs : List Value, xs = (f64s (l.map fun (x : Nat) => atI A.nums 0 (x : Int))) := ⟨_, rfl⟩
  have hxl : xs.length = n := by rw [hxs]; simp [f64s, hn]
  have hget : ∀ k (h : k < xs.length) (x : Nat), l[k]? = some x → xs[k]'h = .float .f64 (atI A.nums 0 (x : Int)) := by
    intro k h x hx
    obtain ⟨h1, h2⟩ := List.getElem?_eq_some_iff.1 hx
    simp [hxs, f64s, h2]
  rw [← hxs]
  have HX := Lib.hid hget
  have HXL := Lib.hid hxl
  have hmk := run_mkF1 n (by omega) w
  clear hxs hget hxl hu hv hn
  obtain ⟨W0, hW0⟩ : ∃ W0, W0 = w.alloc (.cells (zerosV (.float .f64 0) n) 57) := ⟨_, rfl⟩
  have HO0 : Hid (W0.ownsRow w.heap.size 57 1 (.slice (some ⟨w.heap.size, 0, none⟩) n n) n (List.replicate n (.float .f64 0))) := Lib.hid (by rw [hW0]; exact own_make1 _ _ _ (by omega) _ _ (Nat.le_refl _))
  have HW := Lib.hid (show Below w.heap.size w W0 by rw [hW0]; exact below_new _ _)
  obtain ⟨g, hg⟩ : ∃ g, w.heap.size = g := ⟨_, rfl⟩
  rw [hg] at HO0 HW
  have HG := Lib.hid hg
  go_enter Tryz.func46, Tryz.ntmps46
  go_wp2_with fail
  rw [← hW0]
  clear hW0 hmk
  (try rw [hg])
  clear hg
  go_wp2_with fail
  go_loopw [13] (fun i wr => ∃ k : Nat, k ≤ n ∧ i = .int .i64 k ∧ wr.ownsRow g 57 1 (.slice (some ⟨g, 0, none⟩) n n) n (fillTo xs (.float .f64 0) k) ∧ Below g w wr) (fun i _ => n - (intOf i).toNat)
  case atStart => exact ⟨0, by omega, rfl, by rw [fillTo_zero, HXL.out]; exact HO0.out, HW.out⟩
  case round =>
    obtain ⟨k, hk, rfl, hown, hB⟩ := hrel
    clear HO0 HW
    have HO := Lib.hid hown
    have HB := Lib.hid hB
    clear hown hB
    by_cases hlt : k < n
    · have hBw : Below w.heap.size w wr := by rw [HG.out]; exact HB.out
      have HU2 := Lib.hid (HU.out.grow hBw)
      obtain ⟨b, off, cap2, x, e9, hx, hcx⟩ := Slc.at_map (Value.int .i64) (l := zL l) (by rw [zL_len, HN.out]; exact HV.out.below hBw) k (by rw [zL_len, HN.out]; exact hlt)
      rw [zL_len, HN.out] at e9
      cases e9
      obtain ⟨p, hp, rfl⟩ := zL_get hx
      have HXK := Lib.hid (HX.out k (by rw [HXL.out]; exact hlt) p hp)
      clear hx hp hBw
      go_wp2_with fail
      refine (num_calls u A (p : Int) _ HU2.out).mono ?_
      rintro e w9 ⟨rfl, hB9⟩
      replace HO := Lib.hid (owns_below HO.out hB9)
      have HGS := Lib.hid (show g ≤ wr.heap.size by have := HB.out.size; rw [HG.out] at this; exact this)
      replace HB := Lib.hid (HB.out.trans (hB9.mono HGS.out))
      have hcw := owns_cell HO.out k (by rw [fillTo_len _ _ _ (by rw [HXL.out]; exact hk), HXL.out]; exact hlt)
      have hfr := World.ownsRow.frozenAt HO.out k
      obtain ⟨old, hold⟩ : ∃ old, (fillTo xs (.float .f64 0) k)[k]'(by rw [fillTo_len _ _ _ (by rw [HXL.out]; exact hk), HXL.out]; exact hlt) = old := ⟨_, rfl⟩
      rw [hold] at hcw
      clear hold hB9 hcx
      go_wp2
      go_roundw
      case rel =>
        refine ⟨k + 1, by omega, by go_num, ?_, HB.out.setCell (Nat.le_refl _) _⟩
        have := (World.ownsRow.stored HO.out k (.float .f64 (atI A.nums 0 (p : Int)))).1
        rw [← HXK.out, fillTo_set] at this
        rw [← HXK.out]
        exact this
      case measure => simp [intOf]; omega
    · have hkl : k = n := by omega
      have HK := Lib.hid hkl
      clear hkl
      go_wp2
      go_ret
      refine ⟨_, rfl, ?_, by rw [HG.out]; exact HB.out⟩
      have := Slc.owned HO.out
      rw [HK.out, ← HXL.out, fillTo_all, HXL.out] at this
      rw [HG.out]
      exact this
end Go.Proofs.YtbdbpamefkgelaaGreatDoor

/- Layer 18, walked: Ordered. Written by tools/gen_mgo.py. -/
namespace Go.Proofs.YtbdbpamefkgelaaGreatDoor
set_option maxRecDepth 100000
open Go.RowKit Fl
set_option linter.unusedVariables false

theorem sel_sqL {A : VV} (hok : A.ok) (hn : A.nm) (hc : A.cls = 0) {at_ : List Int} (hm : at_.length ≤ 1048576) : A.sel at_ = sqL (at_.map (atI A.nums 0)) := by
  by_cases hb : A.isBit = true
  · have hN := VV.nums_num hok hn
    have e1 := VV.sel_numbers at_ hN hm hc
    rw [← e1]
    rw [VV.sel_bits hb]
    exact VV.canon (V := .bits (at_.map (sqI A.packed))) (by show (at_.map (sqI A.packed)).length ≤ 1048576; rw [List.length_map]; exact hm) trivial rfl rfl (show (0 : Int) < 1 by decide)
  · exact VV.sel_nums hc (by simpa using hb) at_
theorem cut_all (L : List Nat) : (VV.floats L).cut 0 (L.length : Int) = sqL L := by
  have e0 : cl8 0 (VV.floats L).len = 0 := by unfold cl8; omega
  have e1 : cl8 (L.length : Int) (VV.floats L).len = L.length := by unfold cl8; simp [VV.len]
  unfold VV.cut
  rw [if_neg (by simp [VV.isBit]), e0, e1, Nat.sub_zero, VV.sel_nums rfl rfl]
  unfold sqL
  congr 2
  apply List.ext_getElem (by simp [cutL])
  intro i h1 h2
  simp only [cutL, List.getElem_map, List.getElem_range]
  rw [show ((0 : Nat) : Int) + (i : Int) = (i : Int) by omega]
  exact atI_nat h2
set_option maxHeartbeats 8000000 in
theorem mgordered_yes {ok : Nat → Prop} (u : Value) (A : VV) (down : Bool) (w : World) (h : IsV w ok u A) (hA : A.ok ∧ A.nm) (ht : ∀ z ∈ A.text, -2147483648 ≤ z ∧ z ≤ 2147483647) (hc : A.cls < 2) (hk : A.kind ≠ 0) (hT : TabAt w) :
    Calls Tryz.prog 19 #[.agg #[u], .bool down] w fun e w' => ∃ u', e = .returned (.tuple #[.agg #[u'], .bool true]) ∧ IsV w' (fun b => (ok b ∧ b < w.heap.size) ∨ w.heap.size ≤ b) u' (A.sel (zL (mgL A 1 down))) ∧ Below w.heap.size w w' := by
  have hsu := h.store
  obtain ⟨W1, hW1⟩ : ∃ W1, W1 = (w.alloc (.cells #[u] 36)).alloc (.cells #[.nilIface] 36) := ⟨_, rfl⟩
  have HB := Lib.hid (show Below w.heap.size w W1 by rw [hW1]; exact ((below_new _ _).alloc (by simp) _))
  have HSZ := Lib.hid (show W1.heap.size = w.heap.size + 2 by rw [hW1]; simp)
  have HV := Lib.hid (show At1 W1 w.heap.size u by rw [hW1]; exact (At1.new w _ _).below (below_new _ _))
  have HR := Lib.hid (show At1 W1 (w.heap.size + 1) .nilIface by rw [hW1]; have := At1.new (w.alloc (.cells #[u] 36)) .nilIface 36; simpa using this)
  have HU := Lib.hid (show IsV W1 ok u A from h.grow HB.out)
  have HT := Lib.hid (show TabAt W1 from fun j hj => keep_below HB.out _ _ (hT j hj))
  have HW1 := Lib.hid (Below.refl W1.heap.size W1)
  have hfold := hW1.symm
  have HG := Lib.hid (show ∀ wx : World, IsV wx ok u A → TabAt wx → Calls Tryz.prog 15 #[.agg #[u], .int .i64 1, .bool down] wx (MgYes A 1 down wx) from fun wx h1 h2 => mggrade_yes u A 1 down wx h1 hA ht hc hk (by decide) (by decide) h2)
  have HLN := Lib.hid (VV.ok_len hA.1)
  obtain ⟨l, hl⟩ : ∃ l, mgL A 1 down = l := ⟨_, rfl⟩
  have hll : l.length = A.len := by rw [← hl, mgL_len, Nat.div_one]
  have HLT := Lib.hid (show ∀ x ∈ l, x < A.len from fun x hx => by
    rw [← hl] at hx
    have := grN_mem x hx
    rwa [Nat.div_one] at this)
  have HL := Lib.hid hl
  have HLL := Lib.hid hll
  have HA := Lib.hid hA
  rw [hl]
  have hc2 : A.cls = 0 ∨ A.cls = 1 := by rcases VV.cls_cases A with c | c | c <;> omega
  clear hW1 h hA ht hc hk hT hl hll
  have cHV0 := HV.out.2.1
  have cHR0 := HR.out.2.1
  have zHR0 := HR.out.2.2 0
  go_enter Tryz.func19, Tryz.ntmps19
  go_wp2_with fail
  clear hfold
  refine (HG.out _ HU.out HT.out).mono ?_
  rintro e W2 ⟨v, rfl, hv, hB⟩
  have HVL := Lib.hid (show Slc W2 (fun _ => True) v l.length (ints (zL l)) by rw [HL.out, Nat.div_one, ← HLL.out] at hv; exact hv.any)
  obtain ⟨vo, vc, rfl, _⟩ := HVL.out.opened
  clear cHV0 cHR0 zHR0 hv
  replace HV := Lib.hid (HV.out.below hB)
  replace HR := Lib.hid (HR.out.below hB)
  replace HU := Lib.hid (HU.out.grow hB)
  replace HT := Lib.hid (fun j hj => keep_below hB _ _ (HT.out j hj))
  replace HB := Lib.hid (HB.out.trans (hB.mono HB.out.size))
  replace HW1 := Lib.hid (HW1.out.trans (hB.mono HW1.out.size))
  clear hB
  have cHV0 := HV.out.2.1
  have cHR0 := HR.out.2.1
  go_wp2_with fail
  refine (class_calls _ A _ HU.out).mono ?_
  rintro e W3 ⟨rfl, hB⟩
  replace HVL := Lib.hid (HVL.out.below hB)
  clear cHV0 cHR0
  replace HV := Lib.hid (HV.out.below hB)
  replace HR := Lib.hid (HR.out.below hB)
  replace HU := Lib.hid (HU.out.grow hB)
  replace HT := Lib.hid (fun j hj => keep_below hB _ _ (HT.out j hj))
  replace HB := Lib.hid (HB.out.trans (hB.mono HB.out.size))
  replace HW1 := Lib.hid (HW1.out.trans (hB.mono HW1.out.size))
  clear hB
  have hmf : ∀ (fn : Fn) (first cap : Array Value) (w : World), (Instr.makeFunc fn first cap).run Tryz.prog w = .ok (.func fn first cap) w := fun _ _ _ _ => rfl
  rcases hc2 with hcl | hcl
  · rw [hcl]
    have HCL := Lib.hid hcl
    clear hcl
    have cHV0 := HV.out.2.1
    go_wp2_with fail
    refine (mglistf_calls u A _ l _ HU.out HVL.out (by rw [HLL.out]; exact HLN.out)).mono ?_
    rintro e W4 ⟨vf, rfl, hvf, hB⟩
    obtain ⟨L, hLL⟩ : ∃ L, (l.map fun (x : Nat) => atI A.nums 0 (x : Int)) = L := ⟨_, rfl⟩
    have hLlen : L.length = l.length := by rw [← hLL, List.length_map]
    have HNUM := Lib.hid (show ∀ x ∈ L, Num x from fun x hx => by
      rw [← hLL] at hx
      obtain ⟨y, hy, rfl⟩ := List.mem_map.1 hx
      have hyl : y < A.nums.length := by rw [VV.nums_length HCL.out]; exact HLT.out y hy
      rw [atI_nat hyl]
      exact VV.nums_num HA.out.1 HA.out.2 _ (List.getElem_mem _))
    have HSEL := Lib.hid (show A.sel (zL l) = sqL L by
      rw [sel_sqL HA.out.1 HA.out.2 HCL.out (by rw [zL_len, HLL.out]; exact HLN.out), ← hLL]
      unfold zL; rw [List.map_map]; rfl)
    rw [hLL, ← hLlen] at hvf
    have HVF := Lib.hid hvf
    have HLL2 := Lib.hid (show L.length ≤ 1048576 by rw [hLlen, HLL.out]; exact HLN.out)
    clear hLL hLlen hvf cHV0
    replace HV := Lib.hid (HV.out.below hB)
    replace HR := Lib.hid (HR.out.below hB)
    replace HU := Lib.hid (HU.out.grow hB)
    replace HT := Lib.hid (fun j hj => keep_below hB _ _ (HT.out j hj))
    replace HB := Lib.hid (HB.out.trans (hB.mono HB.out.size))
    replace HW1 := Lib.hid (HW1.out.trans (hB.mono HW1.out.size))
    clear hB
    go_wp2_with fail
    refine (vfloats_yes _ L _ HVF.out (by have := HLL2.out; omega) (fun x hx => (HNUM.out x hx).1)).mono ?_
    rintro e W5 ⟨uz, rfl, huz, hB⟩
    have e9 : L.map ze = L := by
      conv => rhs; rw [← List.map_id L]
      exact List.map_congr_left fun x hx => by rw [ze_of_num (HNUM.out x hx)]; rfl
    rw [e9] at huz
    clear e9
    have HUZ := Lib.hid (show IsV W5 (fun b => w.heap.size + 1 < b) uz (.floats L) from huz.wide (fun b _ h => Nat.lt_of_lt_of_le (by have := HW1.out.size; have := HSZ.out; omega) h))
    have hsz := huz.store
    have HNE := Lib.hid (show w.heap.size + 1 < W5.heap.size by have := HW1.out.size; have := hB.size; have := HSZ.out; omega)
    clear huz
    replace HV := Lib.hid (HV.out.below hB)
    replace HR := Lib.hid (HR.out.below hB)
    replace HU := Lib.hid (HU.out.grow hB)
    replace HT := Lib.hid (fun j hj => keep_below hB _ _ (HT.out j hj))
    replace HB := Lib.hid (HB.out.trans (hB.mono HB.out.size))
    replace HW1 := Lib.hid (HW1.out.trans (hB.mono HW1.out.size))
    clear hB
    obtain ⟨W6, hWn⟩ : ∃ xw9, W5.alloc (.cells #[uz] 36) = xw9 := ⟨_, rfl⟩
    have hB : Below W5.heap.size W5 W6 := by rw [← hWn]; exact below_new _ _
    have HZ := Lib.hid (show At1 W6 W5.heap.size uz by rw [← hWn]; exact At1.new _ _ _)
    replace HUZ := Lib.hid (HUZ.out.grow hB)
    replace HV := Lib.hid (HV.out.below hB)
    replace HR := Lib.hid (HR.out.below hB)
    replace HU := Lib.hid (HU.out.grow hB)
    replace HT := Lib.hid (fun j hj => keep_below hB _ _ (HT.out j hj))
    replace HB := Lib.hid (HB.out.trans (hB.mono HB.out.size))
    replace HW1 := Lib.hid (HW1.out.trans (hB.mono HW1.out.size))
    clear hB
    have cHV0 := HV.out.2.1
    have cHR0 := HR.out.2.1
    have cHZ0 := HZ.out.2.1
    go_wp2_with fail
    clear hWn
    obtain ⟨W7, hWD⟩ : ∃ xw9, W6.drew = xw9 := ⟨_, rfl⟩
    have hB : Below W6.heap.size W6 W7 := by rw [← hWD]; exact Below.drewN' (Below.refl _ _) 1
    replace HZ := Lib.hid (HZ.out.below hB)
    replace HUZ := Lib.hid (HUZ.out.grow hB)
    replace HV := Lib.hid (HV.out.below hB)
    replace HR := Lib.hid (HR.out.below hB)
    replace HU := Lib.hid (HU.out.grow hB)
    replace HT := Lib.hid (fun j hj => keep_below hB _ _ (HT.out j hj))
    replace HB := Lib.hid (HB.out.trans (hB.mono HB.out.size))
    replace HW1 := Lib.hid (HW1.out.trans (hB.mono HW1.out.size))
    clear hB
    refine wp_region_held_drew (S := fun w' => w'.cell? ⟨W5.heap.size, 0, none⟩ = some uz) (by kernel_rfl) (by rw [hWD]; exact HZ.out.2.1) (fun hHeld => ?_)
    rw [hWD] at hHeld ⊢
    clear hWD cHV0 cHR0 cHZ0
    refine wpAnyH_take (i := 0) (v := ?_) rfl (by kernel_rfl) (by kernel_rfl) (by kernel_rfl) (fun _ _ _ h => h) (Or.inl ⟨by rfl, ?_⟩) (by assumption) ?_
    rotate_left
    · (intro w hSw; (try dsimp only at hSw); go_simp; try with_reducible rfl)
    simp only [Act.put, List.getElem_toArray, List.getElem_cons_zero, List.setIfInBounds_toArray, List.set_cons_zero, List.set_cons_succ]
    refine wpAnyH_take (i := 1) (v := ?_) rfl (by kernel_rfl) (by kernel_rfl) (by kernel_rfl) (fun _ _ _ h => h) (Or.inl ⟨by rfl, ?_⟩) (by assumption) ?_
    rotate_left
    · (intro w hSw; (try dsimp only at hSw); go_simp; try with_reducible rfl)
    simp only [Act.put, List.getElem_toArray, List.getElem_cons_succ, List.getElem_cons_zero, List.setIfInBounds_toArray, List.set_cons_zero, List.set_cons_succ]
    refine wpAnyH_ready (rs := [2]) (by kernel_rfl) (by simp) ?_
    refine AllReadyH.cons (o := _) rfl (fun K' hK' => ?_) AllReadyH.nil
    clear hHeld
    go_simp
    refine (vlen_calls _ (.floats L) _ HUZ.out).mono ?_
    rintro e W8 ⟨rfl, hB⟩
    replace HZ := Lib.hid (HZ.out.below hB)
    replace HUZ := Lib.hid (HUZ.out.grow hB)
    replace HV := Lib.hid (HV.out.below hB)
    replace HR := Lib.hid (HR.out.below hB)
    replace HU := Lib.hid (HU.out.grow hB)
    replace HT := Lib.hid (fun j hj => keep_below hB _ _ (HT.out j hj))
    replace HB := Lib.hid (HB.out.trans (hB.mono HB.out.size))
    replace HW1 := Lib.hid (HW1.out.trans (hB.mono HW1.out.size))
    clear hB
    refine hK'.out _ _ HZ.out.2.1 (fun hHeld => ?_)
    clear hK' K'
    refine wpAnyH_ready (rs := [3]) (by kernel_rfl) (by simp) ?_
    refine AllReadyH.cons (o := _) rfl (fun K' hK' => ?_) AllReadyH.nil
    clear hHeld
    go_simp
    have HO := Lib.hid (show w.heap.size + 2 ≤ W8.heap.size by have := HW1.out.size; have := HSZ.out; omega)
    refine (fcut_calls _ (.floats L) 0 (L.length : Int) _ HUZ.out HLL2.out HNUM.out (fun a h => by simp [VV.boxs] at h) HT.out).mono ?_
    rintro e W9 ⟨uq, rfl, huq, hB⟩
    rw [cut_all] at huq
    have HQ := Lib.hid (show IsV W9 (fun b => w.heap.size + 1 < b) uq (sqL L) from huq.wide (fun b _ h => by rcases h with h | h; exact h.1; exact Nat.lt_of_lt_of_le (by have := HO.out; omega) h))
    have hsq := huq.store
    clear huq
    replace HZ := Lib.hid (HZ.out.below hB)
    replace HV := Lib.hid (HV.out.below hB)
    replace HR := Lib.hid (HR.out.below hB)
    replace HU := Lib.hid (HU.out.grow hB)
    replace HT := Lib.hid (fun j hj => keep_below hB _ _ (HT.out j hj))
    replace HB := Lib.hid (HB.out.trans (hB.mono HB.out.size))
    replace HW1 := Lib.hid (HW1.out.trans (hB.mono HW1.out.size))
    clear hB
    refine hK'.out _ _ HZ.out.2.1 (fun hHeld => ?_)
    clear hK' K'
    refine wpAnyH_ready (rs := [4]) (by kernel_rfl) (by simp) ?_
    refine AllReadyH.cons (o := _) rfl (fun K' hK' => ?_) AllReadyH.nil
    clear hHeld
    have s0 := HR.out.2.1
    have t0 := HR.out.2.2 0
    go_simp
    clear s0 t0
    obtain ⟨W10, hWn⟩ : ∃ xw9, W9.setCell ⟨w.heap.size + 1, 0, none⟩ uq = xw9 := ⟨_, rfl⟩
    rw [hWn]
    replace HR := Lib.hid (show At1 W10 (w.heap.size + 1) uq by rw [← hWn]; exact At1.put1 HR.out _)
    replace HB := Lib.hid (show Below w.heap.size w W10 by rw [← hWn]; exact HB.out.setCell (Nat.le_succ _) _)
    replace HQ := Lib.hid (show IsV W10 (fun b => w.heap.size + 1 < b) uq (sqL L) by rw [← hWn]; exact HQ.out.keep (Kept.setCell _ _ _ (by simp)) (fun _ _ h => h))
    replace HZ := Lib.hid (show At1 W10 W5.heap.size uz by rw [← hWn]; exact HZ.out.grown (grown_setCell _ ⟨w.heap.size + 1, 0, none⟩ _) (by have := HNE.out; simp; omega))
    clear hWn
    refine hK'.out _ _ HZ.out.2.1 (fun hHeld => ?_)
    clear hK' K'
    refine wpAnyH_take (i := 5) (v := ?_) rfl (by kernel_rfl) (by kernel_rfl) (by kernel_rfl) (fun _ _ _ h => h) (Or.inl ⟨by rfl, ?_⟩) (by assumption) ?_
    rotate_left
    · (intro w hSw; (try dsimp only at hSw); go_simp; try with_reducible rfl)
    simp only [Act.put, List.getElem_toArray, List.getElem_cons_succ, List.getElem_cons_zero, List.setIfInBounds_toArray, List.set_cons_zero, List.set_cons_succ]
    refine wpAnyH_done (by kernel_rfl) ?_ _
    clear hHeld
    have cHR0 := HR.out.2.1
    go_wp2
    refine bodyPost_ret (v := .tuple #[.agg #[uq], .bool true]) (by simp [results, Tryz.results19, go_sem, cHR0]) rfl ⟨uq, rfl, ?_, HB.out⟩
    rw [HSEL.out]
    exact HQ.out.wide (fun b _ h => Or.inr (by omega))
  · rw [hcl]
    have HCL := Lib.hid hcl
    clear hcl
    have cHV0 := HV.out.2.1
    go_wp2_with fail
    refine (mglistr_calls u A _ l _ HU.out HVL.out (by rw [HLL.out]; exact HLN.out)).mono ?_
    rintro e W4 ⟨vf, rfl, hvf, hB⟩
    obtain ⟨L, hLL⟩ : ∃ L, (l.map fun (x : Nat) => atI A.text 0 (x : Int)) = L := ⟨_, rfl⟩
    have hLlen : L.length = l.length := by rw [← hLL, List.length_map]
    have HSEL := Lib.hid (show A.sel (zL l) = .chars L by
      rw [VV.sel_chars HCL.out, ← hLL]
      unfold zL; rw [List.map_map]
      congr 1
      refine List.map_congr_left fun x hx => ?_
      have hxl : x < A.text.length := by rw [VV.text_len HCL.out]; exact HLT.out x hx
      show atI A.text 32 (x : Int) = _
      rw [atI_nat hxl, atI_nat hxl])
    rw [hLL, ← hLlen] at hvf
    have HVF := Lib.hid hvf
    have HLL2 := Lib.hid (show L.length ≤ 1048576 by rw [hLlen, HLL.out]; exact HLN.out)
    clear hLL hLlen hvf cHV0
    replace HV := Lib.hid (HV.out.below hB)
    replace HR := Lib.hid (HR.out.below hB)
    replace HU := Lib.hid (HU.out.grow hB)
    replace HT := Lib.hid (fun j hj => keep_below hB _ _ (HT.out j hj))
    replace HB := Lib.hid (HB.out.trans (hB.mono HB.out.size))
    replace HW1 := Lib.hid (HW1.out.trans (hB.mono HW1.out.size))
    clear hB
    go_wp2_with fail
    refine (vchars_calls _ L _ HVF.out (by have := HLL2.out; omega)).mono ?_
    rintro e W5 ⟨uq, rfl, huq, hB⟩
    have HQ := Lib.hid (show IsV W5 (fun b => w.heap.size + 1 < b) uq (.chars L) from huq.wide (fun b _ h => Nat.lt_of_lt_of_le (by have := HW1.out.size; have := HSZ.out; omega) h))
    have hsq := huq.store
    clear huq
    replace HV := Lib.hid (HV.out.below hB)
    replace HR := Lib.hid (HR.out.below hB)
    replace HU := Lib.hid (HU.out.grow hB)
    replace HT := Lib.hid (fun j hj => keep_below hB _ _ (HT.out j hj))
    replace HB := Lib.hid (HB.out.trans (hB.mono HB.out.size))
    replace HW1 := Lib.hid (HW1.out.trans (hB.mono HW1.out.size))
    clear hB
    have cHR0 := HR.out.2.1
    have zHR0 := HR.out.2.2 0
    go_wp2
    refine bodyPost_ret (v := .tuple #[.agg #[uq], .bool true]) (by simp [results, Tryz.results19, go_sem, cHR0, World.cell?_setCell_same]) rfl ⟨uq, rfl, ?_, HB.out.setCell (Nat.le_succ _) _⟩
    rw [HSEL.out]
    exact HQ.out.keep (Kept.setCell _ _ _ (by simp)) (fun b _ h => Or.inr (by omega))
end Go.Proofs.YtbdbpamefkgelaaGreatDoor

/- Layer 18: what package merge tells (the seven contracts): Sort in MgT, Cells in MgU, Grade in MgV, Ordered in MgO. -/
namespace Go.Proofs.YtbdbpamefkgelaaGreatDoor
set_option maxRecDepth 100000
end Go.Proofs.YtbdbpamefkgelaaGreatDoor

/- Layer 18's laws: awake. -/
namespace Go.Proofs.YtbdbpamefkgelaaGreatDoor
set_option maxRecDepth 100000
open Go.RowKit Fl
set_option linter.unusedVariables false

def Yes18 (w : World) (e : Ending) (w' : World) : Prop := e = .returned (.bool true) ∧ Below w.heap.size w w'
theorem aw18_num : ∀ x ∈ ([4602678819172646912, 4613937818241073152, 13830554455654793216] : List Nat), Num x := by
  intro x hx
  simp only [List.mem_cons, List.not_mem_nil, or_false] at hx
  rcases hx with rfl | rfl | rfl <;> exact ⟨⟨by decide, by decide⟩, by decide +kernel⟩
theorem aw18_ze : ([4602678819172646912, 4613937818241073152, 13830554455654793216] : List Nat).map ze = [4602678819172646912, 4613937818241073152, 13830554455654793216] := map_ze aw18_num
theorem aw18_lt : V 13830554455654793216 < V 4602678819172646912 ∧ V 4602678819172646912 < V 4613937818241073152 := by
  have f1 := (aw18_num 13830554455654793216 (by decide)).1
  have f2 := (aw18_num 4602678819172646912 (by decide)).1
  have f3 := (aw18_num 4613937818241073152 (by decide)).1
  refine ⟨?_, ?_⟩
  · rcases ord_both f1 f2 with ⟨h, _, _⟩ | ⟨_, h, _⟩ | ⟨_, h, _⟩
    · exact h
    · exact absurd h (by decide +kernel)
    · exact absurd h (by decide +kernel)
  · rcases ord_both f2 f3 with ⟨h, _, _⟩ | ⟨_, h, _⟩ | ⟨_, h, _⟩
    · exact h
    · exact absurd h (by decide +kernel)
    · exact absurd h (by decide +kernel)
noncomputable def aw18V : VV := (VV.floats [4602678819172646912, 4613937818241073152, 13830554455654793216]).sq
theorem aw18_V : (aw18V.ok ∧ aw18V.nm) ∧ aw18V.len = 3 ∧ aw18V.nums = [4602678819172646912, 4613937818241073152, 13830554455654793216] ∧ aw18V.cls = 0 ∧ aw18V.kind ≠ 0 := by
  obtain ⟨a, b, c, d, e⟩ := sq_facts (t := [4602678819172646912, 4613937818241073152, 13830554455654793216]) (by decide) aw18_num
  obtain ⟨s1, s2, s3, s4, s5, s6⟩ := VV.sq_spec (V := VV.floats [4602678819172646912, 4613937818241073152, 13830554455654793216]) (show ([4602678819172646912, 4613937818241073152, 13830554455654793216] : List Nat).length ≤ 1048576 by decide) aw18_num
  refine ⟨⟨a, b⟩, c, d, s3, fun h => ?_⟩
  have : aw18V = .none := VV.kind_cases _ h
  unfold aw18V at this
  rw [this] at c
  cases c
theorem aw18_key : keyV aw18V 0 = V 4602678819172646912 ∧ keyV aw18V 1 = V 4613937818241073152 ∧ keyV aw18V 2 = V 13830554455654793216 := by
  obtain ⟨_, b, d, e, _⟩ := aw18_V
  refine ⟨?_, ?_, ?_⟩ <;> (unfold keyV; rw [if_pos e, d]; rfl)
theorem aw18_up : mgL aw18V 1 false = [2, 0, 1] := by
  unfold mgL
  refine ((so_iff (lesK_tot _ _ _ _) (grN_gr (lesK_tot _ _ _ _))).1 ?_).symm
  obtain ⟨k0, k1, k2⟩ := aw18_key
  obtain ⟨a, b⟩ := aw18_lt
  rw [aw18_V.2.1]
  refine ⟨rfl, by decide, by decide, fun r hr => ?_⟩
  match r, hr with
  | 0, _ => exact lesK_one.2 (Or.inl (by simp only [Bool.false_eq_true, if_false]; show keyV aw18V 2 < keyV aw18V 0; rw [k2, k0]; exact a))
  | 1, _ => exact lesK_one.2 (Or.inl (by simp only [Bool.false_eq_true, if_false]; show keyV aw18V 0 < keyV aw18V 1; rw [k0, k1]; exact b))
  | r + 2, hr => omega
theorem aw18_dn : mgL aw18V 1 true = [1, 0, 2] := by
  unfold mgL
  refine ((so_iff (lesK_tot _ _ _ _) (grN_gr (lesK_tot _ _ _ _))).1 ?_).symm
  obtain ⟨k0, k1, k2⟩ := aw18_key
  obtain ⟨a, b⟩ := aw18_lt
  rw [aw18_V.2.1]
  refine ⟨rfl, by decide, by decide, fun r hr => ?_⟩
  match r, hr with
  | 0, _ => exact lesK_one.2 (Or.inl (by simp only [if_true]; show keyV aw18V 0 < keyV aw18V 1; rw [k0, k1]; exact b))
  | 1, _ => exact lesK_one.2 (Or.inl (by simp only [if_true]; show keyV aw18V 2 < keyV aw18V 0; rw [k2, k0]; exact a))
  | r + 2, hr => omega
theorem aw18_sel (l : List Int) (h : l.length = 3) : (aw18V.sel l).nums = l.map (atI [4602678819172646912, 4613937818241073152, 13830554455654793216] 0) ∧ (aw18V.sel l).ok := by
  have hN := VV.nums_num aw18_V.1.1 aw18_V.1.2
  rw [VV.sel_numbers l hN (by omega) aw18_V.2.2.2.1, aw18_V.2.2.1]
  refine ⟨rfl, ?_⟩
  have hb : aw18V.isBit = false ∨ aw18V.isBit = true := by cases aw18V.isBit <;> simp
  rcases hb with hb | hb
  · rw [VV.sel_nums aw18_V.2.2.2.1 hb]
    exact (sq_facts (by rw [List.length_map]; omega) (map_atI_num hN)).1
  · rw [VV.sel_bits hb]
    show (l.map _).length ≤ 1048576
    rw [List.length_map]; omega
theorem text_none18 {A : VV} (h : A.cls = 0) : A.text = [] := by cases A <;> first | rfl | (simp [VV.cls] at h)
theorem ordered18 {ok : Nat → Prop} (u : Value) (down : Bool) (l : List Nat) (w : World) (h : IsV w ok u aw18V) (hT : TabAt w) (hl : mgL aw18V 1 down = l) (h3 : l.length = 3) :
    Calls Tryz.prog 19 #[.agg #[u], .bool down] w fun e w' => ∃ u' B, e = .returned (.tuple #[.agg #[u'], .bool true]) ∧ IsV w' (fun _ => True) u' B ∧ B.ok ∧ B.nums = (zL l).map (atI [4602678819172646912, 4613937818241073152, 13830554455654793216] 0) ∧ Below w.heap.size w w' := by
  refine (mgordered_yes u aw18V down w h aw18_V.1 (by rw [text_none18 aw18_V.2.2.2.1]; intro z hz; cases hz) (by rw [aw18_V.2.2.2.1]; decide) aw18_V.2.2.2.2 hT).mono ?_
  rintro e w' ⟨u', h1, h2, h4⟩
  rw [hl] at h2
  have hs := aw18_sel (zL l) (by rw [zL_len]; exact h3)
  exact ⟨u', _, h1, IsV.any h2, hs.2, hs.1, h4⟩
theorem ordered18_up {ok : Nat → Prop} (u : Value) (w : World) (h : IsV w ok u aw18V) (hT : TabAt w) :
    Calls Tryz.prog 19 #[.agg #[u], .bool false] w fun e w' => ∃ u' B, e = .returned (.tuple #[.agg #[u'], .bool true]) ∧ IsV w' (fun _ => True) u' B ∧ B.ok ∧ B.nums = [13830554455654793216, 4602678819172646912, 4613937818241073152] ∧ Below w.heap.size w w' := ordered18 u false [2, 0, 1] w h hT aw18_up rfl
theorem ordered18_dn {ok : Nat → Prop} (u : Value) (w : World) (h : IsV w ok u aw18V) (hT : TabAt w) :
    Calls Tryz.prog 19 #[.agg #[u], .bool true] w fun e w' => ∃ u' B, e = .returned (.tuple #[.agg #[u'], .bool true]) ∧ IsV w' (fun _ => True) u' B ∧ B.ok ∧ B.nums = [4613937818241073152, 4602678819172646912, 13830554455654793216] ∧ Below w.heap.size w w' := ordered18 u true [1, 0, 2] w h hT aw18_dn rfl
theorem aw18_unum : ∀ x ∈ ([13830554455654793216, 4602678819172646912, 4613937818241073152] : List Nat), Num x := fun x hx => aw18_num x (by revert hx; simp only [List.mem_cons, List.not_mem_nil, or_false]; rintro (h | h | h) <;> simp [h])
theorem aw18_dnum : ∀ x ∈ ([4613937818241073152, 4602678819172646912, 13830554455654793216] : List Nat), Num x := fun x hx => aw18_num x (by revert hx; simp only [List.mem_cons, List.not_mem_nil, or_false]; rintro (h | h | h) <;> simp [h])
set_option maxHeartbeats 8000000 in
theorem awake18_calls (w : World) (hT : TabAt w) : Calls Tryz.prog 7 #[] w (Yes18 w) := by
  obtain ⟨W1, hW1⟩ : ∃ W1, W1 = w.alloc (.cells #[.float .f64 4602678819172646912, .float .f64 4613937818241073152, .float .f64 13830554455654793216] 57) := ⟨_, rfl⟩
  have HB := Lib.hid (show Below w.heap.size w W1 by rw [hW1]; exact below_new _ _)
  have HV := Lib.hid (show Slc W1 (fun _ => True) (.slice (some ⟨w.heap.size, 0, none⟩) 3 3) [4602678819172646912, 4613937818241073152, 13830554455654793216].length (f64s [4602678819172646912, 4613937818241073152, 13830554455654793216]) by
    rw [hW1]; exact (Slc.owned (World.ownsRow_lit (base := 0) (e := 57) (size := 1) w #[.float .f64 4602678819172646912, .float .f64 4613937818241073152, .float .f64 13830554455654793216] 3 (Nat.zero_le _) (by unfold maxLen; omega) rfl)).keep (Kept.refl _ _) (fun _ _ _ => trivial))
  have HT := Lib.hid (show TabAt W1 from fun j hj => keep_below HB.out _ _ (hT j hj))
  have hfold := hW1.symm
  clear hW1 hT
  go_enter Tryz.func7, Tryz.ntmps7
  go_wp2_with fail
  clear hfold
  refine (numbers_yes _ [4602678819172646912, 4613937818241073152, 13830554455654793216] _ HV.out (by decide) (fun x hx => (aw18_num x hx).1) HT.out).mono ?_
  rintro e W11 ⟨u, rfl, hu, hB⟩
  replace HB := Lib.hid (HB.out.trans (hB.mono HB.out.size))
  replace HT := Lib.hid (fun j hj => keep_below hB _ _ (HT.out j hj))
  replace HV := Lib.hid (HV.out.below hB)
  rw [aw18_ze] at hu
  have HU := Lib.hid (show IsV W11 (fun _ => True) u aw18V from IsV.any hu)
  have hsu := HU.out.store
  clear hu
  clear hB
  clear HV
  obtain ⟨W12, hWn⟩ : ∃ xw9, W11.alloc (.cells #[u] 36) = xw9 := ⟨_, rfl⟩
  have hB : Below W11.heap.size W11 W12 := by rw [← hWn]; exact below_new _ _
  have hNB : At1 W12 W11.heap.size (u) := by rw [← hWn]; exact At1.new _ _ _
  replace HB := Lib.hid (HB.out.trans (hB.mono HB.out.size))
  replace HT := Lib.hid (fun j hj => keep_below hB _ _ (HT.out j hj))
  replace HU := Lib.hid (HU.out.grow hB)
  have HA := Lib.hid hNB
  clear hNB hB
  have cHA0 := HA.out.2.1
  go_wp2_with fail
  clear hWn
  refine (ordered18_up _ _ HU.out HT.out).mono ?_
  rintro e W13 ⟨ua, Ba, rfl, hua, hoa, hna, hB⟩
  clear cHA0
  replace HB := Lib.hid (HB.out.trans (hB.mono HB.out.size))
  replace HT := Lib.hid (fun j hj => keep_below hB _ _ (HT.out j hj))
  replace HU := Lib.hid (HU.out.grow hB)
  replace HA := Lib.hid (HA.out.below hB)
  have HUa := Lib.hid hua
  have HOa := Lib.hid hoa
  have HNa := Lib.hid hna
  have hsua := hua.store
  clear hua hoa hna
  clear hB
  obtain ⟨W14, hWn⟩ : ∃ xw9, W13.alloc (.cells #[ua] 36) = xw9 := ⟨_, rfl⟩
  have hB : Below W13.heap.size W13 W14 := by rw [← hWn]; exact below_new _ _
  have hNB : At1 W14 W13.heap.size (ua) := by rw [← hWn]; exact At1.new _ _ _
  replace HB := Lib.hid (HB.out.trans (hB.mono HB.out.size))
  replace HT := Lib.hid (fun j hj => keep_below hB _ _ (HT.out j hj))
  replace HU := Lib.hid (HU.out.grow hB)
  replace HA := Lib.hid (HA.out.below hB)
  replace HUa := Lib.hid (HUa.out.grow hB)
  have HVa := Lib.hid hNB
  clear hNB hB
  have cHA0 := HA.out.2.1
  have cHVa0 := HVa.out.2.1
  go_wp2_with fail
  clear hWn
  refine (ordered18_dn _ _ HU.out HT.out).mono ?_
  rintro e W15 ⟨ub, Bb, rfl, hub, hob, hnb, hB⟩
  clear cHA0 cHVa0
  replace HB := Lib.hid (HB.out.trans (hB.mono HB.out.size))
  replace HT := Lib.hid (fun j hj => keep_below hB _ _ (HT.out j hj))
  replace HU := Lib.hid (HU.out.grow hB)
  replace HA := Lib.hid (HA.out.below hB)
  replace HUa := Lib.hid (HUa.out.grow hB)
  replace HVa := Lib.hid (HVa.out.below hB)
  have HUb := Lib.hid hub
  have HOb := Lib.hid hob
  have HNb := Lib.hid hnb
  have hsub := hub.store
  clear hub hob hnb
  clear hB
  obtain ⟨W16, hWn⟩ : ∃ xw9, W15.alloc (.cells #[ub] 36) = xw9 := ⟨_, rfl⟩
  have hB : Below W15.heap.size W15 W16 := by rw [← hWn]; exact below_new _ _
  have hNB : At1 W16 W15.heap.size (ub) := by rw [← hWn]; exact At1.new _ _ _
  replace HB := Lib.hid (HB.out.trans (hB.mono HB.out.size))
  replace HT := Lib.hid (fun j hj => keep_below hB _ _ (HT.out j hj))
  replace HU := Lib.hid (HU.out.grow hB)
  replace HA := Lib.hid (HA.out.below hB)
  replace HUa := Lib.hid (HUa.out.grow hB)
  replace HVa := Lib.hid (HVa.out.below hB)
  replace HUb := Lib.hid (HUb.out.grow hB)
  have HVb := Lib.hid hNB
  clear hNB hB
  have cHA0 := HA.out.2.1
  have cHVa0 := HVa.out.2.1
  have cHVb0 := HVb.out.2.1
  go_wp2_with fail
  clear hWn
  refine (vnums_calls _ Ba _ HUa.out HOa.out HT.out).mono ?_
  rintro e W17 ⟨va, rfl, hva, hB⟩
  clear cHA0 cHVa0 cHVb0
  replace HB := Lib.hid (HB.out.trans (hB.mono HB.out.size))
  replace HT := Lib.hid (fun j hj => keep_below hB _ _ (HT.out j hj))
  replace HU := Lib.hid (HU.out.grow hB)
  replace HA := Lib.hid (HA.out.below hB)
  replace HUa := Lib.hid (HUa.out.grow hB)
  replace HVa := Lib.hid (HVa.out.below hB)
  replace HUb := Lib.hid (HUb.out.grow hB)
  replace HVb := Lib.hid (HVb.out.below hB)
  rw [HNa.out] at hva
  have Ha := Lib.hid hva.any
  obtain ⟨aa, ca, rfl, _⟩ := hva.opened
  clear hva
  clear hB
  have cHA0 := HA.out.2.1
  have cHVa0 := HVa.out.2.1
  have cHVb0 := HVb.out.2.1
  go_wp2_with fail
  obtain ⟨W18, hWn⟩ : ∃ xw9, W17.alloc (.cells #[.float .f64 13830554455654793216, .float .f64 4602678819172646912, .float .f64 4613937818241073152] 57) = xw9 := ⟨_, rfl⟩
  have hB : Below W17.heap.size W17 W18 := by rw [← hWn]; exact below_new _ _
  have hNB : Slc W18 (fun _ => True) (.slice (some ⟨W17.heap.size, 0, none⟩) 3 3) 3 (f64s [13830554455654793216, 4602678819172646912, 4613937818241073152]) := by
    rw [← hWn]; exact (Slc.owned (World.ownsRow_lit (base := 0) (e := 57) (size := 1) W17 #[.float .f64 13830554455654793216, .float .f64 4602678819172646912, .float .f64 4613937818241073152] 3 (Nat.zero_le _) (by unfold maxLen; omega) rfl)).keep (Kept.refl _ _) (fun _ _ _ => trivial)
  rw [hWn]
  clear hWn
  clear cHA0 cHVa0 cHVb0
  replace HB := Lib.hid (HB.out.trans (hB.mono HB.out.size))
  replace HT := Lib.hid (fun j hj => keep_below hB _ _ (HT.out j hj))
  replace HU := Lib.hid (HU.out.grow hB)
  replace HA := Lib.hid (HA.out.below hB)
  replace HUa := Lib.hid (HUa.out.grow hB)
  replace HVa := Lib.hid (HVa.out.below hB)
  replace HUb := Lib.hid (HUb.out.grow hB)
  replace HVb := Lib.hid (HVb.out.below hB)
  replace Ha := Lib.hid (Ha.out.below hB)
  have HLa := Lib.hid hNB
  clear hNB hB
  refine (floats_same _ _ [13830554455654793216, 4602678819172646912, 4613937818241073152] _ Ha.out HLa.out (by decide) aw18_unum).mono ?_
  rintro e W19 ⟨rfl, hB⟩
  replace HB := Lib.hid (HB.out.trans (hB.mono HB.out.size))
  replace HT := Lib.hid (fun j hj => keep_below hB _ _ (HT.out j hj))
  replace HU := Lib.hid (HU.out.grow hB)
  replace HA := Lib.hid (HA.out.below hB)
  replace HUa := Lib.hid (HUa.out.grow hB)
  replace HVa := Lib.hid (HVa.out.below hB)
  replace HUb := Lib.hid (HUb.out.grow hB)
  replace HVb := Lib.hid (HVb.out.below hB)
  replace Ha := Lib.hid (Ha.out.below hB)
  replace HLa := Lib.hid (HLa.out.below hB)
  clear hB
  have cHA0 := HA.out.2.1
  have cHVa0 := HVa.out.2.1
  have cHVb0 := HVb.out.2.1
  go_wp2_with fail
  refine (vnums_calls _ Bb _ HUb.out HOb.out HT.out).mono ?_
  rintro e W20 ⟨vb, rfl, hvb, hB⟩
  clear cHA0 cHVa0 cHVb0
  replace HB := Lib.hid (HB.out.trans (hB.mono HB.out.size))
  replace HT := Lib.hid (fun j hj => keep_below hB _ _ (HT.out j hj))
  replace HU := Lib.hid (HU.out.grow hB)
  replace HA := Lib.hid (HA.out.below hB)
  replace HUa := Lib.hid (HUa.out.grow hB)
  replace HVa := Lib.hid (HVa.out.below hB)
  replace HUb := Lib.hid (HUb.out.grow hB)
  replace HVb := Lib.hid (HVb.out.below hB)
  replace Ha := Lib.hid (Ha.out.below hB)
  replace HLa := Lib.hid (HLa.out.below hB)
  rw [HNb.out] at hvb
  have Hb := Lib.hid hvb.any
  obtain ⟨ab, cb, rfl, _⟩ := hvb.opened
  clear hvb
  clear hB
  have cHA0 := HA.out.2.1
  have cHVa0 := HVa.out.2.1
  have cHVb0 := HVb.out.2.1
  go_wp2_with fail
  obtain ⟨W21, hWn⟩ : ∃ xw9, W20.alloc (.cells #[.float .f64 4613937818241073152, .float .f64 4602678819172646912, .float .f64 13830554455654793216] 57) = xw9 := ⟨_, rfl⟩
  have hB : Below W20.heap.size W20 W21 := by rw [← hWn]; exact below_new _ _
  have hNB : Slc W21 (fun _ => True) (.slice (some ⟨W20.heap.size, 0, none⟩) 3 3) 3 (f64s [4613937818241073152, 4602678819172646912, 13830554455654793216]) := by
    rw [← hWn]; exact (Slc.owned (World.ownsRow_lit (base := 0) (e := 57) (size := 1) W20 #[.float .f64 4613937818241073152, .float .f64 4602678819172646912, .float .f64 13830554455654793216] 3 (Nat.zero_le _) (by unfold maxLen; omega) rfl)).keep (Kept.refl _ _) (fun _ _ _ => trivial)
  rw [hWn]
  clear hWn
  clear cHA0 cHVa0 cHVb0
  replace HB := Lib.hid (HB.out.trans (hB.mono HB.out.size))
  replace HT := Lib.hid (fun j hj => keep_below hB _ _ (HT.out j hj))
  replace HU := Lib.hid (HU.out.grow hB)
  replace HA := Lib.hid (HA.out.below hB)
  replace HUa := Lib.hid (HUa.out.grow hB)
  replace HVa := Lib.hid (HVa.out.below hB)
  replace HUb := Lib.hid (HUb.out.grow hB)
  replace HVb := Lib.hid (HVb.out.below hB)
  replace Ha := Lib.hid (Ha.out.below hB)
  replace HLa := Lib.hid (HLa.out.below hB)
  replace Hb := Lib.hid (Hb.out.below hB)
  have HLb := Lib.hid hNB
  clear hNB hB
  refine (floats_same _ _ [4613937818241073152, 4602678819172646912, 13830554455654793216] _ Hb.out HLb.out (by decide) aw18_dnum).mono ?_
  rintro e W22 ⟨rfl, hB⟩
  replace HB := Lib.hid (HB.out.trans (hB.mono HB.out.size))
  replace HT := Lib.hid (fun j hj => keep_below hB _ _ (HT.out j hj))
  replace HU := Lib.hid (HU.out.grow hB)
  replace HA := Lib.hid (HA.out.below hB)
  replace HUa := Lib.hid (HUa.out.grow hB)
  replace HVa := Lib.hid (HVa.out.below hB)
  replace HUb := Lib.hid (HUb.out.grow hB)
  replace HVb := Lib.hid (HVb.out.below hB)
  replace Ha := Lib.hid (Ha.out.below hB)
  replace HLa := Lib.hid (HLa.out.below hB)
  replace Hb := Lib.hid (Hb.out.below hB)
  replace HLb := Lib.hid (HLb.out.below hB)
  clear hB
  have cHA0 := HA.out.2.1
  have cHVa0 := HVa.out.2.1
  have cHVb0 := HVb.out.2.1
  go_wp2_with fail
  go_ret
  exact ⟨rfl, HB.out⟩
end Go.Proofs.YtbdbpamefkgelaaGreatDoor

/- Layer 18, plain: what is in order once more, and backwards, is alike. -/
namespace Go.Proofs.YtbdbpamefkgelaaGreatDoor
set_option maxRecDepth 100000
open Go.RowKit Fl
set_option linter.unusedVariables false

theorem text_noneQ {A : VV} (h : A.cls ≠ 1) : A.text = [] := by cases A <;> first | rfl | exact absurd rfl h
theorem key_alike {B D : VV} {i k : Nat} (hB : ∀ x ∈ B.nums, Num x) (hD : ∀ x ∈ D.nums, Num x) (hc : B.cls = D.cls) (h2 : B.cls < 2) (h : keyV B i = keyV D k) (t : List Int × VV → PA) : iq (itA t B i) (itA t D k) = true := by
  unfold keyV at h
  rw [← hc] at h
  rcases VV.cls_cases B with c | c | c
  · rw [if_pos c, if_pos c] at h
    have e : atI B.nums 0 (i : Int) = atI D.nums 0 (k : Int) := V_inj (atI_num hB) (atI_num hD) h
    have := iq_num (t := t) (i := i) (k := k) c (hc ▸ c)
    rw [this, e]; simp
  · rw [if_neg (by omega), if_neg (by omega)] at h
    have := iq_char (t := t) (i := i) (k := k) c (hc ▸ c)
    rw [this, h]; simp
  · omega
theorem sel_text {A : VV} (h : ∀ z ∈ A.text, -2147483648 ≤ z ∧ z ≤ 2147483647) (l : List Int) (hs : A.cls ≠ 1 → (A.sel l).cls ≠ 1) : ∀ z ∈ (A.sel l).text, -2147483648 ≤ z ∧ z ≤ 2147483647 := by
  intro z hz
  by_cases c : A.cls = 1
  · rw [VV.sel_chars c] at hz
    have e : (VV.chars (l.map (atI A.text 32))).text = l.map (atI A.text 32) := rfl
    rw [e] at hz
    obtain ⟨i, _, rfl⟩ := List.mem_map.1 hz
    by_cases hin : 0 ≤ i ∧ i < (A.text.length : Int)
    · obtain ⟨k, rfl⟩ := Int.eq_ofNat_of_zero_le hin.1
      rw [atI_nat (by omega)]
      exact h _ (List.getElem_mem _)
    · rw [atI_neg hin]; exact ⟨by decide, by decide⟩
  · rw [text_noneQ (hs c)] at hz; cases hz
theorem once_up {A B : VV} (hA : A.ok ∧ A.nm) (hc : A.cls < 2) (hB : A.sel (zL (mgL A 1 false)) = B) (hbo : B.ok ∧ B.nm) (hbl : B.len = A.len) (hbc : B.cls < 2) {i : Nat} (hi : i < A.len) : keyV (B.sel (zL (mgL B 1 false))) i = keyV B i := by
  have hs := sel_sorted hA.1 hA.2 hc
  rw [hB] at hs
  have hg : mgL B 1 false = List.range A.len := by
    unfold mgL; rw [Nat.div_one, hbl]; exact grN_id hs
  rw [sel_key hbo.1 hbo.2 hbc (g := mgL B 1 false) (by rw [hg, hbl]; intro x hx; exact List.mem_range.1 hx) (by rw [hg, List.length_range]; exact VV.ok_len hA.1) (by rw [hg, List.length_range]; exact hi), hg, List.getD_eq_getElem?_getD, List.getElem?_range hi]
  rfl
theorem once_dn {A B : VV} (hA : A.ok ∧ A.nm) (hc : A.cls < 2) (hB : A.sel (zL (mgL A 1 false)) = B) (hbo : B.ok ∧ B.nm) (hbl : B.len = A.len) (hbc : B.cls < 2) {i : Nat} (hi : i < A.len) : keyV (B.sel (zL (mgL B 1 true))) (A.len - 1 - i) = keyV B i := by
  have hs := sel_sorted hA.1 hA.2 hc
  rw [hB] at hs
  have e : mgL B 1 true = grN A.len (lesK (keyV B) 1 true) A.len := by unfold mgL; rw [Nat.div_one, hbl]
  have hl : (mgL B 1 true).length = A.len := by rw [e, grN_len]
  rw [sel_key hbo.1 hbo.2 hbc (g := mgL B 1 true) (by rw [e, hbl]; exact grN_mem) (by rw [hl]; exact VV.ok_len hA.1) (by rw [hl]; omega), e]
  exact grN_back hs hi
end Go.Proofs.YtbdbpamefkgelaaGreatDoor

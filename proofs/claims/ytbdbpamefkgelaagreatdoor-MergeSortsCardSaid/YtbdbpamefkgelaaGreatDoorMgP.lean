/- Layer 18, plain: elements in order, in order once more, and backwards. -/
import Derived.Test.YtbdbpamefkgelaaGreatDoorRxG
import Derived.Test.YtbdbpamefkgelaaGreatDoorFlM
namespace Go.Proofs.YtbdbpamefkgelaaGreatDoor
set_option maxRecDepth 100000
open Go.RowKit Fl
set_option linter.unusedVariables false

/-- What Grade and Cells tell of cells. -/
noncomputable def mgL (A : VV) (size : Nat) (down : Bool) : List Nat := grN (A.len / size) (lesK (keyV A) size down) (A.len / size)
theorem mgL_len (A : VV) (size : Nat) (down : Bool) : (mgL A size down).length = A.len / size := grN_len _ _ _
theorem so_pair {n : Nat} {lt : Nat → Nat → Bool} (h : TotO n lt) {a : List Nat} (ha : IsSo n lt a) : a.Pairwise (fun x y => lt x y = true) := by
  rw [List.pairwise_iff_getElem]
  intro i j hi hj hij
  have e1 : a.getD i 0 = a[i] := by rw [List.getD_eq_getElem?_getD, List.getElem?_eq_getElem hi]; rfl
  have e2 : a.getD j 0 = a[j] := by rw [List.getD_eq_getElem?_getD, List.getElem?_eq_getElem hj]; rfl
  have r1 := so_rank h ha i (by rw [← ha.1]; exact hi)
  have r2 := so_rank h ha j (by rw [← ha.1]; exact hj)
  rw [e1] at r1
  rw [e2] at r2
  refine (rkO_iff h (ha.2.1 _ (List.getElem_mem hi)) (ha.2.1 _ (List.getElem_mem hj))).2 ?_
  rw [r1, r2]; exact hij
theorem so_perm {n : Nat} {lt : Nat → Nat → Bool} {a : List Nat} (ha : IsSo n lt a) : a.Perm (List.range n) :=
  (List.perm_ext_iff_of_nodup ha.2.2.1 List.nodup_range).2 fun x => ⟨fun hx => List.mem_range.2 (ha.2.1 x hx), fun hx => full_of ha.2.2.1 ha.1 ha.2.1 x (List.mem_range.1 hx)⟩
theorem grN_so (n : Nat) (K : Nat → Int) (size : Nat) (down : Bool) : IsSo n (lesK K size down) (grN n (lesK K size down) n) := gr_so (lesK_tot _ _ _ _) (grN_gr (lesK_tot _ _ _ _))
theorem grN_mem {n : Nat} {K : Nat → Int} {size : Nat} {down : Bool} : ∀ x ∈ grN n (lesK K size down) n, x < n := (grN_so n K size down).2.1
/-- What is in order stays. -/
theorem grN_id {n : Nat} {K : Nat → Int} (hK : ∀ i j, i ≤ j → j < n → K i ≤ K j) : grN n (lesK K 1 false) n = List.range n := by
  refine ((so_iff (lesK_tot _ _ _ _) (grN_gr (lesK_tot _ _ _ _))).1 ⟨List.length_range, fun x hx => List.mem_range.1 hx, List.nodup_range, fun r hr => ?_⟩).symm
  have e1 : (List.range n).getD r 0 = r := by rw [List.getD_eq_getElem?_getD, List.getElem?_range (by omega)]; rfl
  have e2 : (List.range n).getD (r + 1) 0 = r + 1 := by rw [List.getD_eq_getElem?_getD, List.getElem?_range hr]; rfl
  rw [e1, e2, lesK_one]
  simp only [Bool.false_eq_true, if_false]
  have := hK r (r + 1) (by omega) hr
  omega
theorem sorted_one {a b : List Int} (h : a.Perm b) (sa : a.Pairwise (· ≤ ·)) (sb : b.Pairwise (· ≤ ·)) : a = b := by
  induction a generalizing b with
  | nil => exact (List.nil_perm.1 h).symm
  | cons x a ih =>
    cases b with
    | nil => exact absurd h (by simp)
    | cons y b =>
      have hxy : x = y := by
        have h1 : x ∈ y :: b := h.mem_iff.1 (List.mem_cons_self ..)
        have h2 : y ∈ x :: a := h.mem_iff.2 (List.mem_cons_self ..)
        rw [List.pairwise_cons] at sa sb
        rcases List.mem_cons.1 h1 with e | e
        · exact e
        · rcases List.mem_cons.1 h2 with f | f
          · exact f.symm
          · have := sa.1 y f; have := sb.1 x e; omega
      subst hxy
      rw [List.pairwise_cons] at sa sb
      rw [ih ((List.perm_cons x).1 h) sa.2 sb.2]
/-- Downwards is upwards backwards, as far as keys tell. -/
theorem grN_back {n : Nat} {K : Nat → Int} (hK : ∀ i j, i ≤ j → j < n → K i ≤ K j) {i : Nat} (hi : i < n) : K ((grN n (lesK K 1 true) n).getD (n - 1 - i) 0) = K i := by
  have hs := grN_so n K 1 true
  obtain ⟨g, hg⟩ : ∃ g, grN n (lesK K 1 true) n = g := ⟨_, rfl⟩
  rw [hg] at hs ⊢
  have hp := so_pair (lesK_tot K 1 true n) hs
  have e : (g.map K).reverse = (List.range n).map K := by
    refine sorted_one ((List.reverse_perm _).trans ((so_perm hs).map K)) ?_ ?_
    · rw [List.pairwise_reverse, List.pairwise_map]
      refine hp.imp fun {x y} h => ?_
      rw [lesK_one] at h
      simp only [if_true] at h
      omega
    · rw [List.pairwise_map]
      refine List.Pairwise.imp_of_mem (fun {x y} hx hy h => ?_) (range_pair n)
      exact hK x y (by omega) (List.mem_range.1 hy)
  have h1 : ((g.map K).reverse)[i]? = some (K i) := by rw [e, List.getElem?_map, List.getElem?_range hi]; rfl
  rw [List.getElem?_reverse (by rw [List.length_map, hs.1]; exact hi), List.length_map, hs.1, List.getElem?_map] at h1
  obtain ⟨x, hx, hy⟩ := Option.map_eq_some_iff.1 h1
  rw [List.getD_eq_getElem?_getD, hx]; exact hy
/-- The keys of elements picked. -/
theorem sel_key {A : VV} (hok : A.ok) (hn : A.nm) (hc : A.cls < 2) {g : List Nat} (hg : ∀ x ∈ g, x < A.len) (hm : g.length ≤ 1048576) {i : Nat} (hi : i < g.length) : keyV (A.sel (zL g)) i = keyV A (g.getD i 0) := by
  have hN := VV.nums_num hok hn
  have hz : (zL g)[i]? = some ((g[i] : Nat) : Int) := by unfold zL; rw [List.getElem?_map, List.getElem?_eq_getElem hi]; rfl
  have hd : g.getD i 0 = g[i] := by rw [List.getD_eq_getElem?_getD, List.getElem?_eq_getElem hi]; rfl
  have hcl := VV.sel_cls A (zL g) hN (by rw [zL_len]; exact hm)
  rw [hd]
  rcases VV.cls_cases A with c | c | c
  · unfold keyV
    rw [hcl, if_pos c, if_pos c, VV.sel_numbers (zL g) hN (by rw [zL_len]; exact hm) c]
    congr 1
    exact atI_some (by rw [List.getElem?_map, hz]; rfl)
  · unfold keyV
    rw [hcl, if_neg (by omega), if_neg (by omega), VV.sel_chars c]
    have hl : g[i] < A.text.length := by rw [VV.text_len c]; exact hg _ (List.getElem_mem hi)
    have e : ((zL g).map (atI A.text 32))[i]? = some (A.text[g[i]]) := by rw [List.getElem?_map, hz]; exact congrArg some (atI_nat hl)
    have e2 : (VV.chars ((zL g).map (atI A.text 32))).text = (zL g).map (atI A.text 32) := rfl
    rw [e2, atI_some e, atI_nat hl]
  · omega
/-- Elements in order: their keys rise. -/
theorem sel_sorted {A : VV} (hok : A.ok) (hn : A.nm) (hc : A.cls < 2) : ∀ i j, i ≤ j → j < A.len → keyV (A.sel (zL (mgL A 1 false))) i ≤ keyV (A.sel (zL (mgL A 1 false))) j := by
  intro i j hij hj
  have hl : (mgL A 1 false).length = A.len := by rw [mgL_len, Nat.div_one]
  have hs := grN_so (A.len / 1) (keyV A) 1 false
  have hb : ∀ x ∈ mgL A 1 false, x < A.len := fun x hx => by have := hs.2.1 x hx; rwa [Nat.div_one] at this
  have hm : (mgL A 1 false).length ≤ 1048576 := by rw [hl]; exact VV.ok_len hok
  rw [sel_key hok hn hc hb hm (by omega), sel_key hok hn hc hb hm (by omega)]
  by_cases e : i = j
  · subst e; exact Int.le_refl _
  · have hp := List.pairwise_iff_getElem.1 (so_pair (lesK_tot (keyV A) 1 false _) hs) i j (by unfold mgL at hl; omega) (by unfold mgL at hl; omega) (by omega)
    rw [lesK_one] at hp
    simp only [Bool.false_eq_true, if_false] at hp
    have e1 : (mgL A 1 false).getD i 0 = (mgL A 1 false)[i]'(by omega) := by rw [List.getD_eq_getElem?_getD, List.getElem?_eq_getElem (by omega)]; rfl
    have e2 : (mgL A 1 false).getD j 0 = (mgL A 1 false)[j]'(by omega) := by rw [List.getD_eq_getElem?_getD, List.getElem?_eq_getElem (by omega)]; rfl
    rw [e1, e2]
    unfold mgL
    omega
end Go.Proofs.YtbdbpamefkgelaaGreatDoor

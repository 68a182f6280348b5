/- Layer 16, plain: the one list made place by place; how often numbers come up; the example. -/
import Derived.Test.YtbdhibcbpgjbmaaGreatDoorOrQ
import Derived.Test.YtbdhibcbpgjbmaaGreatDoorOrB
import Derived.Test.YtbdhibcbpgjbmaaGreatDoorPiN
namespace Go.Proofs.YtbdhibcbpgjbmaaGreatDoor
set_option maxRecDepth 100000
open Go.RowKit Fl
set_option linter.unusedVariables false

/-- How many of the first k are ahead. -/
def rkU (lt : Nat → Nat → Bool) (i k : Nat) : Nat := ((List.range k).filter (fun m => lt m i)).length
theorem rkU_succ (lt : Nat → Nat → Bool) (i k : Nat) : rkU lt i (k + 1) = if lt k i = true then rkU lt i k + 1 else rkU lt i k := by
 unfold rkU
 rw [List.range_succ, List.filter_append]
 by_cases h : lt k i = true
 ·rw [if_pos h, List.filter_cons_of_pos (p := fun m => lt m i) h]; simp
 ·rw [if_neg h, List.filter_cons_of_neg (p := fun m => lt m i) h]; simp
theorem rkU_le (lt : Nat → Nat → Bool) (i k : Nat) : rkU lt i k ≤ k := by
 have := List.length_filter_le (fun m => lt m i) (List.range k)
 rwa [List.length_range] at this
theorem rkU_all (n : Nat) (lt : Nat → Nat → Bool) (i : Nat) : rkU lt i n = rkO n lt i := rfl
/-- The list in the making. -/
def grN (n : Nat) (lt : Nat → Nat → Bool) : Nat → List Nat
 | 0 => List.replicate n 0
 | i + 1 => (grN n lt i).set (rkO n lt i) i
theorem grN_len (n : Nat) (lt : Nat → Nat → Bool) : ∀ i, (grN n lt i).length = n
 | 0 => by simp [grN]
 | i + 1 => by simp only [grN, List.length_set]; exact grN_len n lt i
theorem grN_at {n : Nat} {lt : Nat → Nat → Bool} (h : TotO n lt) : ∀ i, i ≤ n → ∀ m, m < i → (grN n lt i)[rkO n lt m]? = some m := by
 intro i
 induction i with
 | zero => intro _ m hm; exact absurd hm (Nat.not_lt_zero _)
 | succ i ih =>
  intro hi m hm
  simp only [grN]
  by_cases e : rkO n lt i = rkO n lt m
  ·have : i = m := rkO_inj h (by omega) (by omega) e
   subst this
   rw [List.getElem?_set, if_pos rfl, if_pos (by rw [grN_len]; exact rkO_bd h (by omega))]
  ·rw [List.getElem?_set, if_neg e]
   exact ih (by omega) m (by
    have : m ≠ i := fun e2 => e (by rw [e2])
    omega)
theorem grN_gr {n : Nat} {lt : Nat → Nat → Bool} (h : TotO n lt) : IsGr n lt (grN n lt n) := ⟨grN_len _ _ _, fun i hi => grN_at h n (Nat.le_refl _) i hi⟩
/-- The list as ints. -/
def zL (l : List Nat) : List Int := l.map (fun p : Nat => (p : Int))
theorem zL_set (l : List Nat) (k x : Nat) : (zL l).set k (x : Int) = zL (l.set k x) := by unfold zL; rw [List.map_set]
theorem zL_len (l : List Nat) : (zL l).length = l.length := by simp [zL]
theorem zL_rep (n : Nat) : zL (List.replicate n 0) = List.replicate n 0 := by simp [zL]

/-- How many of a list lie below n. -/
def inB (l : List Int) (n : Nat) : Nat := (l.filter (fun x : Int => decide (0 ≤ x ∧ x < (n : Int)))).length
theorem inB_succ (l : List Int) (n : Nat) : inB l (n + 1) = inB l n + l.count (n : Int) := by
 unfold inB
 induction l with
 | nil => rfl
 | cons x l ih =>
  rw [List.count_cons]
  by_cases h1 : 0 ≤ x ∧ x < n
  ·rw [List.filter_cons_of_pos (by simp; omega), List.filter_cons_of_pos (by simp; omega), if_neg (by simp; omega)]
   simp only [List.length_cons]; omega
  ·by_cases h2 : x = n
   ·rw [List.filter_cons_of_pos (by simp; omega), List.filter_cons_of_neg (by simp; omega), if_pos (by simp; exact h2)]
    simp only [List.length_cons]; omega
   ·rw [List.filter_cons_of_neg (by simp; omega), List.filter_cons_of_neg (by simp; omega), if_neg (by simpa using h2)]
    omega
theorem inB_zero (l : List Int) : inB l 0 = 0 := by
 unfold inB
 rw [List.filter_eq_nil_iff.2 (fun x hx => by simp)]
 rfl
theorem inB_all {l : List Int} : ∀ n : Nat, (∀ i : Nat, i < n → l.count (i : Int) = 1) → inB l n = n
 | 0, _ => inB_zero l
 | n + 1, h => by rw [inB_succ, inB_all n (fun i hi => h i (by omega)), h n (by omega)]
/-- Each number below its length comes up once: then it is all of them, none twice. -/
theorem once_ok {l : List Int} (h : ∀ i : Nat, i < l.length → l.count (i : Int) = 1) : okP l.length l := by
 have h1 := inB_all l.length h
 have h2 : ∀ x ∈ l, 0 ≤ x ∧ x < l.length := by
  have := List.filter_sublist (p := fun x => decide (0 ≤ x ∧ x < (l.length : Int))) (l := l)
  have e := this.eq_of_length h1
  intro x hx
  rw [← e] at hx
  simpa using (List.mem_filter.1 hx).2
 refine ⟨h2, List.nodup_iff_count.2 fun x => ?_⟩
 by_cases hx : x ∈ l
 ·have := h2 x hx
  have h3 := h x.toNat (by omega)
  rw [show ((x.toNat : Nat) : Int) = x by omega] at h3
  omega
 ·rw [List.count_eq_zero.2 hx]; omega
theorem ok_once {l : List Int} (h : okP l.length l) (i : Nat) (hi : i < l.length) : l.count (i : Int) = 1 := by
 have h1 := List.nodup_iff_count.1 h.2 (i : Int)
 have h2 : (i : Int) ∈ l := by
  have hf := full_of (n := l.length) (l := l.map Int.toNat) (by
   rw [List.nodup_iff_pairwise_ne, List.pairwise_map]
   refine List.Pairwise.imp_of_mem (fun ha hb hne e => ?_) (List.nodup_iff_pairwise_ne.1 h.2)
   have := h.1 _ ha; have := h.1 _ hb
   exact hne (by omega)) (by simp) (fun x hx => by
    obtain ⟨y, hy, rfl⟩ := List.mem_map.1 hx
    have := h.1 y hy; omega) i hi
  obtain ⟨y, hy, e⟩ := List.mem_map.1 hf
  have := h.1 y hy
  rw [show (i : Int) = y by omega]; exact hy
 have := List.count_pos_iff.2 h2
 omega
theorem count_take {l : List Int} {k : Nat} {x : Int} (h : l[k]? = some x) (i : Int) : (l.take (k + 1)).count i = if x = i then (l.take k).count i + 1 else (l.take k).count i := by
 rw [takeO_step h, List.count_append, List.count_singleton]
 by_cases e : x = i
 ·subst e; simp
 ·rw [if_neg e, if_neg (by simpa using e)]; omega

/-- The example's numbers: 3, 1, 2. -/
theorem aw16_wh : Wh 4613937818241073152 3 ∧ Wh 4607182418800017408 1 ∧ Wh 4611686018427387904 2 := ⟨wh_ofInt (by decide) (by decide +kernel), wh_ofInt (by decide) (by decide +kernel), wh_ofInt (by decide) (by decide +kernel)⟩
theorem aw16_num : ∀ x ∈ ([4613937818241073152, 4607182418800017408, 4611686018427387904] : List Nat), Num x := by
 intro x hx
 simp only [List.mem_cons, List.not_mem_nil, or_false] at hx
 rcases hx with rfl | rfl | rfl <;> exact ⟨⟨by decide, by decide⟩, by decide +kernel⟩
theorem aw16_ze : ([4613937818241073152, 4607182418800017408, 4611686018427387904] : List Nat).map ze = [4613937818241073152, 4607182418800017408, 4611686018427387904] := map_ze aw16_num
noncomputable def aw16V : VV := (VV.floats [4613937818241073152, 4607182418800017408, 4611686018427387904]).sq
theorem aw16_V : aw16V.ok ∧ aw16V.nm ∧ aw16V.len = 3 ∧ aw16V.nums = [4613937818241073152, 4607182418800017408, 4611686018427387904] ∧ aw16V.cls = 0 := by
 obtain ⟨a, b, c, d, e⟩ := sq_facts (t := [4613937818241073152, 4607182418800017408, 4611686018427387904]) (by decide) aw16_num
 obtain ⟨s1, s2, s3, s4, s5, s6⟩ := VV.sq_spec (V := VV.floats [4613937818241073152, 4607182418800017408, 4611686018427387904]) (show ([4613937818241073152, 4607182418800017408, 4611686018427387904] : List Nat).length ≤ 1048576 by decide) aw16_num
 exact ⟨a, b, c, d, s3⟩
theorem aw16_key : keyV aw16V 1 < keyV aw16V 2 ∧ keyV aw16V 2 < keyV aw16V 0 := by
 obtain ⟨a, b, c, d, e⟩ := aw16_V
 have hp : (0 : Int) < pw 1074 := by exact_mod_cast pw_pos 1074
 have h0 : keyV aw16V 0 = V 4613937818241073152 := by unfold keyV; rw [if_pos e, d]; rfl
 have h1 : keyV aw16V 1 = V 4607182418800017408 := by unfold keyV; rw [if_pos e, d]; rfl
 have h2 : keyV aw16V 2 = V 4611686018427387904 := by unfold keyV; rw [if_pos e, d]; rfl
 rw [h0, h1, h2, aw16_wh.1.2.2, aw16_wh.2.1.2.2, aw16_wh.2.2.2.2]
 exact ⟨Int.mul_lt_mul_of_pos_right (by decide) hp, Int.mul_lt_mul_of_pos_right (by decide) hp⟩
theorem lesK_up {K : Nat → Int} {i k : Nat} (h : K i < K k) : lesK K 1 false i k = true := by
 have : cmpK K 1 i k = -1 := cmpK_lt (j := 0) (by omega) (fun m hm => absurd hm (Nat.not_lt_zero _)) (by simpa using h)
 unfold lesK; rw [this]; rfl
theorem lesK_dn {K : Nat → Int} {i k : Nat} (h : K k < K i) : lesK K 1 false i k = false := by
 have : cmpK K 1 i k = 1 := cmpK_gt (j := 0) (by omega) (fun m hm => absurd hm (Nat.not_lt_zero _)) (by simpa using h)
 unfold lesK; rw [this]; rfl
theorem aw16_inv : okP 3 [1, 2, 0] ∧ invL [1, 2, 0] = [2, 0, 1] := ⟨⟨by decide, by decide⟩, by decide⟩
end Go.Proofs.YtbdhibcbpgjbmaaGreatDoor

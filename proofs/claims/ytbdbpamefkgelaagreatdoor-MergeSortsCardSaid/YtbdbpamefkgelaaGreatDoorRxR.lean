/- Layer 17, plain: the keys of a vector have the order of its elements; truths in order. -/
import Derived.Test.YtbdbpamefkgelaaGreatDoorRxK
import Derived.Test.YtbdbpamefkgelaaGreatDoorRxE
import Derived.Test.YtbdbpamefkgelaaGreatDoorPiN
namespace Go.Proofs.YtbdbpamefkgelaaGreatDoor
set_option maxRecDepth 100000
open Go.RowKit Fl
set_option linter.unusedVariables false

/-- Has a vector keys? -/
def VV.keyB (A : VV) : Bool := decide (A.kind = 5) || A.isWh
def keysV (A : VV) : List Nat := if A.kind = 5 then A.text.map kR else A.whs.map kI
theorem pw_two {k : Nat} (h : 1 ≤ k) : 2 ≤ pw k := by
  unfold pw
  have : 2 ^ 1 ≤ 2 ^ k := Nat.pow_le_pow_right (by decide) h
  omega
theorem pw_posI : (0 : Int) < pw 1074 := by exact_mod_cast pw_pos 1074
theorem whs_at {A : VV} (hok : A.ok) (hn : A.nm) (h : A.isWh = true) {i : Nat} (hi : i < A.len) : ∃ z, A.whs[i]? = some z ∧ keyV A i = z * pw 1074 ∧ z.natAbs ≤ 9007199254740992 := by
  obtain ⟨h1, h2, h3⟩ := VV.wh_nums hok hn h
  have hl : A.nums.length = A.len := by cases A <;> first | (simp [VV.nums, VV.len]; done) | cases h
  have hc : A.cls = 0 := by cases A <;> first | rfl | cases h
  have hx : A.nums[i]? = some (A.nums[i]'(by omega)) := List.getElem?_eq_getElem (by omega)
  obtain ⟨n, hw⟩ := h2 _ (List.getElem_mem (show i < A.nums.length by omega))
  refine ⟨n, ?_, ?_, hw.2.1⟩
  · rw [h1, List.getElem?_map, hx]; exact congrArg some (wnOf_wh hw)
  · unfold keyV
    rw [if_pos hc, atI_some hx]; exact hw.2.2
theorem text_at {A : VV} (h : A.kind = 5) {i : Nat} (hi : i < A.len) : ∃ z, A.text[i]? = some z ∧ keyV A i = z := by
  cases A with
  | chars l =>
    have hx : l[i]? = some (l[i]'hi) := List.getElem?_eq_getElem hi
    refine ⟨_, hx, ?_⟩
    unfold keyV
    rw [if_neg (show ¬ (VV.chars l).cls = 0 by simp [VV.cls])]
    exact atI_some (l := l) hx
  | _ => simp [VV.kind] at h
theorem keysV_at {A : VV} (hok : A.ok) (hn : A.nm) (hk : A.keyB = true) {i : Nat} (hi : i < A.len) : ∃ z c : Int, 0 < c ∧ keyV A i = z * c ∧ (c = 1 ↔ A.kind = 5) ∧ (c = 1 ∨ c = pw 1074) ∧ (keysV A)[i]? = some (if A.kind = 5 then kR z else kI z) ∧ (A.kind = 5 → A.text[i]? = some z) ∧ (A.kind ≠ 5 → z.natAbs ≤ 9007199254740992) := by
  by_cases h : A.kind = 5
  · obtain ⟨z, h1, h2⟩ := text_at h hi
    refine ⟨z, 1, by decide, by rw [h2]; omega, ⟨fun _ => h, fun _ => rfl⟩, Or.inl rfl, ?_, fun _ => h1, fun h3 => absurd h h3⟩
    unfold keysV; rw [if_pos h, if_pos h, List.getElem?_map, h1]; rfl
  · have hw : A.isWh = true := by unfold VV.keyB at hk; rw [decide_eq_false h, Bool.false_or] at hk; exact hk
    obtain ⟨z, h1, h2, h3⟩ := whs_at hok hn hw hi
    have hp1 : ¬ ((pw 1074 : Nat) : Int) = 1 := by
      have := pw_two (show 1 ≤ 1074 by decide)
      omega
    refine ⟨z, pw 1074, pw_posI, h2, ⟨fun e => absurd e hp1, fun e => absurd e h⟩, Or.inr rfl, ?_, fun e => absurd e h, fun _ => h3⟩
    unfold keysV; rw [if_neg h, if_neg h, List.getElem?_map, h1]; rfl
theorem keysV_len {A : VV} (hk : A.keyB = true) : (keysV A).length = A.len := by
  unfold keysV
  cases A <;> first | (simp [VV.kind, VV.whs, VV.text, VV.len]; done) | (simp [VV.keyB, VV.kind, VV.isWh] at hk)
theorem keysV_lt {A : VV} (hok : A.ok) (hn : A.nm) (ht : ∀ z ∈ A.text, -2147483648 ≤ z ∧ z ≤ 2147483647) : ∀ x ∈ keysV A, x < 18446744073709551616 := by
  intro x hx
  unfold keysV at hx
  split at hx
  · obtain ⟨z, hz, rfl⟩ := List.mem_map.1 hx
    have := kR_lt (ht z hz).1 (ht z hz).2; omega
  · obtain ⟨z, hz, rfl⟩ := List.mem_map.1 hx
    by_cases hw : A.isWh = true
    · have := (VV.wh_nums hok hn hw).2.2 z hz
      exact kI_lt (by omega) (by omega)
    · cases A <;> first | (exact absurd rfl hw) | (simp [VV.whs] at hz)
theorem keysV_ord {A : VV} (hok : A.ok) (hn : A.nm) (hk : A.keyB = true) (ht : ∀ z ∈ A.text, -2147483648 ≤ z ∧ z ≤ 2147483647) {i k : Nat} (hi : i < A.len) (hkl : k < A.len) : (keysV A).getD i 0 < (keysV A).getD k 0 ↔ keyV A i < keyV A k := by
  obtain ⟨z1, c1, p1, e1, q1, r1, g1, t1, w1⟩ := keysV_at hok hn hk hi
  obtain ⟨z2, c2, p2, e2, q2, r2, g2, t2, w2⟩ := keysV_at hok hn hk hkl
  have hc : c1 = c2 := by
    by_cases h : A.kind = 5
    · rw [q1.2 h, q2.2 h]
    · rcases r1 with r | r
      · exact absurd (q1.1 r) h
      · rcases r2 with s | s
        · exact absurd (q2.1 s) h
        · rw [r, s]
  subst hc
  rw [List.getD_eq_getElem?_getD, List.getD_eq_getElem?_getD, g1, g2, e1, e2]
  simp only [Option.getD_some]
  have hm : z1 * c1 < z2 * c1 ↔ z1 < z2 := ⟨fun h => Int.lt_of_mul_lt_mul_right h (Int.le_of_lt p1), fun h => Int.mul_lt_mul_of_pos_right h p1⟩
  rw [hm]
  by_cases h : A.kind = 5
  · rw [if_pos h, if_pos h]
    have a1 := ht z1 (List.mem_of_getElem? (t1 h))
    have a2 := ht z2 (List.mem_of_getElem? (t2 h))
    unfold kR; omega
  · rw [if_neg h, if_neg h]
    have a1 := w1 h
    have a2 := w2 h
    unfold kI; omega
theorem bits_key {l : List Bool} (hl : l.length ≤ 1048576) {i : Nat} (hi : i < l.length) : keyV (.bits l) i = if sq l i = true then ((pw 1074 : Nat) : Int) else 0 := by
  obtain ⟨z, h1, h2, _⟩ := whs_at (A := .bits l) hl trivial rfl hi
  rw [h2]
  have hb : l[i]? = some l[i] := List.getElem?_eq_getElem hi
  have e : (l.map flagZ)[i]? = some z := h1
  rw [List.getElem?_map, hb] at e
  have e2 : flagZ l[i] = z := Option.some.inj e
  have e3 : sq l i = l[i] := by simp [sq, hb]
  rw [e3, ← e2]
  unfold flagZ
  cases l[i] <;> simp
theorem bits_so {l : List Bool} (hl : l.length ≤ 1048576) (down : Bool) : IsSo l.length (lesK (keyV (.bits l)) 1 down) (bsL l down) := by
  refine pair_so (bsL_perm l down) ?_
  have hp := pw_posI
  unfold bsL
  rw [List.pairwise_append]
  have same : ∀ (F : Nat → Bool), (∀ x y, F x = true → F y = true → sq l x = sq l y) → ((List.range l.length).filter F).Pairwise (fun x y => lesK (keyV (.bits l)) 1 down x y = true) := by
    intro F hF
    refine List.Pairwise.imp_of_mem (fun {x y} hx hy hxy => ?_) ((range_pair l.length).filter F)
    obtain ⟨x1, x2⟩ := List.mem_filter.1 hx
    obtain ⟨y1, y2⟩ := List.mem_filter.1 hy
    rw [lesK_one, bits_key hl (List.mem_range.1 x1), bits_key hl (List.mem_range.1 y1), hF x y x2 y2]
    exact Or.inr ⟨rfl, hxy⟩
  refine ⟨same _ (fun x y h1 h2 => by rw [eq_of_beq h1, eq_of_beq h2]), same _ (fun x y h1 h2 => by
    revert h1 h2
    cases sq l x <;> cases sq l y <;> cases down <;> simp), fun x hx y hy => ?_⟩
  obtain ⟨x1, x2⟩ := List.mem_filter.1 hx
  obtain ⟨y1, y2⟩ := List.mem_filter.1 hy
  rw [lesK_one, bits_key hl (List.mem_range.1 x1), bits_key hl (List.mem_range.1 y1)]
  revert x2 y2
  cases sq l x <;> cases sq l y <;> cases down <;> simp <;> omega
/-- Passes, one behind the other, each begun at the lowest bit in which keys still differ. -/
def PassIs (keys : List Nat) (down : Bool) (sh : Nat) (a : List Nat) : Prop := a.Perm (List.range keys.length) ∧ a.Pairwise (lsR down (fun i => keys.getD i 0) sh)
theorem getD_mem {keys : List Nat} {x : Nat} (h : x < keys.length) : keys.getD x 0 ∈ keys := by
  rw [List.getD_eq_getElem?_getD, List.getElem?_eq_getElem h]; exact List.getElem_mem h
theorem spB_same {keys : List Nat} {j : Nat} (h : spB keys j = false) {x : Nat} (hx : x < keys.length) : (keys.getD x 0).testBit j = (keys.headD 0).testBit j := by
  have h1 := List.any_eq_false.1 h _ (getD_mem hx)
  simpa using h1
theorem pass_step {keys : List Nat} {down : Bool} {sh r s : Nat} {a : List Nat} (h : PassIs keys down sh a) (hr : RestIs keys sh r) (hs : sh ≤ s) (hs64 : s < 64) (hlow : ∀ j, j < s → r.testBit j = false) : PassIs keys down (s + 11) (passL (dgK down (fun i => keys.getD i 0) s) a) := by
  have hp := passL_perm (dg := dgK down (fun i => keys.getD i 0) s) (l := a) (fun x _ => dgK_lt _ _ _ _)
  refine ⟨hp.trans h.1, lsd_step (lsR_stride hs h.2 fun x hx y hy j h1 h2 => ?_)⟩
  have hxn := List.mem_range.1 (h.1.mem_iff.1 hx)
  have hyn := List.mem_range.1 (h.1.mem_iff.1 hy)
  have h3 := hlow j h2
  rw [hr j, decide_eq_true h1, decide_eq_true (show j < 64 by omega), Bool.true_and, Bool.true_and] at h3
  rw [spB_same h3 hxn, spB_same h3 hyn]
theorem pass_end {keys : List Nat} {down : Bool} {sh : Nat} {a : List Nat} {E : Nat → Int} (h : PassIs keys down sh a) (hr : RestIs keys sh 0) (hk : ∀ x ∈ keys, x < 18446744073709551616) (hE : ∀ i k, i < keys.length → k < keys.length → (keys.getD i 0 < keys.getD k 0 ↔ E i < E k)) : IsSo keys.length (lesK E 1 down) a := by
  by_cases h64 : 64 ≤ sh
  · refine lsd_so (K := fun i => keys.getD i 0) h.1 h.2 (fun i hi => ?_) hE
    exact Nat.lt_of_lt_of_le (hk _ (getD_mem hi)) (Nat.pow_le_pow_right (n := 2) (i := 64) (by decide) h64)
  · refine lsd_so (K := fun i => keys.getD i 0) (sh := 64) h.1 (lsR_stride (by omega) h.2 fun x hx y hy j h1 h2 => ?_) (fun i hi => hk _ (getD_mem hi)) hE
    have hxn := List.mem_range.1 (h.1.mem_iff.1 hx)
    have hyn := List.mem_range.1 (h.1.mem_iff.1 hy)
    have h3 := hr j
    rw [Nat.zero_testBit, decide_eq_true h1, decide_eq_true h2, Bool.true_and, Bool.true_and] at h3
    rw [spB_same h3.symm hxn, spB_same h3.symm hyn]
theorem pass_start (keys : List Nat) (down : Bool) : PassIs keys down 0 (List.range keys.length) := ⟨List.Perm.refl _, lsd_start _ _ _⟩
end Go.Proofs.YtbdbpamefkgelaaGreatDoor

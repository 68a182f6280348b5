/- Shapes: what the landed functions reckon, plain; parts of slices. -/
import Derived.Test.YtbdhibcbpgjbmaaGreatDoorShS
namespace Go.Proofs.YtbdhibcbpgjbmaaGreatDoor
set_option maxRecDepth 100000
open Go.RowKit
set_option linter.unusedVariables false

/-- A block of n zeros. -/
def zeroI (n : Nat) : Array Value := madeCells #[.int .i64 0] (n * 1)
theorem own_makeI (n : Nat) (hn : n ≤ 2000000) (w : World) (base : Nat) (hb : base ≤ w.heap.size) : (w.alloc (.cells (zeroI n) 3)).ownsRow base 3 1 (.slice (some ⟨w.heap.size, 0, none⟩) n n) n (ints (List.replicate n 0)) := by
 have ho := World.ownsRow_lit (e := 3) (size := 1) w (zeroI n) n hb (by unfold maxLen; omega) (size_madeCells _ _)
 have e : (zeroI n).toList = ints (List.replicate n 0) := by rw [zeroI, toList_madeCells_one]; simp [ints]
 rw [← e]; exact ho
theorem run_mkInt (n : Nat) (hn : n ≤ 2000000) (w : World) : (Instr.makeSlice 22 (.int .i64 (n : Int)) (.int .i64 (n : Int))).run Tryz.prog w = .ok (.slice (some ⟨w.heap.size, 0, none⟩) n n) (w.alloc (.cells (zeroI n) 3)) := by
 obtain ⟨i0, hi, hz0, hz1, hz2⟩ := info_parts info_int
 have hr := run_make (P := Tryz.prog) w 22 3 i0 _ Tryz.underlying22 hi hz0 .i64 .i64 n n (by omega) (Int.le_refl _) (by rw [hz2]; omega) (by omega)
 simp only [Int.toNat_natCast, hz1] at hr
 exact hr
/-- The row that is filled from its end: k zeros, then what stands there. -/
def downTo (xs : List Int) (k : Nat) : List Int := List.replicate k 0 ++ xs.drop k
theorem downTo_len (xs : List Int) (k : Nat) (h : k ≤ xs.length) : (downTo xs k).length = xs.length := by simp [downTo]; omega
theorem downTo_all (xs : List Int) : downTo xs xs.length = List.replicate xs.length 0 := by simp [downTo]
theorem downTo_zero (xs : List Int) : downTo xs 0 = xs := by simp [downTo]
theorem downTo_set (xs : List Int) (k : Nat) (h : k < xs.length) : (downTo xs (k + 1)).set k xs[k] = downTo xs k := by
 unfold downTo
 rw [List.replicate_succ', List.append_assoc, List.set_append_right _ _ (by simp), List.length_replicate, Nat.sub_self]
 rw [show ([0] ++ List.drop (k + 1) xs) = 0 :: List.drop (k + 1) xs from rfl, List.set_cons_zero, List.drop_eq_getElem_cons h]

theorem nzp_drop {s : List Int} {k : Nat} {x : Int} (h : s[k]? = some x) : nzp (s.drop k) = (if 0 < x then x else 1) * nzp (s.drop (k + 1)) := by
 obtain ⟨hk, e⟩ := List.getElem?_eq_some_iff.1 h
 rw [List.drop_eq_getElem_cons hk, e]
 have := nzp_append [x] (s.drop (k + 1))
 rw [show [x] ++ s.drop (k + 1) = x :: s.drop (k + 1) from rfl] at this
 rw [this]
 congr 1
 unfold nzp
 rw [List.foldl_cons, List.foldl_nil]
 split <;> simp
theorem strd_at {s : List Int} {k : Nat} (hk : k < s.length) : (strd s)[k]'(by rw [strd_len]; exact hk) = nzp (s.drop (k + 1)) := strd_get s k _

/-- One index of a place. -/
theorem unp_get : ∀ (s : List Int) (i : Int) (k : Nat) (x : Int), Pos s → 0 ≤ i → i < nzp s → s[k]? = some x → (unp s i)[k]? = some ((i / nzp (s.drop (k + 1))) % x)
 | [], _, k, x, _, _, _, h => by simp at h
 | a :: s, i, 0, x, hp, h0, h1, h => by
  have e : a = x := by simpa using h
  subst e
  have hn := nzp_pos s
  rw [nzp_cons hp.tail.1] at h1
  have hq0 : 0 ≤ i / nzp s := Int.ediv_nonneg h0 (by omega)
  have hq1 : i / nzp s < a := Int.ediv_lt_of_lt_mul (by omega) h1
  simp only [unp, List.getElem?_cons_zero, List.drop_succ_cons, List.drop_zero]
  rw [Int.emod_eq_of_lt hq0 hq1]
 | a :: s, i, k + 1, x, hp, h0, h1, h => by
  have hx : s[k]? = some x := by simpa using h
  have hn := nzp_pos s
  have hm0 := Int.emod_nonneg i (show nzp s ≠ 0 by omega)
  have hm1 := Int.emod_lt_of_pos i (show 0 < nzp s by omega)
  have ih := unp_get s (i % nzp s) k x hp.tail.2 hm0 hm1 hx
  simp only [unp, List.getElem?_cons_succ, List.drop_succ_cons]
  rw [ih]
  congr 1
  have hxp : 0 < x := hp.tail.2 x (List.mem_of_getElem? hx)
  have e1 : nzp s = nzp (s.take k) * nzp (s.drop k) := by rw [← nzp_append, List.take_append_drop]
  have e2 := nzp_drop hx
  rw [if_pos hxp] at e2
  have hM := nzp_pos (s.drop (k + 1))
  obtain ⟨M, hMe⟩ : ∃ M, nzp (s.drop (k + 1)) = M := ⟨_, rfl⟩
  obtain ⟨c, hc⟩ : ∃ c, nzp (s.take k) = c := ⟨_, rfl⟩
  rw [hMe] at e2 hM ⊢
  rw [e2, hc] at e1
  rw [e1]
  have e3 : i % (c * (x * M)) = i + M * (-(c * x * (i / (c * (x * M))))) := by
   rw [Int.emod_def]
   have : c * (x * M) * (i / (c * (x * M))) = M * (c * x * (i / (c * (x * M)))) := by
    rw [show c * (x * M) = M * (c * x) by rw [Int.mul_comm x M, Int.mul_left_comm]]
    rw [Int.mul_assoc]
   rw [Int.mul_neg, this]; omega
  rw [e3, Int.add_mul_ediv_left _ _ (by omega)]
  rw [show -(c * x * (i / (c * (x * M)))) = x * (-(c * (i / (c * (x * M))))) by rw [Int.mul_neg, Int.mul_comm c x, Int.mul_assoc]]
  rw [Int.add_mul_emod_self_left]
theorem unp_step {s : List Int} {k : Nat} {x i : Int} (h : s[k]? = some x) (hp : 0 < x) (h0 : 0 ≤ i) : (i / nzp (s.drop (k + 1))) / x = i / nzp (s.drop k) := by
 rw [nzp_drop h, if_pos hp, Int.mul_comm, Int.ediv_ediv_of_nonneg (by have := nzp_pos (s.drop (k + 1)); omega)]

theorem plc_snoc : ∀ (s t : List Int) (a j : Int), s.length = t.length → plc (s ++ [a]) (t ++ [j]) = match plc s t with
  | some p => if 0 ≤ j ∧ j < a then some (p * a + j) else none
  | none => none
 | [], [], a, j, _ => by simp [plc, nzp]
 | [], _ :: _, a, j, h => by simp at h
 | _ :: _, [], a, j, h => by simp at h
 | b :: s, i :: t, a, j, h => by
  have ih := plc_snoc s t a j (by simpa using h)
  rw [List.cons_append, List.cons_append, plc, ih, plc]
  cases hq : plc s t with
  | none => rfl
  | some q =>
   simp only
   by_cases hj : 0 ≤ j ∧ j < a
   ·rw [if_pos hj]
    simp only
    by_cases hi : 0 ≤ i ∧ i < b
    ·rw [if_pos hi, if_pos hi]
     simp only
     rw [if_pos hj, nzp_snoc, if_pos (by omega), Int.add_mul, Int.mul_assoc]
     congr 1; omega
    ·rw [if_neg hi, if_neg hi]
   ·rw [if_neg hj]
    simp only
    split
    ·rename_i heq; split at heq
     ·rw [← Option.some.inj heq]; simp only [if_neg hj]
     ·cases heq
    ·rfl
theorem plc_take {s t : List Int} {k : Nat} {a j p : Int} (ha : s[k]? = some a) (hj : t[k]? = some j) (h : plc (s.take k) (t.take k) = some p) :
  plc (s.take (k + 1)) (t.take (k + 1)) = if 0 ≤ j ∧ j < a then some (p * a + j) else none := by
 have h1 := (List.getElem?_eq_some_iff.1 ha).1
 have h2 := (List.getElem?_eq_some_iff.1 hj).1
 rw [take_snoc ha, take_snoc hj, plc_snoc _ _ _ _ (by rw [List.length_take, List.length_take]; omega), h]
theorem plc_down (s t : List Int) (hl : s.length = t.length) : ∀ d k, k + d = s.length → plc (s.take k) (t.take k) = none → plc s t = none := by
 intro d
 induction d with
 | zero => intro k hk h; rwa [List.take_of_length_le (by omega), List.take_of_length_le (by omega)] at h
 | succ d ih =>
  intro k hk h
  apply ih (k + 1) (by omega)
  have h1 : k < s.length := by omega
  have h2 : k < t.length := by omega
  rw [List.take_succ_eq_append_getElem h1, List.take_succ_eq_append_getElem h2, plc_snoc _ _ _ _ (by rw [List.length_take, List.length_take]; omega), h]
theorem plc_bad {s t : List Int} {k : Nat} {a j p : Int} (hl : s.length = t.length) (ha : s[k]? = some a) (hj : t[k]? = some j) (h : plc (s.take k) (t.take k) = some p) (hb : ¬ (0 ≤ j ∧ j < a)) : placeR s t = -1 := by
 have h1 := (List.getElem?_eq_some_iff.1 ha).1
 apply placeR_none
 refine plc_down s t hl (s.length - (k + 1)) (k + 1) (by omega) ?_
 rw [plc_take ha hj h, if_neg hb]

theorem anyZ_hit {s : List Int} {k : Nat} (h : s[k]? = some 0) : anyZ s = true := List.any_eq_true.2 ⟨0, List.mem_of_getElem? h, rfl⟩
theorem good_pos {s : List Int} (hn : anyN s = false) (hz : anyZ s = false) : Pos s := by
 intro x hx
 obtain ⟨k, hk, e⟩ := List.mem_iff_getElem.1 hx
 have h1 := anyN_mem (List.getElem?_eq_getElem hk) hn
 rw [e] at h1
 by_cases h0 : x = 0
 ·have : anyZ s = true := anyZ_hit (k := k) (by rw [List.getElem?_eq_getElem hk, e, h0])
  rw [hz] at this; cases this
 ·omega

theorem Slc.take {w : World} {ok : Nat → Prop} {ao : Option Addr} {cap : Nat} {s : List Int} (h : Slc w ok (.slice ao s.length cap) s.length (ints s)) (k : Nat) (hk : k ≤ s.length) : Slc w ok (.slice ao k cap) (s.take k).length (ints (s.take k)) := by
 obtain ⟨⟨h1, ao1, cap1, e1, h3⟩, ao2, cap2, e2, h4, h5⟩ := h
 cases e1; cases e2
 have hl : (s.take k).length = k := by rw [List.length_take]; omega
 rw [hl]
 refine ⟨⟨by rw [ints_len, hl], ao, cap, rfl, fun i hi => ?_⟩, ao, cap, rfl, by omega, h5⟩
 rw [ints_len, hl] at hi
 obtain ⟨b, off, e, hb, hc⟩ := h3 i (by rw [ints_len]; omega)
 refine ⟨b, off, e, hb, ?_⟩
 rw [hc, ints_get, ints_get, List.getElem_take]
theorem Slc.drop {w : World} {ok : Nat → Prop} {b off : Nat} {cap : Nat} {s : List Int} (h : Slc w ok (.slice (some ⟨b, off, none⟩) s.length cap) s.length (ints s)) (k : Nat) (hk : k ≤ s.length) : Slc w ok (.slice (some ⟨b, off + k, none⟩) (s.length - k) (cap - k)) (s.drop k).length (ints (s.drop k)) := by
 obtain ⟨⟨h1, ao1, cap1, e1, h3⟩, ao2, cap2, e2, h4, h5⟩ := h
 cases e1; cases e2
 rw [List.length_drop]
 refine ⟨⟨by rw [ints_len, List.length_drop], _, _, rfl, fun i hi => ?_⟩, _, _, rfl, by omega, by omega⟩
 rw [ints_len, List.length_drop] at hi
 obtain ⟨b', off', e, hb, hc⟩ := h3 (k + i) (by rw [ints_len]; omega)
 cases e
 refine ⟨b, off + k, rfl, hb, ?_⟩
 rw [show off + k + i = off + (k + i) by omega, hc, ints_get, ints_get, List.getElem_drop]
theorem Slc.drop0 {w : World} {ok : Nat → Prop} {b off cap k : Nat} {s : List Int} (h1 : s.length ≤ cap) (h2 : cap = k + 1) (hk : k < s.length) : Slc w ok (.slice (some ⟨b, off, none⟩) (s.length - (k + 1)) 0) (s.drop (k + 1)).length (ints (s.drop (k + 1))) := by
 have e : s.drop (k + 1) = [] := List.drop_eq_nil_of_le (by omega)
 rw [e, show s.length - (k + 1) = 0 by omega]
 exact ⟨⟨rfl, _, _, rfl, fun i hi => absurd hi (by simp [ints])⟩, _, _, rfl, Nat.le_refl _, by unfold maxLen; omega⟩
end Go.Proofs.YtbdhibcbpgjbmaaGreatDoor

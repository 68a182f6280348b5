/- ShapeAxes, walked. -/
import Derived.Test.YtnebondinjjodaaShI
namespace Go.Proofs.Ytnebondinjjodaa
open Go.RowKit
set_option linter.unusedVariables false
set_option maxRecDepth 8000

theorem withoutTo_all (s : List Int) (k : Nat) (hk : k < s.length) : ∀ m, m ≤ s.length → withoutTo s (k : Int) m = if m ≤ k then s.take m else s.take k ++ (s.drop (k + 1)).take (m - (k + 1)) := by
  intro m
  induction m with
  | zero => intro _; rw [if_pos (by omega)]; simp [withoutTo]
  | succ m ih =>
    intro hm
    have ihm := ih (by omega)
    have hx := List.getElem?_eq_getElem (show m < s.length by omega)
    by_cases e : m = k
    · subst e
      rw [withoutTo_miss rfl, ihm, if_pos (by omega), if_neg (by omega)]
      simp
    · rw [withoutTo_hit hx (by omega), ihm]
      by_cases h2 : m ≤ k
      · rw [if_pos h2, if_pos (by omega), List.take_succ_eq_append_getElem (by omega)]
      · rw [if_neg h2, if_neg (by omega), List.append_assoc]
        congr 1
        obtain ⟨d, hd⟩ : ∃ d, m = k + 1 + d := ⟨m - (k + 1), by omega⟩
        subst hd
        rw [show k + 1 + d + 1 - (k + 1) = d + 1 by omega, show k + 1 + d - (k + 1) = d by omega, List.take_succ_eq_append_getElem (by rw [List.length_drop]; omega), List.getElem_drop]
theorem without_erase (s : List Int) (k : Nat) (hk : k < s.length) : withoutR s (k : Int) = s.eraseIdx k := by
  show withoutTo s (k : Int) s.length = _
  rw [withoutTo_all s k hk s.length (Nat.le_refl _), if_neg (by omega), List.eraseIdx_eq_take_drop_succ, List.take_of_length_le (l := s.drop (k + 1)) (by rw [List.length_drop]; omega)]
theorem prod_ok {t : List Int} (h1 : t.length ≤ 8) (h2 : anyN t = false) (h3 : nzp t ≤ 1048576) : (prodR t 1048576).2 = 0 := by
  unfold prodR
  rw [if_neg (by omega), if_neg (by rw [h2]; decide), if_neg (by omega), if_neg (by have := nzp_pos t; split <;> omega)]
theorem good_len {s : List Int} (h : goodS s = true) : s.length ≤ 8 ∧ anyN s = false := by
  unfold goodS at h
  obtain ⟨n, f, hp⟩ : ∃ n f, prodR s 1048576 = (n, f) := ⟨_, _, rfl⟩
  rw [hp] at h
  have hf : f = 0 := by simpa using h
  have := ok_prod hp hf
  refine ⟨?_, this.2.1⟩
  subst hf
  unfold prodR at hp
  by_cases h1 : 8 < s.length
  · rw [if_pos h1] at hp; cases hp
  · omega
theorem anyN_sub {s t : List Int} (h : ∀ x ∈ t, x ∈ s) (hn : anyN s = false) : anyN t = false := by
  cases ht : anyN t with
  | false => rfl
  | true =>
    obtain ⟨x, hx, h0⟩ := List.any_eq_true.1 ht
    have : anyN s = true := List.any_eq_true.2 ⟨x, h x hx, h0⟩
    rw [hn] at this; cases this
theorem good_take {s : List Int} (h : goodS s = true) (k : Nat) : (prodR (s.take k) 1048576).2 = 0 := by
  obtain ⟨h1, h2⟩ := good_len h
  by_cases hk : k ≤ s.length
  · exact prod_ok (by rw [List.length_take]; omega) (anyN_sub (fun x hx => List.mem_of_mem_take hx) h2) (Int.le_trans (nzp_take_le s k hk) (good_nz h))
  · rw [List.take_of_length_le (by omega)]; exact prod_ok h1 h2 (good_nz h)
theorem good_drop {s : List Int} (h : goodS s = true) (k : Nat) : (prodR (s.drop k) 1048576).2 = 0 := by
  obtain ⟨h1, h2⟩ := good_len h
  exact prod_ok (by rw [List.length_drop]; omega) (anyN_sub (fun x hx => List.mem_of_mem_drop hx) h2) (Int.le_trans (nzp_drop_le s k) (good_nz h))

set_option maxHeartbeats 8000000 in
theorem shAxes_gg (w : World) (v v2 : Value) (s t : List Int) (k : Nat) (n : Int) (HS : Hid (Slc w (fun _ => True) v s.length (ints s))) (HT : Hid (Slc w (fun _ => True) v2 t.length (ints t))) (hl : s.length ≤ 60) (hl2 : t.length ≤ 60) (hk : k < s.length) (hg : goodS s = true) (hi : goodS (s.set k n) = true) :
    Calls Try.prog 6 #[v, .int .i64 (k : Int), .int .i64 n, v2] w fun e w' => e = .returned (.bool true) ∧ Below w.heap.size w w' := by
  have HB := Lib.hid (Below.refl w.heap.size w)
  have HL := Lib.hid (show s.length ≤ 1000 by omega)
  have HL2 := Lib.hid (show t.length ≤ 1000 by omega)
  have HL3 := Lib.hid (show s.length ≤ 9223372036854775807 by omega)
  have HG := Lib.hid hg
  have HI := Lib.hid hi
  have HAX := Lib.hid (show axisG s (k : Int) = true from decide_eq_true ⟨by omega, by omega⟩)
  obtain ⟨x0, hx0⟩ : ∃ x0, s[k]? = some x0 := ⟨_, List.getElem?_eq_getElem hk⟩
  obtain ⟨p, e1, hp⟩ : ∃ p e1, prodR (s.take k) 1048576 = (p, e1) := ⟨_, _, rfl⟩
  obtain ⟨q, f1, hq⟩ : ∃ q f1, prodR (s.drop (k + 1)) 1048576 = (q, f1) := ⟨_, _, rfl⟩
  have HP := Lib.hid hp
  have HQ := Lib.hid hq
  have he1 : e1 = 0 := by have := good_take hg k; rw [hp] at this; exact this
  have hf1 : f1 = 0 := by have := good_drop hg (k + 1); rw [hq] at this; exact this
  subst he1 hf1
  have HSB := Lib.hid (show (goodS s && axisG s (k : Int)) = true by rw [HG.out, HAX.out]; rfl)
  have HSP := Lib.hid (show splitG s (k : Int) = (p, x0, q) by
    unfold splitG; rw [if_pos HSB.out, Int.toNat_natCast, hp, hq, List.getD_eq_getElem?_getD, hx0]; rfl)
  obtain ⟨S1, hS1⟩ : ∃ S1, s.set k n = S1 := ⟨_, rfl⟩
  have HS1L := Lib.hid (show S1.length = s.length by rw [← hS1, List.length_set])
  have HWB := Lib.hid (show (axisG s (k : Int) && goodS (s.set (k : Int).toNat n)) = true by rw [HAX.out, Int.toNat_natCast, HI.out]; rfl)
  have HWG := Lib.hid (show withG s (k : Int) n = S1 by unfold withG; rw [HWB.out]; rw [if_pos rfl, Int.toNat_natCast]; exact hS1)
  rw [hS1] at HI
  obtain ⟨E, hE⟩ : ∃ E, s.eraseIdx k = E := ⟨_, rfl⟩
  have HEL := Lib.hid (show E.length ≤ maxLen by rw [← hE]; have := List.length_eraseIdx_le s k; unfold maxLen; omega)
  have HOG := Lib.hid (show outG s (k : Int) = E by unfold outG; rw [HAX.out, if_pos rfl, Int.toNat_natCast]; exact hE)
  have HWO := Lib.hid (show withoutR s (k : Int) = E by rw [without_erase s k hk]; exact hE)
  have HS1e := Lib.hid hS1
  obtain ⟨r, hr⟩ : ∃ r, (s == t) = r := ⟨_, rfl⟩
  have HR1 := Lib.hid (show decide (s = t) = r by rw [← hr, Bool.eq_iff_iff]; simp)
  have HR2 := Lib.hid hr
  obtain ⟨T1, hT1⟩ : ∃ T1, s.take k = T1 := ⟨_, rfl⟩
  obtain ⟨T2, hT2⟩ : ∃ T2, s.drop (k + 1) = T2 := ⟨_, rfl⟩
  rw [hT1] at HP
  rw [hT2] at HQ
  have HT1e := Lib.hid hT1
  have HT2e := Lib.hid hT2
  have HT1L := Lib.hid (show T1.length = k by rw [← hT1, List.length_take]; omega)
  have HT2L := Lib.hid (show T2.length = s.length - (k + 1) by rw [← hT2, List.length_drop])
  obtain ⟨ao, cap, rfl, _⟩ := HS.out.opened
  obtain ⟨ao2, cap2, rfl, _⟩ := HT.out.opened
  obtain ⟨b, off, cap', x1, e2, hx1, hc1⟩ := slc_at (Value.int .i64) (show Slc w _ (.slice ao s.length cap) s.length (s.map (Value.int .i64)) from HS.out) k hk
  obtain ⟨e2a, e2b⟩ : ao = some ⟨b, off, none⟩ ∧ cap = cap' := by cases e2; exact ⟨rfl, rfl⟩
  subst e2a
  have hxx : x1 = x0 := by rw [hx0] at hx1; exact (Option.some.inj hx1).symm
  subst hxx
  have HC := Lib.hid hc1
  have hcap : s.length ≤ cap := by have := HS.out.opened; obtain ⟨a, c, e, h, _⟩ := this; cases e; exact h
  clear hg hi hp hq hx0 hx1 hc1 e2 e2b hS1 hE hr hT1 hT2
  by_cases hce : cap = k + 1
  · have hcz : cap - (k + 1) = 0 := by omega
    have hlz : s.length - (k + 1) = 0 := by omega
    have HCE := Lib.hid hce
    clear hce
    have cHC := HC.out
    go_enter Try.func6, Try.ntmps6
    go_wp2_with fail
    refine (ssplit_calls _ s (k : Int) _ HS.out HL.out).mono ?_
    clear cHC
    rintro e W1 ⟨rfl, hB⟩
    replace HS := Lib.hid (HS.out.below hB)
    replace HT := Lib.hid (HT.out.below hB)
    replace HC := Lib.hid (keep_below hB _ _ HC.out)
    replace HB := Lib.hid (HB.out.trans (hB.mono HB.out.size))
    rw [HSP.out, HSB.out]
    clear hB
    have cHC := HC.out
    go_wp2_with fail
    refine (swith_calls _ s (k : Int) n _ HS.out HL.out).mono ?_
    clear cHC
    rintro e W2 ⟨z, rfl, hs, hB⟩
    replace HS := Lib.hid (HS.out.below hB)
    replace HT := Lib.hid (HT.out.below hB)
    replace HC := Lib.hid (keep_below hB _ _ HC.out)
    replace HB := Lib.hid (HB.out.trans (hB.mono HB.out.size))
    rw [HWB.out]
    have HZ := Lib.hid (show Slc W2 _ z (S1 : List Int).length (ints S1) from by rw [HWG.out] at hs; exact hs)
    clear hs
    clear hB
    have cHC := HC.out
    obtain ⟨aoz, capz, rfl, _⟩ := HZ.out.opened
    go_wp2_with fail
    refine (swithout_calls _ s (k : Int) _ HS.out HL.out).mono ?_
    clear cHC
    rintro e W3 ⟨y, rfl, hs, hB⟩
    replace HS := Lib.hid (HS.out.below hB)
    replace HT := Lib.hid (HT.out.below hB)
    replace HC := Lib.hid (keep_below hB _ _ HC.out)
    replace HZ := Lib.hid (HZ.out.below hB)
    replace HB := Lib.hid (HB.out.trans (hB.mono HB.out.size))
    rw [HAX.out]
    have HY := Lib.hid (show Slc W3 _ y E.length (ints E) from by rw [HOG.out] at hs; exact hs)
    clear hs
    clear hB
    have cHC := HC.out
    obtain ⟨aoy, capy, rfl, _⟩ := HY.out.opened
    go_wp2_with fail
    refine (ssame_calls _ _ s t _ HS.out HL.out HT.out HL2.out).mono ?_
    clear cHC
    rintro e W4 ⟨rfl, hB⟩
    replace HS := Lib.hid (HS.out.below hB)
    replace HT := Lib.hid (HT.out.below hB)
    replace HC := Lib.hid (keep_below hB _ _ HC.out)
    replace HZ := Lib.hid (HZ.out.below hB)
    replace HY := Lib.hid (HY.out.below hB)
    replace HB := Lib.hid (HB.out.trans (hB.mono HB.out.size))
    rw [HR1.out]
    clear hB
    have cHC := HC.out
    go_wp2_with fail
    refine (ints_calls _ _ s t _ HS.out.1.sl HT.out.1.sl (by have := HL.out; unfold maxLen; omega)).mono ?_
    clear cHC
    rintro e W5 ⟨rfl, hB⟩
    replace HS := Lib.hid (HS.out.below hB)
    replace HT := Lib.hid (HT.out.below hB)
    replace HC := Lib.hid (keep_below hB _ _ HC.out)
    replace HZ := Lib.hid (HZ.out.below hB)
    replace HY := Lib.hid (HY.out.below hB)
    replace HB := Lib.hid (HB.out.trans (hB.mono HB.out.size))
    rw [HR2.out]
    have hrr : (r != r) = false := by cases r <;> rfl
    clear hB
    have cHC := HC.out
    have hkc := hk
    have hcp := hcap
    go_wp2_with fail
    refine (Calls.grow_same6 (rproduct_calls _ T1 1048576 _ (show Slc _ _ (.slice (some ⟨b, off, none⟩) k cap) T1.length (ints T1) by have := Slc.take HS.out k (by omega); rw [HT1e.out] at this; exact this) (by rw [HT1L.out]; have := HL.out; omega))).mono ?_
    clear cHC
    rintro e W6 ⟨rfl, hB⟩
    replace HS := Lib.hid (HS.out.below hB)
    replace HT := Lib.hid (HT.out.below hB)
    replace HC := Lib.hid (keep_below hB _ _ HC.out)
    replace HZ := Lib.hid (HZ.out.below hB)
    replace HY := Lib.hid (HY.out.below hB)
    replace HB := Lib.hid (HB.out.trans (hB.mono HB.out.size))
    rw [HP.out]
    clear hB
    have cHC := HC.out
    go_wp2_with fail
    have HT2s := Lib.hid (show Slc W6 (fun _ => True) (.slice (some ⟨b, off, none⟩) 0 0) T2.length (ints T2) by have := Slc.drop0 (w := W6) (ok := fun _ => True) (b := b) (off := off) hcp HCE.out hkc; rw [HT2e.out, hlz] at this; exact this)
    refine (Calls.grow_same6 (rproduct_calls _ T2 1048576 _ HT2s.out (by rw [HT2L.out]; have := HL.out; omega))).mono ?_
    clear cHC
    rintro e W7 ⟨rfl, hB⟩
    replace HS := Lib.hid (HS.out.below hB)
    replace HT := Lib.hid (HT.out.below hB)
    replace HC := Lib.hid (keep_below hB _ _ HC.out)
    replace HZ := Lib.hid (HZ.out.below hB)
    replace HY := Lib.hid (HY.out.below hB)
    replace HB := Lib.hid (HB.out.trans (hB.mono HB.out.size))
    rw [HQ.out]
    clear hB
    have cHC := HC.out
    go_wp2_with fail
    refine (Calls.grow_same6 (rgood_calls _ s _ HS.out HL3.out)).mono ?_
    clear cHC
    rintro e W8 ⟨rfl, hB⟩
    replace HS := Lib.hid (HS.out.below hB)
    replace HT := Lib.hid (HT.out.below hB)
    replace HC := Lib.hid (keep_below hB _ _ HC.out)
    replace HZ := Lib.hid (HZ.out.below hB)
    replace HY := Lib.hid (HY.out.below hB)
    replace HB := Lib.hid (HB.out.trans (hB.mono HB.out.size))
    rw [HG.out]
    clear hB
    have cHC := HC.out
    go_wp2_with fail
    refine (rwith_calls _ s k n _ HS.out (by have := HL.out; omega) hkc).mono ?_
    clear cHC
    rintro e W9 ⟨v5, rfl, hs, hB⟩
    replace HS := Lib.hid (HS.out.below hB)
    replace HT := Lib.hid (HT.out.below hB)
    replace HC := Lib.hid (keep_below hB _ _ HC.out)
    replace HZ := Lib.hid (HZ.out.below hB)
    replace HY := Lib.hid (HY.out.below hB)
    replace HB := Lib.hid (HB.out.trans (hB.mono HB.out.size))
    have HW5 := Lib.hid (show Slc W9 _ v5 S1.length (ints S1) from by rw [HS1e.out] at hs; rw [HS1L.out]; exact hs)
    clear hs
    clear hB
    have cHC := HC.out
    obtain ⟨ao5, cap5, rfl, _⟩ := HW5.out.opened
    go_wp2_with fail
    refine (Calls.grow_same6 (rgood_calls _ S1 _ HW5.out (by rw [HS1L.out]; have := HL.out; omega))).mono ?_
    clear cHC
    rintro e W10 ⟨rfl, hB⟩
    replace HS := Lib.hid (HS.out.below hB)
    replace HT := Lib.hid (HT.out.below hB)
    replace HC := Lib.hid (keep_below hB _ _ HC.out)
    replace HZ := Lib.hid (HZ.out.below hB)
    replace HY := Lib.hid (HY.out.below hB)
    replace HW5 := Lib.hid (HW5.out.below hB)
    replace HB := Lib.hid (HB.out.trans (hB.mono HB.out.size))
    rw [HI.out]
    clear hB
    have cHC := HC.out
    go_wp2_with fail
    refine (ints_calls _ _ S1 S1 _ HZ.out.1.sl HW5.out.1.sl (by rw [HS1L.out]; have := HL.out; unfold maxLen; omega)).mono ?_
    clear cHC
    rintro e W11 ⟨rfl, hB⟩
    replace HS := Lib.hid (HS.out.below hB)
    replace HT := Lib.hid (HT.out.below hB)
    replace HC := Lib.hid (keep_below hB _ _ HC.out)
    replace HZ := Lib.hid (HZ.out.below hB)
    replace HY := Lib.hid (HY.out.below hB)
    replace HW5 := Lib.hid (HW5.out.below hB)
    replace HB := Lib.hid (HB.out.trans (hB.mono HB.out.size))
    rw [show (S1 == S1) = true from beq_self_eq_true S1]
    clear hB
    have cHC := HC.out
    go_wp2_with fail
    refine (rwithout_calls _ s (k : Int) _ HS.out (by have := HL.out; omega)).mono ?_
    clear cHC
    rintro e W12 ⟨v6, rfl, hs, hB⟩
    replace HS := Lib.hid (HS.out.below hB)
    replace HT := Lib.hid (HT.out.below hB)
    replace HC := Lib.hid (keep_below hB _ _ HC.out)
    replace HZ := Lib.hid (HZ.out.below hB)
    replace HY := Lib.hid (HY.out.below hB)
    replace HW5 := Lib.hid (HW5.out.below hB)
    replace HB := Lib.hid (HB.out.trans (hB.mono HB.out.size))
    have HW6 := Lib.hid (show Slc W12 _ v6 E.length (ints E) from by rw [HWO.out] at hs; exact hs)
    clear hs
    clear hB
    have cHC := HC.out
    obtain ⟨ao6, cap6, rfl, _⟩ := HW6.out.opened
    go_wp2_with fail
    refine (ints_calls _ _ E E _ HY.out.1.sl HW6.out.1.sl HEL.out).mono ?_
    clear cHC
    rintro e W13 ⟨rfl, hB⟩
    replace HS := Lib.hid (HS.out.below hB)
    replace HT := Lib.hid (HT.out.below hB)
    replace HC := Lib.hid (keep_below hB _ _ HC.out)
    replace HZ := Lib.hid (HZ.out.below hB)
    replace HY := Lib.hid (HY.out.below hB)
    replace HW5 := Lib.hid (HW5.out.below hB)
    replace HW6 := Lib.hid (HW6.out.below hB)
    replace HB := Lib.hid (HB.out.trans (hB.mono HB.out.size))
    rw [show (E == E) = true from beq_self_eq_true E]
    clear hB
    have cHC := HC.out
    go_wp2_with fail
    refine (awake6_calls _).mono ?_
    clear cHC
    rintro e W14 ⟨rfl, hB⟩
    replace HS := Lib.hid (HS.out.below hB)
    replace HT := Lib.hid (HT.out.below hB)
    replace HC := Lib.hid (keep_below hB _ _ HC.out)
    replace HZ := Lib.hid (HZ.out.below hB)
    replace HY := Lib.hid (HY.out.below hB)
    replace HW5 := Lib.hid (HW5.out.below hB)
    replace HW6 := Lib.hid (HW6.out.below hB)
    replace HB := Lib.hid (HB.out.trans (hB.mono HB.out.size))
    clear hB
    have cHC := HC.out
    go_wp2
    go_ret
    exact ⟨rfl, HB.out⟩
  · have hcz : ¬ cap - (k + 1) = 0 := by omega
    have hcz2 : ¬ cap = k + 1 := hce
    have hcz3 : 0 < cap - (k + 1) := by omega
    clear hce
    have cHC := HC.out
    go_enter Try.func6, Try.ntmps6
    go_wp2_with fail
    refine (ssplit_calls _ s (k : Int) _ HS.out HL.out).mono ?_
    clear cHC
    rintro e W1 ⟨rfl, hB⟩
    replace HS := Lib.hid (HS.out.below hB)
    replace HT := Lib.hid (HT.out.below hB)
    replace HC := Lib.hid (keep_below hB _ _ HC.out)
    replace HB := Lib.hid (HB.out.trans (hB.mono HB.out.size))
    rw [HSP.out, HSB.out]
    clear hB
    have cHC := HC.out
    go_wp2_with fail
    refine (swith_calls _ s (k : Int) n _ HS.out HL.out).mono ?_
    clear cHC
    rintro e W2 ⟨z, rfl, hs, hB⟩
    replace HS := Lib.hid (HS.out.below hB)
    replace HT := Lib.hid (HT.out.below hB)
    replace HC := Lib.hid (keep_below hB _ _ HC.out)
    replace HB := Lib.hid (HB.out.trans (hB.mono HB.out.size))
    rw [HWB.out]
    have HZ := Lib.hid (show Slc W2 _ z (S1 : List Int).length (ints S1) from by rw [HWG.out] at hs; exact hs)
    clear hs
    clear hB
    have cHC := HC.out
    obtain ⟨aoz, capz, rfl, _⟩ := HZ.out.opened
    go_wp2_with fail
    refine (swithout_calls _ s (k : Int) _ HS.out HL.out).mono ?_
    clear cHC
    rintro e W3 ⟨y, rfl, hs, hB⟩
    replace HS := Lib.hid (HS.out.below hB)
    replace HT := Lib.hid (HT.out.below hB)
    replace HC := Lib.hid (keep_below hB _ _ HC.out)
    replace HZ := Lib.hid (HZ.out.below hB)
    replace HB := Lib.hid (HB.out.trans (hB.mono HB.out.size))
    rw [HAX.out]
    have HY := Lib.hid (show Slc W3 _ y E.length (ints E) from by rw [HOG.out] at hs; exact hs)
    clear hs
    clear hB
    have cHC := HC.out
    obtain ⟨aoy, capy, rfl, _⟩ := HY.out.opened
    go_wp2_with fail
    refine (ssame_calls _ _ s t _ HS.out HL.out HT.out HL2.out).mono ?_
    clear cHC
    rintro e W4 ⟨rfl, hB⟩
    replace HS := Lib.hid (HS.out.below hB)
    replace HT := Lib.hid (HT.out.below hB)
    replace HC := Lib.hid (keep_below hB _ _ HC.out)
    replace HZ := Lib.hid (HZ.out.below hB)
    replace HY := Lib.hid (HY.out.below hB)
    replace HB := Lib.hid (HB.out.trans (hB.mono HB.out.size))
    rw [HR1.out]
    clear hB
    have cHC := HC.out
    go_wp2_with fail
    refine (ints_calls _ _ s t _ HS.out.1.sl HT.out.1.sl (by have := HL.out; unfold maxLen; omega)).mono ?_
    clear cHC
    rintro e W5 ⟨rfl, hB⟩
    replace HS := Lib.hid (HS.out.below hB)
    replace HT := Lib.hid (HT.out.below hB)
    replace HC := Lib.hid (keep_below hB _ _ HC.out)
    replace HZ := Lib.hid (HZ.out.below hB)
    replace HY := Lib.hid (HY.out.below hB)
    replace HB := Lib.hid (HB.out.trans (hB.mono HB.out.size))
    rw [HR2.out]
    have hrr : (r != r) = false := by cases r <;> rfl
    clear hB
    have cHC := HC.out
    have hkc := hk
    have hcp := hcap
    go_wp2_with fail
    refine (Calls.grow_same6 (rproduct_calls _ T1 1048576 _ (show Slc _ _ (.slice (some ⟨b, off, none⟩) k cap) T1.length (ints T1) by have := Slc.take HS.out k (by omega); rw [HT1e.out] at this; exact this) (by rw [HT1L.out]; have := HL.out; omega))).mono ?_
    clear cHC
    rintro e W6 ⟨rfl, hB⟩
    replace HS := Lib.hid (HS.out.below hB)
    replace HT := Lib.hid (HT.out.below hB)
    replace HC := Lib.hid (keep_below hB _ _ HC.out)
    replace HZ := Lib.hid (HZ.out.below hB)
    replace HY := Lib.hid (HY.out.below hB)
    replace HB := Lib.hid (HB.out.trans (hB.mono HB.out.size))
    rw [HP.out]
    clear hB
    have cHC := HC.out
    go_wp2_with fail
    have HT2s := Lib.hid (show Slc W6 (fun _ => True) (.slice (some ⟨b, off + (k + 1), none⟩) (s.length - (k + 1)) (cap - (k + 1))) T2.length (ints T2) by have := Slc.drop HS.out (k + 1) hkc; rw [HT2e.out] at this; exact this)
    refine (Calls.grow_same6 (rproduct_calls _ T2 1048576 _ HT2s.out (by rw [HT2L.out]; have := HL.out; omega))).mono ?_
    clear cHC
    rintro e W7 ⟨rfl, hB⟩
    replace HS := Lib.hid (HS.out.below hB)
    replace HT := Lib.hid (HT.out.below hB)
    replace HC := Lib.hid (keep_below hB _ _ HC.out)
    replace HZ := Lib.hid (HZ.out.below hB)
    replace HY := Lib.hid (HY.out.below hB)
    replace HB := Lib.hid (HB.out.trans (hB.mono HB.out.size))
    rw [HQ.out]
    clear hB
    have cHC := HC.out
    go_wp2_with fail
    refine (Calls.grow_same6 (rgood_calls _ s _ HS.out HL3.out)).mono ?_
    clear cHC
    rintro e W8 ⟨rfl, hB⟩
    replace HS := Lib.hid (HS.out.below hB)
    replace HT := Lib.hid (HT.out.below hB)
    replace HC := Lib.hid (keep_below hB _ _ HC.out)
    replace HZ := Lib.hid (HZ.out.below hB)
    replace HY := Lib.hid (HY.out.below hB)
    replace HB := Lib.hid (HB.out.trans (hB.mono HB.out.size))
    rw [HG.out]
    clear hB
    have cHC := HC.out
    go_wp2_with fail
    refine (rwith_calls _ s k n _ HS.out (by have := HL.out; omega) hkc).mono ?_
    clear cHC
    rintro e W9 ⟨v5, rfl, hs, hB⟩
    replace HS := Lib.hid (HS.out.below hB)
    replace HT := Lib.hid (HT.out.below hB)
    replace HC := Lib.hid (keep_below hB _ _ HC.out)
    replace HZ := Lib.hid (HZ.out.below hB)
    replace HY := Lib.hid (HY.out.below hB)
    replace HB := Lib.hid (HB.out.trans (hB.mono HB.out.size))
    have HW5 := Lib.hid (show Slc W9 _ v5 S1.length (ints S1) from by rw [HS1e.out] at hs; rw [HS1L.out]; exact hs)
    clear hs
    clear hB
    have cHC := HC.out
    obtain ⟨ao5, cap5, rfl, _⟩ := HW5.out.opened
    go_wp2_with fail
    refine (Calls.grow_same6 (rgood_calls _ S1 _ HW5.out (by rw [HS1L.out]; have := HL.out; omega))).mono ?_
    clear cHC
    rintro e W10 ⟨rfl, hB⟩
    replace HS := Lib.hid (HS.out.below hB)
    replace HT := Lib.hid (HT.out.below hB)
    replace HC := Lib.hid (keep_below hB _ _ HC.out)
    replace HZ := Lib.hid (HZ.out.below hB)
    replace HY := Lib.hid (HY.out.below hB)
    replace HW5 := Lib.hid (HW5.out.below hB)
    replace HB := Lib.hid (HB.out.trans (hB.mono HB.out.size))
    rw [HI.out]
    clear hB
    have cHC := HC.out
    go_wp2_with fail
    refine (ints_calls _ _ S1 S1 _ HZ.out.1.sl HW5.out.1.sl (by rw [HS1L.out]; have := HL.out; unfold maxLen; omega)).mono ?_
    clear cHC
    rintro e W11 ⟨rfl, hB⟩
    replace HS := Lib.hid (HS.out.below hB)
    replace HT := Lib.hid (HT.out.below hB)
    replace HC := Lib.hid (keep_below hB _ _ HC.out)
    replace HZ := Lib.hid (HZ.out.below hB)
    replace HY := Lib.hid (HY.out.below hB)
    replace HW5 := Lib.hid (HW5.out.below hB)
    replace HB := Lib.hid (HB.out.trans (hB.mono HB.out.size))
    rw [show (S1 == S1) = true from beq_self_eq_true S1]
    clear hB
    have cHC := HC.out
    go_wp2_with fail
    refine (rwithout_calls _ s (k : Int) _ HS.out (by have := HL.out; omega)).mono ?_
    clear cHC
    rintro e W12 ⟨v6, rfl, hs, hB⟩
    replace HS := Lib.hid (HS.out.below hB)
    replace HT := Lib.hid (HT.out.below hB)
    replace HC := Lib.hid (keep_below hB _ _ HC.out)
    replace HZ := Lib.hid (HZ.out.below hB)
    replace HY := Lib.hid (HY.out.below hB)
    replace HW5 := Lib.hid (HW5.out.below hB)
    replace HB := Lib.hid (HB.out.trans (hB.mono HB.out.size))
    have HW6 := Lib.hid (show Slc W12 _ v6 E.length (ints E) from by rw [HWO.out] at hs; exact hs)
    clear hs
    clear hB
    have cHC := HC.out
    obtain ⟨ao6, cap6, rfl, _⟩ := HW6.out.opened
    go_wp2_with fail
    refine (ints_calls _ _ E E _ HY.out.1.sl HW6.out.1.sl HEL.out).mono ?_
    clear cHC
    rintro e W13 ⟨rfl, hB⟩
    replace HS := Lib.hid (HS.out.below hB)
    replace HT := Lib.hid (HT.out.below hB)
    replace HC := Lib.hid (keep_below hB _ _ HC.out)
    replace HZ := Lib.hid (HZ.out.below hB)
    replace HY := Lib.hid (HY.out.below hB)
    replace HW5 := Lib.hid (HW5.out.below hB)
    replace HW6 := Lib.hid (HW6.out.below hB)
    replace HB := Lib.hid (HB.out.trans (hB.mono HB.out.size))
    rw [show (E == E) = true from beq_self_eq_true E]
    clear hB
    have cHC := HC.out
    go_wp2_with fail
    refine (awake6_calls _).mono ?_
    clear cHC
    rintro e W14 ⟨rfl, hB⟩
    replace HS := Lib.hid (HS.out.below hB)
    replace HT := Lib.hid (HT.out.below hB)
    replace HC := Lib.hid (keep_below hB _ _ HC.out)
    replace HZ := Lib.hid (HZ.out.below hB)
    replace HY := Lib.hid (HY.out.below hB)
    replace HW5 := Lib.hid (HW5.out.below hB)
    replace HW6 := Lib.hid (HW6.out.below hB)
    replace HB := Lib.hid (HB.out.trans (hB.mono HB.out.size))
    clear hB
    have cHC := HC.out
    go_wp2
    go_ret
    exact ⟨rfl, HB.out⟩

set_option maxHeartbeats 8000000 in
theorem shAxes_gb (w : World) (v v2 : Value) (s t : List Int) (k : Nat) (n : Int) (HS : Hid (Slc w (fun _ => True) v s.length (ints s))) (HT : Hid (Slc w (fun _ => True) v2 t.length (ints t))) (hl : s.length ≤ 60) (hl2 : t.length ≤ 60) (hk : k < s.length) (hg : goodS s = true) (hi : goodS (s.set k n) = false) :
    Calls Try.prog 6 #[v, .int .i64 (k : Int), .int .i64 n, v2] w fun e w' => e = .returned (.bool true) ∧ Below w.heap.size w w' := by
  have HB := Lib.hid (Below.refl w.heap.size w)
  have HL := Lib.hid (show s.length ≤ 1000 by omega)
  have HL2 := Lib.hid (show t.length ≤ 1000 by omega)
  have HL3 := Lib.hid (show s.length ≤ 9223372036854775807 by omega)
  have HG := Lib.hid hg
  have HI := Lib.hid hi
  have HAX := Lib.hid (show axisG s (k : Int) = true from decide_eq_true ⟨by omega, by omega⟩)
  obtain ⟨x0, hx0⟩ : ∃ x0, s[k]? = some x0 := ⟨_, List.getElem?_eq_getElem hk⟩
  obtain ⟨p, e1, hp⟩ : ∃ p e1, prodR (s.take k) 1048576 = (p, e1) := ⟨_, _, rfl⟩
  obtain ⟨q, f1, hq⟩ : ∃ q f1, prodR (s.drop (k + 1)) 1048576 = (q, f1) := ⟨_, _, rfl⟩
  have HP := Lib.hid hp
  have HQ := Lib.hid hq
  have he1 : e1 = 0 := by have := good_take hg k; rw [hp] at this; exact this
  have hf1 : f1 = 0 := by have := good_drop hg (k + 1); rw [hq] at this; exact this
  subst he1 hf1
  have HSB := Lib.hid (show (goodS s && axisG s (k : Int)) = true by rw [HG.out, HAX.out]; rfl)
  have HSP := Lib.hid (show splitG s (k : Int) = (p, x0, q) by
    unfold splitG; rw [if_pos HSB.out, Int.toNat_natCast, hp, hq, List.getD_eq_getElem?_getD, hx0]; rfl)
  obtain ⟨S1, hS1⟩ : ∃ S1, s.set k n = S1 := ⟨_, rfl⟩
  have HS1L := Lib.hid (show S1.length = s.length by rw [← hS1, List.length_set])
  have HWB := Lib.hid (show (axisG s (k : Int) && goodS (s.set (k : Int).toNat n)) = false by rw [HAX.out, Int.toNat_natCast, HI.out]; rfl)
  have HWG := Lib.hid (show withG s (k : Int) n = [] by unfold withG; rw [HWB.out]; rfl)
  rw [hS1] at HI
  obtain ⟨E, hE⟩ : ∃ E, s.eraseIdx k = E := ⟨_, rfl⟩
  have HEL := Lib.hid (show E.length ≤ maxLen by rw [← hE]; have := List.length_eraseIdx_le s k; unfold maxLen; omega)
  have HOG := Lib.hid (show outG s (k : Int) = E by unfold outG; rw [HAX.out, if_pos rfl, Int.toNat_natCast]; exact hE)
  have HWO := Lib.hid (show withoutR s (k : Int) = E by rw [without_erase s k hk]; exact hE)
  have HS1e := Lib.hid hS1
  obtain ⟨r, hr⟩ : ∃ r, (s == t) = r := ⟨_, rfl⟩
  have HR1 := Lib.hid (show decide (s = t) = r by rw [← hr, Bool.eq_iff_iff]; simp)
  have HR2 := Lib.hid hr
  obtain ⟨T1, hT1⟩ : ∃ T1, s.take k = T1 := ⟨_, rfl⟩
  obtain ⟨T2, hT2⟩ : ∃ T2, s.drop (k + 1) = T2 := ⟨_, rfl⟩
  rw [hT1] at HP
  rw [hT2] at HQ
  have HT1e := Lib.hid hT1
  have HT2e := Lib.hid hT2
  have HT1L := Lib.hid (show T1.length = k by rw [← hT1, List.length_take]; omega)
  have HT2L := Lib.hid (show T2.length = s.length - (k + 1) by rw [← hT2, List.length_drop])
  obtain ⟨ao, cap, rfl, _⟩ := HS.out.opened
  obtain ⟨ao2, cap2, rfl, _⟩ := HT.out.opened
  obtain ⟨b, off, cap', x1, e2, hx1, hc1⟩ := slc_at (Value.int .i64) (show Slc w _ (.slice ao s.length cap) s.length (s.map (Value.int .i64)) from HS.out) k hk
  obtain ⟨e2a, e2b⟩ : ao = some ⟨b, off, none⟩ ∧ cap = cap' := by cases e2; exact ⟨rfl, rfl⟩
  subst e2a
  have hxx : x1 = x0 := by rw [hx0] at hx1; exact (Option.some.inj hx1).symm
  subst hxx
  have HC := Lib.hid hc1
  have hcap : s.length ≤ cap := by have := HS.out.opened; obtain ⟨a, c, e, h, _⟩ := this; cases e; exact h
  clear hg hi hp hq hx0 hx1 hc1 e2 e2b hS1 hE hr hT1 hT2
  by_cases hce : cap = k + 1
  · have hcz : cap - (k + 1) = 0 := by omega
    have hlz : s.length - (k + 1) = 0 := by omega
    have HCE := Lib.hid hce
    clear hce
    have cHC := HC.out
    go_enter Try.func6, Try.ntmps6
    go_wp2_with fail
    refine (ssplit_calls _ s (k : Int) _ HS.out HL.out).mono ?_
    clear cHC
    rintro e W1 ⟨rfl, hB⟩
    replace HS := Lib.hid (HS.out.below hB)
    replace HT := Lib.hid (HT.out.below hB)
    replace HC := Lib.hid (keep_below hB _ _ HC.out)
    replace HB := Lib.hid (HB.out.trans (hB.mono HB.out.size))
    rw [HSP.out, HSB.out]
    clear hB
    have cHC := HC.out
    go_wp2_with fail
    refine (swith_calls _ s (k : Int) n _ HS.out HL.out).mono ?_
    clear cHC
    rintro e W2 ⟨z, rfl, hs, hB⟩
    replace HS := Lib.hid (HS.out.below hB)
    replace HT := Lib.hid (HT.out.below hB)
    replace HC := Lib.hid (keep_below hB _ _ HC.out)
    replace HB := Lib.hid (HB.out.trans (hB.mono HB.out.size))
    rw [HWB.out]
    have HZ := Lib.hid (show Slc W2 _ z ([] : List Int).length (ints []) from by rw [HWG.out] at hs; exact hs)
    clear hs
    clear hB
    have cHC := HC.out
    obtain ⟨aoz, capz, rfl, _⟩ := HZ.out.opened
    go_wp2_with fail
    refine (swithout_calls _ s (k : Int) _ HS.out HL.out).mono ?_
    clear cHC
    rintro e W3 ⟨y, rfl, hs, hB⟩
    replace HS := Lib.hid (HS.out.below hB)
    replace HT := Lib.hid (HT.out.below hB)
    replace HC := Lib.hid (keep_below hB _ _ HC.out)
    replace HZ := Lib.hid (HZ.out.below hB)
    replace HB := Lib.hid (HB.out.trans (hB.mono HB.out.size))
    rw [HAX.out]
    have HY := Lib.hid (show Slc W3 _ y E.length (ints E) from by rw [HOG.out] at hs; exact hs)
    clear hs
    clear hB
    have cHC := HC.out
    obtain ⟨aoy, capy, rfl, _⟩ := HY.out.opened
    go_wp2_with fail
    refine (ssame_calls _ _ s t _ HS.out HL.out HT.out HL2.out).mono ?_
    clear cHC
    rintro e W4 ⟨rfl, hB⟩
    replace HS := Lib.hid (HS.out.below hB)
    replace HT := Lib.hid (HT.out.below hB)
    replace HC := Lib.hid (keep_below hB _ _ HC.out)
    replace HZ := Lib.hid (HZ.out.below hB)
    replace HY := Lib.hid (HY.out.below hB)
    replace HB := Lib.hid (HB.out.trans (hB.mono HB.out.size))
    rw [HR1.out]
    clear hB
    have cHC := HC.out
    go_wp2_with fail
    refine (ints_calls _ _ s t _ HS.out.1.sl HT.out.1.sl (by have := HL.out; unfold maxLen; omega)).mono ?_
    clear cHC
    rintro e W5 ⟨rfl, hB⟩
    replace HS := Lib.hid (HS.out.below hB)
    replace HT := Lib.hid (HT.out.below hB)
    replace HC := Lib.hid (keep_below hB _ _ HC.out)
    replace HZ := Lib.hid (HZ.out.below hB)
    replace HY := Lib.hid (HY.out.below hB)
    replace HB := Lib.hid (HB.out.trans (hB.mono HB.out.size))
    rw [HR2.out]
    have hrr : (r != r) = false := by cases r <;> rfl
    clear hB
    have cHC := HC.out
    have hkc := hk
    have hcp := hcap
    go_wp2_with fail
    refine (Calls.grow_same6 (rproduct_calls _ T1 1048576 _ (show Slc _ _ (.slice (some ⟨b, off, none⟩) k cap) T1.length (ints T1) by have := Slc.take HS.out k (by omega); rw [HT1e.out] at this; exact this) (by rw [HT1L.out]; have := HL.out; omega))).mono ?_
    clear cHC
    rintro e W6 ⟨rfl, hB⟩
    replace HS := Lib.hid (HS.out.below hB)
    replace HT := Lib.hid (HT.out.below hB)
    replace HC := Lib.hid (keep_below hB _ _ HC.out)
    replace HZ := Lib.hid (HZ.out.below hB)
    replace HY := Lib.hid (HY.out.below hB)
    replace HB := Lib.hid (HB.out.trans (hB.mono HB.out.size))
    rw [HP.out]
    clear hB
    have cHC := HC.out
    go_wp2_with fail
    have HT2s := Lib.hid (show Slc W6 (fun _ => True) (.slice (some ⟨b, off, none⟩) 0 0) T2.length (ints T2) by have := Slc.drop0 (w := W6) (ok := fun _ => True) (b := b) (off := off) hcp HCE.out hkc; rw [HT2e.out, hlz] at this; exact this)
    refine (Calls.grow_same6 (rproduct_calls _ T2 1048576 _ HT2s.out (by rw [HT2L.out]; have := HL.out; omega))).mono ?_
    clear cHC
    rintro e W7 ⟨rfl, hB⟩
    replace HS := Lib.hid (HS.out.below hB)
    replace HT := Lib.hid (HT.out.below hB)
    replace HC := Lib.hid (keep_below hB _ _ HC.out)
    replace HZ := Lib.hid (HZ.out.below hB)
    replace HY := Lib.hid (HY.out.below hB)
    replace HB := Lib.hid (HB.out.trans (hB.mono HB.out.size))
    rw [HQ.out]
    clear hB
    have cHC := HC.out
    go_wp2_with fail
    refine (Calls.grow_same6 (rgood_calls _ s _ HS.out HL3.out)).mono ?_
    clear cHC
    rintro e W8 ⟨rfl, hB⟩
    replace HS := Lib.hid (HS.out.below hB)
    replace HT := Lib.hid (HT.out.below hB)
    replace HC := Lib.hid (keep_below hB _ _ HC.out)
    replace HZ := Lib.hid (HZ.out.below hB)
    replace HY := Lib.hid (HY.out.below hB)
    replace HB := Lib.hid (HB.out.trans (hB.mono HB.out.size))
    rw [HG.out]
    clear hB
    have cHC := HC.out
    go_wp2_with fail
    refine (rwith_calls _ s k n _ HS.out (by have := HL.out; omega) hkc).mono ?_
    clear cHC
    rintro e W9 ⟨v5, rfl, hs, hB⟩
    replace HS := Lib.hid (HS.out.below hB)
    replace HT := Lib.hid (HT.out.below hB)
    replace HC := Lib.hid (keep_below hB _ _ HC.out)
    replace HZ := Lib.hid (HZ.out.below hB)
    replace HY := Lib.hid (HY.out.below hB)
    replace HB := Lib.hid (HB.out.trans (hB.mono HB.out.size))
    have HW5 := Lib.hid (show Slc W9 _ v5 S1.length (ints S1) from by rw [HS1e.out] at hs; rw [HS1L.out]; exact hs)
    clear hs
    clear hB
    have cHC := HC.out
    obtain ⟨ao5, cap5, rfl, _⟩ := HW5.out.opened
    go_wp2_with fail
    refine (Calls.grow_same6 (rgood_calls _ S1 _ HW5.out (by rw [HS1L.out]; have := HL.out; omega))).mono ?_
    clear cHC
    rintro e W10 ⟨rfl, hB⟩
    replace HS := Lib.hid (HS.out.below hB)
    replace HT := Lib.hid (HT.out.below hB)
    replace HC := Lib.hid (keep_below hB _ _ HC.out)
    replace HZ := Lib.hid (HZ.out.below hB)
    replace HY := Lib.hid (HY.out.below hB)
    replace HW5 := Lib.hid (HW5.out.below hB)
    replace HB := Lib.hid (HB.out.trans (hB.mono HB.out.size))
    rw [HI.out]
    clear hB
    have cHC := HC.out
    go_wp2_with fail
    refine (rwithout_calls _ s (k : Int) _ HS.out (by have := HL.out; omega)).mono ?_
    clear cHC
    rintro e W11 ⟨v6, rfl, hs, hB⟩
    replace HS := Lib.hid (HS.out.below hB)
    replace HT := Lib.hid (HT.out.below hB)
    replace HC := Lib.hid (keep_below hB _ _ HC.out)
    replace HZ := Lib.hid (HZ.out.below hB)
    replace HY := Lib.hid (HY.out.below hB)
    replace HW5 := Lib.hid (HW5.out.below hB)
    replace HB := Lib.hid (HB.out.trans (hB.mono HB.out.size))
    have HW6 := Lib.hid (show Slc W11 _ v6 E.length (ints E) from by rw [HWO.out] at hs; exact hs)
    clear hs
    clear hB
    have cHC := HC.out
    obtain ⟨ao6, cap6, rfl, _⟩ := HW6.out.opened
    go_wp2_with fail
    refine (ints_calls _ _ E E _ HY.out.1.sl HW6.out.1.sl HEL.out).mono ?_
    clear cHC
    rintro e W12 ⟨rfl, hB⟩
    replace HS := Lib.hid (HS.out.below hB)
    replace HT := Lib.hid (HT.out.below hB)
    replace HC := Lib.hid (keep_below hB _ _ HC.out)
    replace HZ := Lib.hid (HZ.out.below hB)
    replace HY := Lib.hid (HY.out.below hB)
    replace HW5 := Lib.hid (HW5.out.below hB)
    replace HW6 := Lib.hid (HW6.out.below hB)
    replace HB := Lib.hid (HB.out.trans (hB.mono HB.out.size))
    rw [show (E == E) = true from beq_self_eq_true E]
    clear hB
    have cHC := HC.out
    go_wp2_with fail
    refine (awake6_calls _).mono ?_
    clear cHC
    rintro e W13 ⟨rfl, hB⟩
    replace HS := Lib.hid (HS.out.below hB)
    replace HT := Lib.hid (HT.out.below hB)
    replace HC := Lib.hid (keep_below hB _ _ HC.out)
    replace HZ := Lib.hid (HZ.out.below hB)
    replace HY := Lib.hid (HY.out.below hB)
    replace HW5 := Lib.hid (HW5.out.below hB)
    replace HW6 := Lib.hid (HW6.out.below hB)
    replace HB := Lib.hid (HB.out.trans (hB.mono HB.out.size))
    clear hB
    have cHC := HC.out
    go_wp2
    go_ret
    exact ⟨rfl, HB.out⟩
  · have hcz : ¬ cap - (k + 1) = 0 := by omega
    have hcz2 : ¬ cap = k + 1 := hce
    have hcz3 : 0 < cap - (k + 1) := by omega
    clear hce
    have cHC := HC.out
    go_enter Try.func6, Try.ntmps6
    go_wp2_with fail
    refine (ssplit_calls _ s (k : Int) _ HS.out HL.out).mono ?_
    clear cHC
    rintro e W1 ⟨rfl, hB⟩
    replace HS := Lib.hid (HS.out.below hB)
    replace HT := Lib.hid (HT.out.below hB)
    replace HC := Lib.hid (keep_below hB _ _ HC.out)
    replace HB := Lib.hid (HB.out.trans (hB.mono HB.out.size))
    rw [HSP.out, HSB.out]
    clear hB
    have cHC := HC.out
    go_wp2_with fail
    refine (swith_calls _ s (k : Int) n _ HS.out HL.out).mono ?_
    clear cHC
    rintro e W2 ⟨z, rfl, hs, hB⟩
    replace HS := Lib.hid (HS.out.below hB)
    replace HT := Lib.hid (HT.out.below hB)
    replace HC := Lib.hid (keep_below hB _ _ HC.out)
    replace HB := Lib.hid (HB.out.trans (hB.mono HB.out.size))
    rw [HWB.out]
    have HZ := Lib.hid (show Slc W2 _ z ([] : List Int).length (ints []) from by rw [HWG.out] at hs; exact hs)
    clear hs
    clear hB
    have cHC := HC.out
    obtain ⟨aoz, capz, rfl, _⟩ := HZ.out.opened
    go_wp2_with fail
    refine (swithout_calls _ s (k : Int) _ HS.out HL.out).mono ?_
    clear cHC
    rintro e W3 ⟨y, rfl, hs, hB⟩
    replace HS := Lib.hid (HS.out.below hB)
    replace HT := Lib.hid (HT.out.below hB)
    replace HC := Lib.hid (keep_below hB _ _ HC.out)
    replace HZ := Lib.hid (HZ.out.below hB)
    replace HB := Lib.hid (HB.out.trans (hB.mono HB.out.size))
    rw [HAX.out]
    have HY := Lib.hid (show Slc W3 _ y E.length (ints E) from by rw [HOG.out] at hs; exact hs)
    clear hs
    clear hB
    have cHC := HC.out
    obtain ⟨aoy, capy, rfl, _⟩ := HY.out.opened
    go_wp2_with fail
    refine (ssame_calls _ _ s t _ HS.out HL.out HT.out HL2.out).mono ?_
    clear cHC
    rintro e W4 ⟨rfl, hB⟩
    replace HS := Lib.hid (HS.out.below hB)
    replace HT := Lib.hid (HT.out.below hB)
    replace HC := Lib.hid (keep_below hB _ _ HC.out)
    replace HZ := Lib.hid (HZ.out.below hB)
    replace HY := Lib.hid (HY.out.below hB)
    replace HB := Lib.hid (HB.out.trans (hB.mono HB.out.size))
    rw [HR1.out]
    clear hB
    have cHC := HC.out
    go_wp2_with fail
    refine (ints_calls _ _ s t _ HS.out.1.sl HT.out.1.sl (by have := HL.out; unfold maxLen; omega)).mono ?_
    clear cHC
    rintro e W5 ⟨rfl, hB⟩
    replace HS := Lib.hid (HS.out.below hB)
    replace HT := Lib.hid (HT.out.below hB)
    replace HC := Lib.hid (keep_below hB _ _ HC.out)
    replace HZ := Lib.hid (HZ.out.below hB)
    replace HY := Lib.hid (HY.out.below hB)
    replace HB := Lib.hid (HB.out.trans (hB.mono HB.out.size))
    rw [HR2.out]
    have hrr : (r != r) = false := by cases r <;> rfl
    clear hB
    have cHC := HC.out
    have hkc := hk
    have hcp := hcap
    go_wp2_with fail
    refine (Calls.grow_same6 (rproduct_calls _ T1 1048576 _ (show Slc _ _ (.slice (some ⟨b, off, none⟩) k cap) T1.length (ints T1) by have := Slc.take HS.out k (by omega); rw [HT1e.out] at this; exact this) (by rw [HT1L.out]; have := HL.out; omega))).mono ?_
    clear cHC
    rintro e W6 ⟨rfl, hB⟩
    replace HS := Lib.hid (HS.out.below hB)
    replace HT := Lib.hid (HT.out.below hB)
    replace HC := Lib.hid (keep_below hB _ _ HC.out)
    replace HZ := Lib.hid (HZ.out.below hB)
    replace HY := Lib.hid (HY.out.below hB)
    replace HB := Lib.hid (HB.out.trans (hB.mono HB.out.size))
    rw [HP.out]
    clear hB
    have cHC := HC.out
    go_wp2_with fail
    have HT2s := Lib.hid (show Slc W6 (fun _ => True) (.slice (some ⟨b, off + (k + 1), none⟩) (s.length - (k + 1)) (cap - (k + 1))) T2.length (ints T2) by have := Slc.drop HS.out (k + 1) hkc; rw [HT2e.out] at this; exact this)
    refine (Calls.grow_same6 (rproduct_calls _ T2 1048576 _ HT2s.out (by rw [HT2L.out]; have := HL.out; omega))).mono ?_
    clear cHC
    rintro e W7 ⟨rfl, hB⟩
    replace HS := Lib.hid (HS.out.below hB)
    replace HT := Lib.hid (HT.out.below hB)
    replace HC := Lib.hid (keep_below hB _ _ HC.out)
    replace HZ := Lib.hid (HZ.out.below hB)
    replace HY := Lib.hid (HY.out.below hB)
    replace HB := Lib.hid (HB.out.trans (hB.mono HB.out.size))
    rw [HQ.out]
    clear hB
    have cHC := HC.out
    go_wp2_with fail
    refine (Calls.grow_same6 (rgood_calls _ s _ HS.out HL3.out)).mono ?_
    clear cHC
    rintro e W8 ⟨rfl, hB⟩
    replace HS := Lib.hid (HS.out.below hB)
    replace HT := Lib.hid (HT.out.below hB)
    replace HC := Lib.hid (keep_below hB _ _ HC.out)
    replace HZ := Lib.hid (HZ.out.below hB)
    replace HY := Lib.hid (HY.out.below hB)
    replace HB := Lib.hid (HB.out.trans (hB.mono HB.out.size))
    rw [HG.out]
    clear hB
    have cHC := HC.out
    go_wp2_with fail
    refine (rwith_calls _ s k n _ HS.out (by have := HL.out; omega) hkc).mono ?_
    clear cHC
    rintro e W9 ⟨v5, rfl, hs, hB⟩
    replace HS := Lib.hid (HS.out.below hB)
    replace HT := Lib.hid (HT.out.below hB)
    replace HC := Lib.hid (keep_below hB _ _ HC.out)
    replace HZ := Lib.hid (HZ.out.below hB)
    replace HY := Lib.hid (HY.out.below hB)
    replace HB := Lib.hid (HB.out.trans (hB.mono HB.out.size))
    have HW5 := Lib.hid (show Slc W9 _ v5 S1.length (ints S1) from by rw [HS1e.out] at hs; rw [HS1L.out]; exact hs)
    clear hs
    clear hB
    have cHC := HC.out
    obtain ⟨ao5, cap5, rfl, _⟩ := HW5.out.opened
    go_wp2_with fail
    refine (Calls.grow_same6 (rgood_calls _ S1 _ HW5.out (by rw [HS1L.out]; have := HL.out; omega))).mono ?_
    clear cHC
    rintro e W10 ⟨rfl, hB⟩
    replace HS := Lib.hid (HS.out.below hB)
    replace HT := Lib.hid (HT.out.below hB)
    replace HC := Lib.hid (keep_below hB _ _ HC.out)
    replace HZ := Lib.hid (HZ.out.below hB)
    replace HY := Lib.hid (HY.out.below hB)
    replace HW5 := Lib.hid (HW5.out.below hB)
    replace HB := Lib.hid (HB.out.trans (hB.mono HB.out.size))
    rw [HI.out]
    clear hB
    have cHC := HC.out
    go_wp2_with fail
    refine (rwithout_calls _ s (k : Int) _ HS.out (by have := HL.out; omega)).mono ?_
    clear cHC
    rintro e W11 ⟨v6, rfl, hs, hB⟩
    replace HS := Lib.hid (HS.out.below hB)
    replace HT := Lib.hid (HT.out.below hB)
    replace HC := Lib.hid (keep_below hB _ _ HC.out)
    replace HZ := Lib.hid (HZ.out.below hB)
    replace HY := Lib.hid (HY.out.below hB)
    replace HW5 := Lib.hid (HW5.out.below hB)
    replace HB := Lib.hid (HB.out.trans (hB.mono HB.out.size))
    have HW6 := Lib.hid (show Slc W11 _ v6 E.length (ints E) from by rw [HWO.out] at hs; exact hs)
    clear hs
    clear hB
    have cHC := HC.out
    obtain ⟨ao6, cap6, rfl, _⟩ := HW6.out.opened
    go_wp2_with fail
    refine (ints_calls _ _ E E _ HY.out.1.sl HW6.out.1.sl HEL.out).mono ?_
    clear cHC
    rintro e W12 ⟨rfl, hB⟩
    replace HS := Lib.hid (HS.out.below hB)
    replace HT := Lib.hid (HT.out.below hB)
    replace HC := Lib.hid (keep_below hB _ _ HC.out)
    replace HZ := Lib.hid (HZ.out.below hB)
    replace HY := Lib.hid (HY.out.below hB)
    replace HW5 := Lib.hid (HW5.out.below hB)
    replace HW6 := Lib.hid (HW6.out.below hB)
    replace HB := Lib.hid (HB.out.trans (hB.mono HB.out.size))
    rw [show (E == E) = true from beq_self_eq_true E]
    clear hB
    have cHC := HC.out
    go_wp2_with fail
    refine (awake6_calls _).mono ?_
    clear cHC
    rintro e W13 ⟨rfl, hB⟩
    replace HS := Lib.hid (HS.out.below hB)
    replace HT := Lib.hid (HT.out.below hB)
    replace HC := Lib.hid (keep_below hB _ _ HC.out)
    replace HZ := Lib.hid (HZ.out.below hB)
    replace HY := Lib.hid (HY.out.below hB)
    replace HW5 := Lib.hid (HW5.out.below hB)
    replace HW6 := Lib.hid (HW6.out.below hB)
    replace HB := Lib.hid (HB.out.trans (hB.mono HB.out.size))
    clear hB
    have cHC := HC.out
    go_wp2
    go_ret
    exact ⟨rfl, HB.out⟩

set_option maxHeartbeats 8000000 in
theorem shAxes_bg (w : World) (v v2 : Value) (s t : List Int) (k : Nat) (n : Int) (HS : Hid (Slc w (fun _ => True) v s.length (ints s))) (HT : Hid (Slc w (fun _ => True) v2 t.length (ints t))) (hl : s.length ≤ 60) (hl2 : t.length ≤ 60) (hk : k < s.length) (hg : goodS s = false) (hi : goodS (s.set k n) = true) :
    Calls Try.prog 6 #[v, .int .i64 (k : Int), .int .i64 n, v2] w fun e w' => e = .returned (.bool true) ∧ Below w.heap.size w w' := by
  have HB := Lib.hid (Below.refl w.heap.size w)
  have HL := Lib.hid (show s.length ≤ 1000 by omega)
  have HL2 := Lib.hid (show t.length ≤ 1000 by omega)
  have HL3 := Lib.hid (show s.length ≤ 9223372036854775807 by omega)
  have HG := Lib.hid hg
  have HI := Lib.hid hi
  have HAX := Lib.hid (show axisG s (k : Int) = true from decide_eq_true ⟨by omega, by omega⟩)
  obtain ⟨x0, hx0⟩ : ∃ x0, s[k]? = some x0 := ⟨_, List.getElem?_eq_getElem hk⟩
  obtain ⟨p, e1, hp⟩ : ∃ p e1, prodR (s.take k) 1048576 = (p, e1) := ⟨_, _, rfl⟩
  obtain ⟨q, f1, hq⟩ : ∃ q f1, prodR (s.drop (k + 1)) 1048576 = (q, f1) := ⟨_, _, rfl⟩
  have HP := Lib.hid hp
  have HQ := Lib.hid hq
  have HSP := Lib.hid (show splitG s (k : Int) = (0, 0, 0) by unfold splitG; rw [HG.out]; rfl)
  have HSB := Lib.hid (show (goodS s && axisG s (k : Int)) = false by rw [HG.out]; rfl)
  obtain ⟨S1, hS1⟩ : ∃ S1, s.set k n = S1 := ⟨_, rfl⟩
  have HS1L := Lib.hid (show S1.length = s.length by rw [← hS1, List.length_set])
  have HWB := Lib.hid (show (axisG s (k : Int) && goodS (s.set (k : Int).toNat n)) = true by rw [HAX.out, Int.toNat_natCast, HI.out]; rfl)
  have HWG := Lib.hid (show withG s (k : Int) n = S1 by unfold withG; rw [HWB.out]; rw [if_pos rfl, Int.toNat_natCast]; exact hS1)
  rw [hS1] at HI
  obtain ⟨E, hE⟩ : ∃ E, s.eraseIdx k = E := ⟨_, rfl⟩
  have HEL := Lib.hid (show E.length ≤ maxLen by rw [← hE]; have := List.length_eraseIdx_le s k; unfold maxLen; omega)
  have HOG := Lib.hid (show outG s (k : Int) = E by unfold outG; rw [HAX.out, if_pos rfl, Int.toNat_natCast]; exact hE)
  have HWO := Lib.hid (show withoutR s (k : Int) = E by rw [without_erase s k hk]; exact hE)
  have HS1e := Lib.hid hS1
  obtain ⟨r, hr⟩ : ∃ r, (s == t) = r := ⟨_, rfl⟩
  have HR1 := Lib.hid (show decide (s = t) = r by rw [← hr, Bool.eq_iff_iff]; simp)
  have HR2 := Lib.hid hr
  obtain ⟨T1, hT1⟩ : ∃ T1, s.take k = T1 := ⟨_, rfl⟩
  obtain ⟨T2, hT2⟩ : ∃ T2, s.drop (k + 1) = T2 := ⟨_, rfl⟩
  rw [hT1] at HP
  rw [hT2] at HQ
  have HT1e := Lib.hid hT1
  have HT2e := Lib.hid hT2
  have HT1L := Lib.hid (show T1.length = k by rw [← hT1, List.length_take]; omega)
  have HT2L := Lib.hid (show T2.length = s.length - (k + 1) by rw [← hT2, List.length_drop])
  obtain ⟨ao, cap, rfl, _⟩ := HS.out.opened
  obtain ⟨ao2, cap2, rfl, _⟩ := HT.out.opened
  obtain ⟨b, off, cap', x1, e2, hx1, hc1⟩ := slc_at (Value.int .i64) (show Slc w _ (.slice ao s.length cap) s.length (s.map (Value.int .i64)) from HS.out) k hk
  obtain ⟨e2a, e2b⟩ : ao = some ⟨b, off, none⟩ ∧ cap = cap' := by cases e2; exact ⟨rfl, rfl⟩
  subst e2a
  have hxx : x1 = x0 := by rw [hx0] at hx1; exact (Option.some.inj hx1).symm
  subst hxx
  have HC := Lib.hid hc1
  have hcap : s.length ≤ cap := by have := HS.out.opened; obtain ⟨a, c, e, h, _⟩ := this; cases e; exact h
  clear hg hi hp hq hx0 hx1 hc1 e2 e2b hS1 hE hr hT1 hT2
  by_cases hce : cap = k + 1
  · have hcz : cap - (k + 1) = 0 := by omega
    have hlz : s.length - (k + 1) = 0 := by omega
    have HCE := Lib.hid hce
    clear hce
    have cHC := HC.out
    go_enter Try.func6, Try.ntmps6
    go_wp2_with fail
    refine (ssplit_calls _ s (k : Int) _ HS.out HL.out).mono ?_
    clear cHC
    rintro e W1 ⟨rfl, hB⟩
    replace HS := Lib.hid (HS.out.below hB)
    replace HT := Lib.hid (HT.out.below hB)
    replace HC := Lib.hid (keep_below hB _ _ HC.out)
    replace HB := Lib.hid (HB.out.trans (hB.mono HB.out.size))
    rw [HSP.out, HSB.out]
    clear hB
    have cHC := HC.out
    go_wp2_with fail
    refine (swith_calls _ s (k : Int) n _ HS.out HL.out).mono ?_
    clear cHC
    rintro e W2 ⟨z, rfl, hs, hB⟩
    replace HS := Lib.hid (HS.out.below hB)
    replace HT := Lib.hid (HT.out.below hB)
    replace HC := Lib.hid (keep_below hB _ _ HC.out)
    replace HB := Lib.hid (HB.out.trans (hB.mono HB.out.size))
    rw [HWB.out]
    have HZ := Lib.hid (show Slc W2 _ z (S1 : List Int).length (ints S1) from by rw [HWG.out] at hs; exact hs)
    clear hs
    clear hB
    have cHC := HC.out
    obtain ⟨aoz, capz, rfl, _⟩ := HZ.out.opened
    go_wp2_with fail
    refine (swithout_calls _ s (k : Int) _ HS.out HL.out).mono ?_
    clear cHC
    rintro e W3 ⟨y, rfl, hs, hB⟩
    replace HS := Lib.hid (HS.out.below hB)
    replace HT := Lib.hid (HT.out.below hB)
    replace HC := Lib.hid (keep_below hB _ _ HC.out)
    replace HZ := Lib.hid (HZ.out.below hB)
    replace HB := Lib.hid (HB.out.trans (hB.mono HB.out.size))
    rw [HAX.out]
    have HY := Lib.hid (show Slc W3 _ y E.length (ints E) from by rw [HOG.out] at hs; exact hs)
    clear hs
    clear hB
    have cHC := HC.out
    obtain ⟨aoy, capy, rfl, _⟩ := HY.out.opened
    go_wp2_with fail
    refine (ssame_calls _ _ s t _ HS.out HL.out HT.out HL2.out).mono ?_
    clear cHC
    rintro e W4 ⟨rfl, hB⟩
    replace HS := Lib.hid (HS.out.below hB)
    replace HT := Lib.hid (HT.out.below hB)
    replace HC := Lib.hid (keep_below hB _ _ HC.out)
    replace HZ := Lib.hid (HZ.out.below hB)
    replace HY := Lib.hid (HY.out.below hB)
    replace HB := Lib.hid (HB.out.trans (hB.mono HB.out.size))
    rw [HR1.out]
    clear hB
    have cHC := HC.out
    go_wp2_with fail
    refine (ints_calls _ _ s t _ HS.out.1.sl HT.out.1.sl (by have := HL.out; unfold maxLen; omega)).mono ?_
    clear cHC
    rintro e W5 ⟨rfl, hB⟩
    replace HS := Lib.hid (HS.out.below hB)
    replace HT := Lib.hid (HT.out.below hB)
    replace HC := Lib.hid (keep_below hB _ _ HC.out)
    replace HZ := Lib.hid (HZ.out.below hB)
    replace HY := Lib.hid (HY.out.below hB)
    replace HB := Lib.hid (HB.out.trans (hB.mono HB.out.size))
    rw [HR2.out]
    have hrr : (r != r) = false := by cases r <;> rfl
    clear hB
    have cHC := HC.out
    have hkc := hk
    have hcp := hcap
    go_wp2_with fail
    refine (Calls.grow_same6 (rproduct_calls _ T1 1048576 _ (show Slc _ _ (.slice (some ⟨b, off, none⟩) k cap) T1.length (ints T1) by have := Slc.take HS.out k (by omega); rw [HT1e.out] at this; exact this) (by rw [HT1L.out]; have := HL.out; omega))).mono ?_
    clear cHC
    rintro e W6 ⟨rfl, hB⟩
    replace HS := Lib.hid (HS.out.below hB)
    replace HT := Lib.hid (HT.out.below hB)
    replace HC := Lib.hid (keep_below hB _ _ HC.out)
    replace HZ := Lib.hid (HZ.out.below hB)
    replace HY := Lib.hid (HY.out.below hB)
    replace HB := Lib.hid (HB.out.trans (hB.mono HB.out.size))
    rw [HP.out]
    clear hB
    have cHC := HC.out
    go_wp2_with fail
    have HT2s := Lib.hid (show Slc W6 (fun _ => True) (.slice (some ⟨b, off, none⟩) 0 0) T2.length (ints T2) by have := Slc.drop0 (w := W6) (ok := fun _ => True) (b := b) (off := off) hcp HCE.out hkc; rw [HT2e.out, hlz] at this; exact this)
    refine (Calls.grow_same6 (rproduct_calls _ T2 1048576 _ HT2s.out (by rw [HT2L.out]; have := HL.out; omega))).mono ?_
    clear cHC
    rintro e W7 ⟨rfl, hB⟩
    replace HS := Lib.hid (HS.out.below hB)
    replace HT := Lib.hid (HT.out.below hB)
    replace HC := Lib.hid (keep_below hB _ _ HC.out)
    replace HZ := Lib.hid (HZ.out.below hB)
    replace HY := Lib.hid (HY.out.below hB)
    replace HB := Lib.hid (HB.out.trans (hB.mono HB.out.size))
    rw [HQ.out]
    clear hB
    have cHC := HC.out
    go_wp2_with fail
    refine (Calls.grow_same6 (rgood_calls _ s _ HS.out HL3.out)).mono ?_
    clear cHC
    rintro e W8 ⟨rfl, hB⟩
    replace HS := Lib.hid (HS.out.below hB)
    replace HT := Lib.hid (HT.out.below hB)
    replace HC := Lib.hid (keep_below hB _ _ HC.out)
    replace HZ := Lib.hid (HZ.out.below hB)
    replace HY := Lib.hid (HY.out.below hB)
    replace HB := Lib.hid (HB.out.trans (hB.mono HB.out.size))
    rw [HG.out]
    clear hB
    have cHC := HC.out
    go_wp2_with fail
    refine (rwith_calls _ s k n _ HS.out (by have := HL.out; omega) hkc).mono ?_
    clear cHC
    rintro e W9 ⟨v5, rfl, hs, hB⟩
    replace HS := Lib.hid (HS.out.below hB)
    replace HT := Lib.hid (HT.out.below hB)
    replace HC := Lib.hid (keep_below hB _ _ HC.out)
    replace HZ := Lib.hid (HZ.out.below hB)
    replace HY := Lib.hid (HY.out.below hB)
    replace HB := Lib.hid (HB.out.trans (hB.mono HB.out.size))
    have HW5 := Lib.hid (show Slc W9 _ v5 S1.length (ints S1) from by rw [HS1e.out] at hs; rw [HS1L.out]; exact hs)
    clear hs
    clear hB
    have cHC := HC.out
    obtain ⟨ao5, cap5, rfl, _⟩ := HW5.out.opened
    go_wp2_with fail
    refine (Calls.grow_same6 (rgood_calls _ S1 _ HW5.out (by rw [HS1L.out]; have := HL.out; omega))).mono ?_
    clear cHC
    rintro e W10 ⟨rfl, hB⟩
    replace HS := Lib.hid (HS.out.below hB)
    replace HT := Lib.hid (HT.out.below hB)
    replace HC := Lib.hid (keep_below hB _ _ HC.out)
    replace HZ := Lib.hid (HZ.out.below hB)
    replace HY := Lib.hid (HY.out.below hB)
    replace HW5 := Lib.hid (HW5.out.below hB)
    replace HB := Lib.hid (HB.out.trans (hB.mono HB.out.size))
    rw [HI.out]
    clear hB
    have cHC := HC.out
    go_wp2_with fail
    refine (ints_calls _ _ S1 S1 _ HZ.out.1.sl HW5.out.1.sl (by rw [HS1L.out]; have := HL.out; unfold maxLen; omega)).mono ?_
    clear cHC
    rintro e W11 ⟨rfl, hB⟩
    replace HS := Lib.hid (HS.out.below hB)
    replace HT := Lib.hid (HT.out.below hB)
    replace HC := Lib.hid (keep_below hB _ _ HC.out)
    replace HZ := Lib.hid (HZ.out.below hB)
    replace HY := Lib.hid (HY.out.below hB)
    replace HW5 := Lib.hid (HW5.out.below hB)
    replace HB := Lib.hid (HB.out.trans (hB.mono HB.out.size))
    rw [show (S1 == S1) = true from beq_self_eq_true S1]
    clear hB
    have cHC := HC.out
    go_wp2_with fail
    refine (rwithout_calls _ s (k : Int) _ HS.out (by have := HL.out; omega)).mono ?_
    clear cHC
    rintro e W12 ⟨v6, rfl, hs, hB⟩
    replace HS := Lib.hid (HS.out.below hB)
    replace HT := Lib.hid (HT.out.below hB)
    replace HC := Lib.hid (keep_below hB _ _ HC.out)
    replace HZ := Lib.hid (HZ.out.below hB)
    replace HY := Lib.hid (HY.out.below hB)
    replace HW5 := Lib.hid (HW5.out.below hB)
    replace HB := Lib.hid (HB.out.trans (hB.mono HB.out.size))
    have HW6 := Lib.hid (show Slc W12 _ v6 E.length (ints E) from by rw [HWO.out] at hs; exact hs)
    clear hs
    clear hB
    have cHC := HC.out
    obtain ⟨ao6, cap6, rfl, _⟩ := HW6.out.opened
    go_wp2_with fail
    refine (ints_calls _ _ E E _ HY.out.1.sl HW6.out.1.sl HEL.out).mono ?_
    clear cHC
    rintro e W13 ⟨rfl, hB⟩
    replace HS := Lib.hid (HS.out.below hB)
    replace HT := Lib.hid (HT.out.below hB)
    replace HC := Lib.hid (keep_below hB _ _ HC.out)
    replace HZ := Lib.hid (HZ.out.below hB)
    replace HY := Lib.hid (HY.out.below hB)
    replace HW5 := Lib.hid (HW5.out.below hB)
    replace HW6 := Lib.hid (HW6.out.below hB)
    replace HB := Lib.hid (HB.out.trans (hB.mono HB.out.size))
    rw [show (E == E) = true from beq_self_eq_true E]
    clear hB
    have cHC := HC.out
    go_wp2_with fail
    refine (awake6_calls _).mono ?_
    clear cHC
    rintro e W14 ⟨rfl, hB⟩
    replace HS := Lib.hid (HS.out.below hB)
    replace HT := Lib.hid (HT.out.below hB)
    replace HC := Lib.hid (keep_below hB _ _ HC.out)
    replace HZ := Lib.hid (HZ.out.below hB)
    replace HY := Lib.hid (HY.out.below hB)
    replace HW5 := Lib.hid (HW5.out.below hB)
    replace HW6 := Lib.hid (HW6.out.below hB)
    replace HB := Lib.hid (HB.out.trans (hB.mono HB.out.size))
    clear hB
    have cHC := HC.out
    go_wp2
    go_ret
    exact ⟨rfl, HB.out⟩
  · have hcz : ¬ cap - (k + 1) = 0 := by omega
    have hcz2 : ¬ cap = k + 1 := hce
    have hcz3 : 0 < cap - (k + 1) := by omega
    clear hce
    have cHC := HC.out
    go_enter Try.func6, Try.ntmps6
    go_wp2_with fail
    refine (ssplit_calls _ s (k : Int) _ HS.out HL.out).mono ?_
    clear cHC
    rintro e W1 ⟨rfl, hB⟩
    replace HS := Lib.hid (HS.out.below hB)
    replace HT := Lib.hid (HT.out.below hB)
    replace HC := Lib.hid (keep_below hB _ _ HC.out)
    replace HB := Lib.hid (HB.out.trans (hB.mono HB.out.size))
    rw [HSP.out, HSB.out]
    clear hB
    have cHC := HC.out
    go_wp2_with fail
    refine (swith_calls _ s (k : Int) n _ HS.out HL.out).mono ?_
    clear cHC
    rintro e W2 ⟨z, rfl, hs, hB⟩
    replace HS := Lib.hid (HS.out.below hB)
    replace HT := Lib.hid (HT.out.below hB)
    replace HC := Lib.hid (keep_below hB _ _ HC.out)
    replace HB := Lib.hid (HB.out.trans (hB.mono HB.out.size))
    rw [HWB.out]
    have HZ := Lib.hid (show Slc W2 _ z (S1 : List Int).length (ints S1) from by rw [HWG.out] at hs; exact hs)
    clear hs
    clear hB
    have cHC := HC.out
    obtain ⟨aoz, capz, rfl, _⟩ := HZ.out.opened
    go_wp2_with fail
    refine (swithout_calls _ s (k : Int) _ HS.out HL.out).mono ?_
    clear cHC
    rintro e W3 ⟨y, rfl, hs, hB⟩
    replace HS := Lib.hid (HS.out.below hB)
    replace HT := Lib.hid (HT.out.below hB)
    replace HC := Lib.hid (keep_below hB _ _ HC.out)
    replace HZ := Lib.hid (HZ.out.below hB)
    replace HB := Lib.hid (HB.out.trans (hB.mono HB.out.size))
    rw [HAX.out]
    have HY := Lib.hid (show Slc W3 _ y E.length (ints E) from by rw [HOG.out] at hs; exact hs)
    clear hs
    clear hB
    have cHC := HC.out
    obtain ⟨aoy, capy, rfl, _⟩ := HY.out.opened
    go_wp2_with fail
    refine (ssame_calls _ _ s t _ HS.out HL.out HT.out HL2.out).mono ?_
    clear cHC
    rintro e W4 ⟨rfl, hB⟩
    replace HS := Lib.hid (HS.out.below hB)
    replace HT := Lib.hid (HT.out.below hB)
    replace HC := Lib.hid (keep_below hB _ _ HC.out)
    replace HZ := Lib.hid (HZ.out.below hB)
    replace HY := Lib.hid (HY.out.below hB)
    replace HB := Lib.hid (HB.out.trans (hB.mono HB.out.size))
    rw [HR1.out]
    clear hB
    have cHC := HC.out
    go_wp2_with fail
    refine (ints_calls _ _ s t _ HS.out.1.sl HT.out.1.sl (by have := HL.out; unfold maxLen; omega)).mono ?_
    clear cHC
    rintro e W5 ⟨rfl, hB⟩
    replace HS := Lib.hid (HS.out.below hB)
    replace HT := Lib.hid (HT.out.below hB)
    replace HC := Lib.hid (keep_below hB _ _ HC.out)
    replace HZ := Lib.hid (HZ.out.below hB)
    replace HY := Lib.hid (HY.out.below hB)
    replace HB := Lib.hid (HB.out.trans (hB.mono HB.out.size))
    rw [HR2.out]
    have hrr : (r != r) = false := by cases r <;> rfl
    clear hB
    have cHC := HC.out
    have hkc := hk
    have hcp := hcap
    go_wp2_with fail
    refine (Calls.grow_same6 (rproduct_calls _ T1 1048576 _ (show Slc _ _ (.slice (some ⟨b, off, none⟩) k cap) T1.length (ints T1) by have := Slc.take HS.out k (by omega); rw [HT1e.out] at this; exact this) (by rw [HT1L.out]; have := HL.out; omega))).mono ?_
    clear cHC
    rintro e W6 ⟨rfl, hB⟩
    replace HS := Lib.hid (HS.out.below hB)
    replace HT := Lib.hid (HT.out.below hB)
    replace HC := Lib.hid (keep_below hB _ _ HC.out)
    replace HZ := Lib.hid (HZ.out.below hB)
    replace HY := Lib.hid (HY.out.below hB)
    replace HB := Lib.hid (HB.out.trans (hB.mono HB.out.size))
    rw [HP.out]
    clear hB
    have cHC := HC.out
    go_wp2_with fail
    have HT2s := Lib.hid (show Slc W6 (fun _ => True) (.slice (some ⟨b, off + (k + 1), none⟩) (s.length - (k + 1)) (cap - (k + 1))) T2.length (ints T2) by have := Slc.drop HS.out (k + 1) hkc; rw [HT2e.out] at this; exact this)
    refine (Calls.grow_same6 (rproduct_calls _ T2 1048576 _ HT2s.out (by rw [HT2L.out]; have := HL.out; omega))).mono ?_
    clear cHC
    rintro e W7 ⟨rfl, hB⟩
    replace HS := Lib.hid (HS.out.below hB)
    replace HT := Lib.hid (HT.out.below hB)
    replace HC := Lib.hid (keep_below hB _ _ HC.out)
    replace HZ := Lib.hid (HZ.out.below hB)
    replace HY := Lib.hid (HY.out.below hB)
    replace HB := Lib.hid (HB.out.trans (hB.mono HB.out.size))
    rw [HQ.out]
    clear hB
    have cHC := HC.out
    go_wp2_with fail
    refine (Calls.grow_same6 (rgood_calls _ s _ HS.out HL3.out)).mono ?_
    clear cHC
    rintro e W8 ⟨rfl, hB⟩
    replace HS := Lib.hid (HS.out.below hB)
    replace HT := Lib.hid (HT.out.below hB)
    replace HC := Lib.hid (keep_below hB _ _ HC.out)
    replace HZ := Lib.hid (HZ.out.below hB)
    replace HY := Lib.hid (HY.out.below hB)
    replace HB := Lib.hid (HB.out.trans (hB.mono HB.out.size))
    rw [HG.out]
    clear hB
    have cHC := HC.out
    go_wp2_with fail
    refine (rwith_calls _ s k n _ HS.out (by have := HL.out; omega) hkc).mono ?_
    clear cHC
    rintro e W9 ⟨v5, rfl, hs, hB⟩
    replace HS := Lib.hid (HS.out.below hB)
    replace HT := Lib.hid (HT.out.below hB)
    replace HC := Lib.hid (keep_below hB _ _ HC.out)
    replace HZ := Lib.hid (HZ.out.below hB)
    replace HY := Lib.hid (HY.out.below hB)
    replace HB := Lib.hid (HB.out.trans (hB.mono HB.out.size))
    have HW5 := Lib.hid (show Slc W9 _ v5 S1.length (ints S1) from by rw [HS1e.out] at hs; rw [HS1L.out]; exact hs)
    clear hs
    clear hB
    have cHC := HC.out
    obtain ⟨ao5, cap5, rfl, _⟩ := HW5.out.opened
    go_wp2_with fail
    refine (Calls.grow_same6 (rgood_calls _ S1 _ HW5.out (by rw [HS1L.out]; have := HL.out; omega))).mono ?_
    clear cHC
    rintro e W10 ⟨rfl, hB⟩
    replace HS := Lib.hid (HS.out.below hB)
    replace HT := Lib.hid (HT.out.below hB)
    replace HC := Lib.hid (keep_below hB _ _ HC.out)
    replace HZ := Lib.hid (HZ.out.below hB)
    replace HY := Lib.hid (HY.out.below hB)
    replace HW5 := Lib.hid (HW5.out.below hB)
    replace HB := Lib.hid (HB.out.trans (hB.mono HB.out.size))
    rw [HI.out]
    clear hB
    have cHC := HC.out
    go_wp2_with fail
    refine (ints_calls _ _ S1 S1 _ HZ.out.1.sl HW5.out.1.sl (by rw [HS1L.out]; have := HL.out; unfold maxLen; omega)).mono ?_
    clear cHC
    rintro e W11 ⟨rfl, hB⟩
    replace HS := Lib.hid (HS.out.below hB)
    replace HT := Lib.hid (HT.out.below hB)
    replace HC := Lib.hid (keep_below hB _ _ HC.out)
    replace HZ := Lib.hid (HZ.out.below hB)
    replace HY := Lib.hid (HY.out.below hB)
    replace HW5 := Lib.hid (HW5.out.below hB)
    replace HB := Lib.hid (HB.out.trans (hB.mono HB.out.size))
    rw [show (S1 == S1) = true from beq_self_eq_true S1]
    clear hB
    have cHC := HC.out
    go_wp2_with fail
    refine (rwithout_calls _ s (k : Int) _ HS.out (by have := HL.out; omega)).mono ?_
    clear cHC
    rintro e W12 ⟨v6, rfl, hs, hB⟩
    replace HS := Lib.hid (HS.out.below hB)
    replace HT := Lib.hid (HT.out.below hB)
    replace HC := Lib.hid (keep_below hB _ _ HC.out)
    replace HZ := Lib.hid (HZ.out.below hB)
    replace HY := Lib.hid (HY.out.below hB)
    replace HW5 := Lib.hid (HW5.out.below hB)
    replace HB := Lib.hid (HB.out.trans (hB.mono HB.out.size))
    have HW6 := Lib.hid (show Slc W12 _ v6 E.length (ints E) from by rw [HWO.out] at hs; exact hs)
    clear hs
    clear hB
    have cHC := HC.out
    obtain ⟨ao6, cap6, rfl, _⟩ := HW6.out.opened
    go_wp2_with fail
    refine (ints_calls _ _ E E _ HY.out.1.sl HW6.out.1.sl HEL.out).mono ?_
    clear cHC
    rintro e W13 ⟨rfl, hB⟩
    replace HS := Lib.hid (HS.out.below hB)
    replace HT := Lib.hid (HT.out.below hB)
    replace HC := Lib.hid (keep_below hB _ _ HC.out)
    replace HZ := Lib.hid (HZ.out.below hB)
    replace HY := Lib.hid (HY.out.below hB)
    replace HW5 := Lib.hid (HW5.out.below hB)
    replace HW6 := Lib.hid (HW6.out.below hB)
    replace HB := Lib.hid (HB.out.trans (hB.mono HB.out.size))
    rw [show (E == E) = true from beq_self_eq_true E]
    clear hB
    have cHC := HC.out
    go_wp2_with fail
    refine (awake6_calls _).mono ?_
    clear cHC
    rintro e W14 ⟨rfl, hB⟩
    replace HS := Lib.hid (HS.out.below hB)
    replace HT := Lib.hid (HT.out.below hB)
    replace HC := Lib.hid (keep_below hB _ _ HC.out)
    replace HZ := Lib.hid (HZ.out.below hB)
    replace HY := Lib.hid (HY.out.below hB)
    replace HW5 := Lib.hid (HW5.out.below hB)
    replace HW6 := Lib.hid (HW6.out.below hB)
    replace HB := Lib.hid (HB.out.trans (hB.mono HB.out.size))
    clear hB
    have cHC := HC.out
    go_wp2
    go_ret
    exact ⟨rfl, HB.out⟩

set_option maxHeartbeats 8000000 in
theorem shAxes_bb (w : World) (v v2 : Value) (s t : List Int) (k : Nat) (n : Int) (HS : Hid (Slc w (fun _ => True) v s.length (ints s))) (HT : Hid (Slc w (fun _ => True) v2 t.length (ints t))) (hl : s.length ≤ 60) (hl2 : t.length ≤ 60) (hk : k < s.length) (hg : goodS s = false) (hi : goodS (s.set k n) = false) :
    Calls Try.prog 6 #[v, .int .i64 (k : Int), .int .i64 n, v2] w fun e w' => e = .returned (.bool true) ∧ Below w.heap.size w w' := by
  have HB := Lib.hid (Below.refl w.heap.size w)
  have HL := Lib.hid (show s.length ≤ 1000 by omega)
  have HL2 := Lib.hid (show t.length ≤ 1000 by omega)
  have HL3 := Lib.hid (show s.length ≤ 9223372036854775807 by omega)
  have HG := Lib.hid hg
  have HI := Lib.hid hi
  have HAX := Lib.hid (show axisG s (k : Int) = true from decide_eq_true ⟨by omega, by omega⟩)
  obtain ⟨x0, hx0⟩ : ∃ x0, s[k]? = some x0 := ⟨_, List.getElem?_eq_getElem hk⟩
  obtain ⟨p, e1, hp⟩ : ∃ p e1, prodR (s.take k) 1048576 = (p, e1) := ⟨_, _, rfl⟩
  obtain ⟨q, f1, hq⟩ : ∃ q f1, prodR (s.drop (k + 1)) 1048576 = (q, f1) := ⟨_, _, rfl⟩
  have HP := Lib.hid hp
  have HQ := Lib.hid hq
  have HSP := Lib.hid (show splitG s (k : Int) = (0, 0, 0) by unfold splitG; rw [HG.out]; rfl)
  have HSB := Lib.hid (show (goodS s && axisG s (k : Int)) = false by rw [HG.out]; rfl)
  obtain ⟨S1, hS1⟩ : ∃ S1, s.set k n = S1 := ⟨_, rfl⟩
  have HS1L := Lib.hid (show S1.length = s.length by rw [← hS1, List.length_set])
  have HWB := Lib.hid (show (axisG s (k : Int) && goodS (s.set (k : Int).toNat n)) = false by rw [HAX.out, Int.toNat_natCast, HI.out]; rfl)
  have HWG := Lib.hid (show withG s (k : Int) n = [] by unfold withG; rw [HWB.out]; rfl)
  rw [hS1] at HI
  obtain ⟨E, hE⟩ : ∃ E, s.eraseIdx k = E := ⟨_, rfl⟩
  have HEL := Lib.hid (show E.length ≤ maxLen by rw [← hE]; have := List.length_eraseIdx_le s k; unfold maxLen; omega)
  have HOG := Lib.hid (show outG s (k : Int) = E by unfold outG; rw [HAX.out, if_pos rfl, Int.toNat_natCast]; exact hE)
  have HWO := Lib.hid (show withoutR s (k : Int) = E by rw [without_erase s k hk]; exact hE)
  have HS1e := Lib.hid hS1
  obtain ⟨r, hr⟩ : ∃ r, (s == t) = r := ⟨_, rfl⟩
  have HR1 := Lib.hid (show decide (s = t) = r by rw [← hr, Bool.eq_iff_iff]; simp)
  have HR2 := Lib.hid hr
  obtain ⟨T1, hT1⟩ : ∃ T1, s.take k = T1 := ⟨_, rfl⟩
  obtain ⟨T2, hT2⟩ : ∃ T2, s.drop (k + 1) = T2 := ⟨_, rfl⟩
  rw [hT1] at HP
  rw [hT2] at HQ
  have HT1e := Lib.hid hT1
  have HT2e := Lib.hid hT2
  have HT1L := Lib.hid (show T1.length = k by rw [← hT1, List.length_take]; omega)
  have HT2L := Lib.hid (show T2.length = s.length - (k + 1) by rw [← hT2, List.length_drop])
  obtain ⟨ao, cap, rfl, _⟩ := HS.out.opened
  obtain ⟨ao2, cap2, rfl, _⟩ := HT.out.opened
  obtain ⟨b, off, cap', x1, e2, hx1, hc1⟩ := slc_at (Value.int .i64) (show Slc w _ (.slice ao s.length cap) s.length (s.map (Value.int .i64)) from HS.out) k hk
  obtain ⟨e2a, e2b⟩ : ao = some ⟨b, off, none⟩ ∧ cap = cap' := by cases e2; exact ⟨rfl, rfl⟩
  subst e2a
  have hxx : x1 = x0 := by rw [hx0] at hx1; exact (Option.some.inj hx1).symm
  subst hxx
  have HC := Lib.hid hc1
  have hcap : s.length ≤ cap := by have := HS.out.opened; obtain ⟨a, c, e, h, _⟩ := this; cases e; exact h
  clear hg hi hp hq hx0 hx1 hc1 e2 e2b hS1 hE hr hT1 hT2
  by_cases hce : cap = k + 1
  · have hcz : cap - (k + 1) = 0 := by omega
    have hlz : s.length - (k + 1) = 0 := by omega
    have HCE := Lib.hid hce
    clear hce
    have cHC := HC.out
    go_enter Try.func6, Try.ntmps6
    go_wp2_with fail
    refine (ssplit_calls _ s (k : Int) _ HS.out HL.out).mono ?_
    clear cHC
    rintro e W1 ⟨rfl, hB⟩
    replace HS := Lib.hid (HS.out.below hB)
    replace HT := Lib.hid (HT.out.below hB)
    replace HC := Lib.hid (keep_below hB _ _ HC.out)
    replace HB := Lib.hid (HB.out.trans (hB.mono HB.out.size))
    rw [HSP.out, HSB.out]
    clear hB
    have cHC := HC.out
    go_wp2_with fail
    refine (swith_calls _ s (k : Int) n _ HS.out HL.out).mono ?_
    clear cHC
    rintro e W2 ⟨z, rfl, hs, hB⟩
    replace HS := Lib.hid (HS.out.below hB)
    replace HT := Lib.hid (HT.out.below hB)
    replace HC := Lib.hid (keep_below hB _ _ HC.out)
    replace HB := Lib.hid (HB.out.trans (hB.mono HB.out.size))
    rw [HWB.out]
    have HZ := Lib.hid (show Slc W2 _ z ([] : List Int).length (ints []) from by rw [HWG.out] at hs; exact hs)
    clear hs
    clear hB
    have cHC := HC.out
    obtain ⟨aoz, capz, rfl, _⟩ := HZ.out.opened
    go_wp2_with fail
    refine (swithout_calls _ s (k : Int) _ HS.out HL.out).mono ?_
    clear cHC
    rintro e W3 ⟨y, rfl, hs, hB⟩
    replace HS := Lib.hid (HS.out.below hB)
    replace HT := Lib.hid (HT.out.below hB)
    replace HC := Lib.hid (keep_below hB _ _ HC.out)
    replace HZ := Lib.hid (HZ.out.below hB)
    replace HB := Lib.hid (HB.out.trans (hB.mono HB.out.size))
    rw [HAX.out]
    have HY := Lib.hid (show Slc W3 _ y E.length (ints E) from by rw [HOG.out] at hs; exact hs)
    clear hs
    clear hB
    have cHC := HC.out
    obtain ⟨aoy, capy, rfl, _⟩ := HY.out.opened
    go_wp2_with fail
    refine (ssame_calls _ _ s t _ HS.out HL.out HT.out HL2.out).mono ?_
    clear cHC
    rintro e W4 ⟨rfl, hB⟩
    replace HS := Lib.hid (HS.out.below hB)
    replace HT := Lib.hid (HT.out.below hB)
    replace HC := Lib.hid (keep_below hB _ _ HC.out)
    replace HZ := Lib.hid (HZ.out.below hB)
    replace HY := Lib.hid (HY.out.below hB)
    replace HB := Lib.hid (HB.out.trans (hB.mono HB.out.size))
    rw [HR1.out]
    clear hB
    have cHC := HC.out
    go_wp2_with fail
    refine (ints_calls _ _ s t _ HS.out.1.sl HT.out.1.sl (by have := HL.out; unfold maxLen; omega)).mono ?_
    clear cHC
    rintro e W5 ⟨rfl, hB⟩
    replace HS := Lib.hid (HS.out.below hB)
    replace HT := Lib.hid (HT.out.below hB)
    replace HC := Lib.hid (keep_below hB _ _ HC.out)
    replace HZ := Lib.hid (HZ.out.below hB)
    replace HY := Lib.hid (HY.out.below hB)
    replace HB := Lib.hid (HB.out.trans (hB.mono HB.out.size))
    rw [HR2.out]
    have hrr : (r != r) = false := by cases r <;> rfl
    clear hB
    have cHC := HC.out
    have hkc := hk
    have hcp := hcap
    go_wp2_with fail
    refine (Calls.grow_same6 (rproduct_calls _ T1 1048576 _ (show Slc _ _ (.slice (some ⟨b, off, none⟩) k cap) T1.length (ints T1) by have := Slc.take HS.out k (by omega); rw [HT1e.out] at this; exact this) (by rw [HT1L.out]; have := HL.out; omega))).mono ?_
    clear cHC
    rintro e W6 ⟨rfl, hB⟩
    replace HS := Lib.hid (HS.out.below hB)
    replace HT := Lib.hid (HT.out.below hB)
    replace HC := Lib.hid (keep_below hB _ _ HC.out)
    replace HZ := Lib.hid (HZ.out.below hB)
    replace HY := Lib.hid (HY.out.below hB)
    replace HB := Lib.hid (HB.out.trans (hB.mono HB.out.size))
    rw [HP.out]
    clear hB
    have cHC := HC.out
    go_wp2_with fail
    have HT2s := Lib.hid (show Slc W6 (fun _ => True) (.slice (some ⟨b, off, none⟩) 0 0) T2.length (ints T2) by have := Slc.drop0 (w := W6) (ok := fun _ => True) (b := b) (off := off) hcp HCE.out hkc; rw [HT2e.out, hlz] at this; exact this)
    refine (Calls.grow_same6 (rproduct_calls _ T2 1048576 _ HT2s.out (by rw [HT2L.out]; have := HL.out; omega))).mono ?_
    clear cHC
    rintro e W7 ⟨rfl, hB⟩
    replace HS := Lib.hid (HS.out.below hB)
    replace HT := Lib.hid (HT.out.below hB)
    replace HC := Lib.hid (keep_below hB _ _ HC.out)
    replace HZ := Lib.hid (HZ.out.below hB)
    replace HY := Lib.hid (HY.out.below hB)
    replace HB := Lib.hid (HB.out.trans (hB.mono HB.out.size))
    rw [HQ.out]
    clear hB
    have cHC := HC.out
    go_wp2_with fail
    refine (Calls.grow_same6 (rgood_calls _ s _ HS.out HL3.out)).mono ?_
    clear cHC
    rintro e W8 ⟨rfl, hB⟩
    replace HS := Lib.hid (HS.out.below hB)
    replace HT := Lib.hid (HT.out.below hB)
    replace HC := Lib.hid (keep_below hB _ _ HC.out)
    replace HZ := Lib.hid (HZ.out.below hB)
    replace HY := Lib.hid (HY.out.below hB)
    replace HB := Lib.hid (HB.out.trans (hB.mono HB.out.size))
    rw [HG.out]
    clear hB
    have cHC := HC.out
    go_wp2_with fail
    refine (rwith_calls _ s k n _ HS.out (by have := HL.out; omega) hkc).mono ?_
    clear cHC
    rintro e W9 ⟨v5, rfl, hs, hB⟩
    replace HS := Lib.hid (HS.out.below hB)
    replace HT := Lib.hid (HT.out.below hB)
    replace HC := Lib.hid (keep_below hB _ _ HC.out)
    replace HZ := Lib.hid (HZ.out.below hB)
    replace HY := Lib.hid (HY.out.below hB)
    replace HB := Lib.hid (HB.out.trans (hB.mono HB.out.size))
    have HW5 := Lib.hid (show Slc W9 _ v5 S1.length (ints S1) from by rw [HS1e.out] at hs; rw [HS1L.out]; exact hs)
    clear hs
    clear hB
    have cHC := HC.out
    obtain ⟨ao5, cap5, rfl, _⟩ := HW5.out.opened
    go_wp2_with fail
    refine (Calls.grow_same6 (rgood_calls _ S1 _ HW5.out (by rw [HS1L.out]; have := HL.out; omega))).mono ?_
    clear cHC
    rintro e W10 ⟨rfl, hB⟩
    replace HS := Lib.hid (HS.out.below hB)
    replace HT := Lib.hid (HT.out.below hB)
    replace HC := Lib.hid (keep_below hB _ _ HC.out)
    replace HZ := Lib.hid (HZ.out.below hB)
    replace HY := Lib.hid (HY.out.below hB)
    replace HW5 := Lib.hid (HW5.out.below hB)
    replace HB := Lib.hid (HB.out.trans (hB.mono HB.out.size))
    rw [HI.out]
    clear hB
    have cHC := HC.out
    go_wp2_with fail
    refine (rwithout_calls _ s (k : Int) _ HS.out (by have := HL.out; omega)).mono ?_
    clear cHC
    rintro e W11 ⟨v6, rfl, hs, hB⟩
    replace HS := Lib.hid (HS.out.below hB)
    replace HT := Lib.hid (HT.out.below hB)
    replace HC := Lib.hid (keep_below hB _ _ HC.out)
    replace HZ := Lib.hid (HZ.out.below hB)
    replace HY := Lib.hid (HY.out.below hB)
    replace HW5 := Lib.hid (HW5.out.below hB)
    replace HB := Lib.hid (HB.out.trans (hB.mono HB.out.size))
    have HW6 := Lib.hid (show Slc W11 _ v6 E.length (ints E) from by rw [HWO.out] at hs; exact hs)
    clear hs
    clear hB
    have cHC := HC.out
    obtain ⟨ao6, cap6, rfl, _⟩ := HW6.out.opened
    go_wp2_with fail
    refine (ints_calls _ _ E E _ HY.out.1.sl HW6.out.1.sl HEL.out).mono ?_
    clear cHC
    rintro e W12 ⟨rfl, hB⟩
    replace HS := Lib.hid (HS.out.below hB)
    replace HT := Lib.hid (HT.out.below hB)
    replace HC := Lib.hid (keep_below hB _ _ HC.out)
    replace HZ := Lib.hid (HZ.out.below hB)
    replace HY := Lib.hid (HY.out.below hB)
    replace HW5 := Lib.hid (HW5.out.below hB)
    replace HW6 := Lib.hid (HW6.out.below hB)
    replace HB := Lib.hid (HB.out.trans (hB.mono HB.out.size))
    rw [show (E == E) = true from beq_self_eq_true E]
    clear hB
    have cHC := HC.out
    go_wp2_with fail
    refine (awake6_calls _).mono ?_
    clear cHC
    rintro e W13 ⟨rfl, hB⟩
    replace HS := Lib.hid (HS.out.below hB)
    replace HT := Lib.hid (HT.out.below hB)
    replace HC := Lib.hid (keep_below hB _ _ HC.out)
    replace HZ := Lib.hid (HZ.out.below hB)
    replace HY := Lib.hid (HY.out.below hB)
    replace HW5 := Lib.hid (HW5.out.below hB)
    replace HW6 := Lib.hid (HW6.out.below hB)
    replace HB := Lib.hid (HB.out.trans (hB.mono HB.out.size))
    clear hB
    have cHC := HC.out
    go_wp2
    go_ret
    exact ⟨rfl, HB.out⟩
  · have hcz : ¬ cap - (k + 1) = 0 := by omega
    have hcz2 : ¬ cap = k + 1 := hce
    have hcz3 : 0 < cap - (k + 1) := by omega
    clear hce
    have cHC := HC.out
    go_enter Try.func6, Try.ntmps6
    go_wp2_with fail
    refine (ssplit_calls _ s (k : Int) _ HS.out HL.out).mono ?_
    clear cHC
    rintro e W1 ⟨rfl, hB⟩
    replace HS := Lib.hid (HS.out.below hB)
    replace HT := Lib.hid (HT.out.below hB)
    replace HC := Lib.hid (keep_below hB _ _ HC.out)
    replace HB := Lib.hid (HB.out.trans (hB.mono HB.out.size))
    rw [HSP.out, HSB.out]
    clear hB
    have cHC := HC.out
    go_wp2_with fail
    refine (swith_calls _ s (k : Int) n _ HS.out HL.out).mono ?_
    clear cHC
    rintro e W2 ⟨z, rfl, hs, hB⟩
    replace HS := Lib.hid (HS.out.below hB)
    replace HT := Lib.hid (HT.out.below hB)
    replace HC := Lib.hid (keep_below hB _ _ HC.out)
    replace HB := Lib.hid (HB.out.trans (hB.mono HB.out.size))
    rw [HWB.out]
    have HZ := Lib.hid (show Slc W2 _ z ([] : List Int).length (ints []) from by rw [HWG.out] at hs; exact hs)
    clear hs
    clear hB
    have cHC := HC.out
    obtain ⟨aoz, capz, rfl, _⟩ := HZ.out.opened
    go_wp2_with fail
    refine (swithout_calls _ s (k : Int) _ HS.out HL.out).mono ?_
    clear cHC
    rintro e W3 ⟨y, rfl, hs, hB⟩
    replace HS := Lib.hid (HS.out.below hB)
    replace HT := Lib.hid (HT.out.below hB)
    replace HC := Lib.hid (keep_below hB _ _ HC.out)
    replace HZ := Lib.hid (HZ.out.below hB)
    replace HB := Lib.hid (HB.out.trans (hB.mono HB.out.size))
    rw [HAX.out]
    have HY := Lib.hid (show Slc W3 _ y E.length (ints E) from by rw [HOG.out] at hs; exact hs)
    clear hs
    clear hB
    have cHC := HC.out
    obtain ⟨aoy, capy, rfl, _⟩ := HY.out.opened
    go_wp2_with fail
    refine (ssame_calls _ _ s t _ HS.out HL.out HT.out HL2.out).mono ?_
    clear cHC
    rintro e W4 ⟨rfl, hB⟩
    replace HS := Lib.hid (HS.out.below hB)
    replace HT := Lib.hid (HT.out.below hB)
    replace HC := Lib.hid (keep_below hB _ _ HC.out)
    replace HZ := Lib.hid (HZ.out.below hB)
    replace HY := Lib.hid (HY.out.below hB)
    replace HB := Lib.hid (HB.out.trans (hB.mono HB.out.size))
    rw [HR1.out]
    clear hB
    have cHC := HC.out
    go_wp2_with fail
    refine (ints_calls _ _ s t _ HS.out.1.sl HT.out.1.sl (by have := HL.out; unfold maxLen; omega)).mono ?_
    clear cHC
    rintro e W5 ⟨rfl, hB⟩
    replace HS := Lib.hid (HS.out.below hB)
    replace HT := Lib.hid (HT.out.below hB)
    replace HC := Lib.hid (keep_below hB _ _ HC.out)
    replace HZ := Lib.hid (HZ.out.below hB)
    replace HY := Lib.hid (HY.out.below hB)
    replace HB := Lib.hid (HB.out.trans (hB.mono HB.out.size))
    rw [HR2.out]
    have hrr : (r != r) = false := by cases r <;> rfl
    clear hB
    have cHC := HC.out
    have hkc := hk
    have hcp := hcap
    go_wp2_with fail
    refine (Calls.grow_same6 (rproduct_calls _ T1 1048576 _ (show Slc _ _ (.slice (some ⟨b, off, none⟩) k cap) T1.length (ints T1) by have := Slc.take HS.out k (by omega); rw [HT1e.out] at this; exact this) (by rw [HT1L.out]; have := HL.out; omega))).mono ?_
    clear cHC
    rintro e W6 ⟨rfl, hB⟩
    replace HS := Lib.hid (HS.out.below hB)
    replace HT := Lib.hid (HT.out.below hB)
    replace HC := Lib.hid (keep_below hB _ _ HC.out)
    replace HZ := Lib.hid (HZ.out.below hB)
    replace HY := Lib.hid (HY.out.below hB)
    replace HB := Lib.hid (HB.out.trans (hB.mono HB.out.size))
    rw [HP.out]
    clear hB
    have cHC := HC.out
    go_wp2_with fail
    have HT2s := Lib.hid (show Slc W6 (fun _ => True) (.slice (some ⟨b, off + (k + 1), none⟩) (s.length - (k + 1)) (cap - (k + 1))) T2.length (ints T2) by have := Slc.drop HS.out (k + 1) hkc; rw [HT2e.out] at this; exact this)
    refine (Calls.grow_same6 (rproduct_calls _ T2 1048576 _ HT2s.out (by rw [HT2L.out]; have := HL.out; omega))).mono ?_
    clear cHC
    rintro e W7 ⟨rfl, hB⟩
    replace HS := Lib.hid (HS.out.below hB)
    replace HT := Lib.hid (HT.out.below hB)
    replace HC := Lib.hid (keep_below hB _ _ HC.out)
    replace HZ := Lib.hid (HZ.out.below hB)
    replace HY := Lib.hid (HY.out.below hB)
    replace HB := Lib.hid (HB.out.trans (hB.mono HB.out.size))
    rw [HQ.out]
    clear hB
    have cHC := HC.out
    go_wp2_with fail
    refine (Calls.grow_same6 (rgood_calls _ s _ HS.out HL3.out)).mono ?_
    clear cHC
    rintro e W8 ⟨rfl, hB⟩
    replace HS := Lib.hid (HS.out.below hB)
    replace HT := Lib.hid (HT.out.below hB)
    replace HC := Lib.hid (keep_below hB _ _ HC.out)
    replace HZ := Lib.hid (HZ.out.below hB)
    replace HY := Lib.hid (HY.out.below hB)
    replace HB := Lib.hid (HB.out.trans (hB.mono HB.out.size))
    rw [HG.out]
    clear hB
    have cHC := HC.out
    go_wp2_with fail
    refine (rwith_calls _ s k n _ HS.out (by have := HL.out; omega) hkc).mono ?_
    clear cHC
    rintro e W9 ⟨v5, rfl, hs, hB⟩
    replace HS := Lib.hid (HS.out.below hB)
    replace HT := Lib.hid (HT.out.below hB)
    replace HC := Lib.hid (keep_below hB _ _ HC.out)
    replace HZ := Lib.hid (HZ.out.below hB)
    replace HY := Lib.hid (HY.out.below hB)
    replace HB := Lib.hid (HB.out.trans (hB.mono HB.out.size))
    have HW5 := Lib.hid (show Slc W9 _ v5 S1.length (ints S1) from by rw [HS1e.out] at hs; rw [HS1L.out]; exact hs)
    clear hs
    clear hB
    have cHC := HC.out
    obtain ⟨ao5, cap5, rfl, _⟩ := HW5.out.opened
    go_wp2_with fail
    refine (Calls.grow_same6 (rgood_calls _ S1 _ HW5.out (by rw [HS1L.out]; have := HL.out; omega))).mono ?_
    clear cHC
    rintro e W10 ⟨rfl, hB⟩
    replace HS := Lib.hid (HS.out.below hB)
    replace HT := Lib.hid (HT.out.below hB)
    replace HC := Lib.hid (keep_below hB _ _ HC.out)
    replace HZ := Lib.hid (HZ.out.below hB)
    replace HY := Lib.hid (HY.out.below hB)
    replace HW5 := Lib.hid (HW5.out.below hB)
    replace HB := Lib.hid (HB.out.trans (hB.mono HB.out.size))
    rw [HI.out]
    clear hB
    have cHC := HC.out
    go_wp2_with fail
    refine (rwithout_calls _ s (k : Int) _ HS.out (by have := HL.out; omega)).mono ?_
    clear cHC
    rintro e W11 ⟨v6, rfl, hs, hB⟩
    replace HS := Lib.hid (HS.out.below hB)
    replace HT := Lib.hid (HT.out.below hB)
    replace HC := Lib.hid (keep_below hB _ _ HC.out)
    replace HZ := Lib.hid (HZ.out.below hB)
    replace HY := Lib.hid (HY.out.below hB)
    replace HW5 := Lib.hid (HW5.out.below hB)
    replace HB := Lib.hid (HB.out.trans (hB.mono HB.out.size))
    have HW6 := Lib.hid (show Slc W11 _ v6 E.length (ints E) from by rw [HWO.out] at hs; exact hs)
    clear hs
    clear hB
    have cHC := HC.out
    obtain ⟨ao6, cap6, rfl, _⟩ := HW6.out.opened
    go_wp2_with fail
    refine (ints_calls _ _ E E _ HY.out.1.sl HW6.out.1.sl HEL.out).mono ?_
    clear cHC
    rintro e W12 ⟨rfl, hB⟩
    replace HS := Lib.hid (HS.out.below hB)
    replace HT := Lib.hid (HT.out.below hB)
    replace HC := Lib.hid (keep_below hB _ _ HC.out)
    replace HZ := Lib.hid (HZ.out.below hB)
    replace HY := Lib.hid (HY.out.below hB)
    replace HW5 := Lib.hid (HW5.out.below hB)
    replace HW6 := Lib.hid (HW6.out.below hB)
    replace HB := Lib.hid (HB.out.trans (hB.mono HB.out.size))
    rw [show (E == E) = true from beq_self_eq_true E]
    clear hB
    have cHC := HC.out
    go_wp2_with fail
    refine (awake6_calls _).mono ?_
    clear cHC
    rintro e W13 ⟨rfl, hB⟩
    replace HS := Lib.hid (HS.out.below hB)
    replace HT := Lib.hid (HT.out.below hB)
    replace HC := Lib.hid (keep_below hB _ _ HC.out)
    replace HZ := Lib.hid (HZ.out.below hB)
    replace HY := Lib.hid (HY.out.below hB)
    replace HW5 := Lib.hid (HW5.out.below hB)
    replace HW6 := Lib.hid (HW6.out.below hB)
    replace HB := Lib.hid (HB.out.trans (hB.mono HB.out.size))
    clear hB
    have cHC := HC.out
    go_wp2
    go_ret
    exact ⟨rfl, HB.out⟩

set_option maxHeartbeats 8000000 in
theorem shAxes_neg (w : World) (v v2 : Value) (s t : List Int) (a n : Int) (HS : Hid (Slc w (fun _ => True) v s.length (ints s))) (HT : Hid (Slc w (fun _ => True) v2 t.length (ints t))) (hl : s.length ≤ 60) (hl2 : t.length ≤ 60) (ha : a < 0)  :
    Calls Try.prog 6 #[v, .int .i64 a, .int .i64 n, v2] w fun e w' => e = .returned (.bool true) ∧ Below w.heap.size w w' := by
  have HB := Lib.hid (Below.refl w.heap.size w)
  have HL := Lib.hid (show s.length ≤ 1000 by omega)
  have HL2 := Lib.hid (show t.length ≤ 1000 by omega)
  have HAX := Lib.hid (show axisG s a = false from decide_eq_false (by omega))
  have HSP := Lib.hid (show splitG s a = (0, 0, 0) by unfold splitG; rw [HAX.out, Bool.and_false]; rfl)
  have HSB := Lib.hid (show (goodS s && axisG s a) = false by rw [HAX.out, Bool.and_false])
  have HWB := Lib.hid (show (axisG s a && goodS (s.set a.toNat n)) = false by rw [HAX.out]; rfl)
  have HWG := Lib.hid (show withG s a n = [] by unfold withG; rw [HWB.out]; rfl)
  have HOG := Lib.hid (show outG s a = [] by unfold outG; rw [HAX.out]; rfl)
  obtain ⟨r, hr⟩ : ∃ r, (s == t) = r := ⟨_, rfl⟩
  have HR1 := Lib.hid (show decide (s = t) = r by rw [← hr, Bool.eq_iff_iff]; simp)
  have HR2 := Lib.hid hr
  obtain ⟨ao, cap, rfl, _⟩ := HS.out.opened
  obtain ⟨ao2, cap2, rfl, _⟩ := HT.out.opened
  clear hr
  go_enter Try.func6, Try.ntmps6
  go_wp2_with fail
  refine (ssplit_calls _ s a _ HS.out HL.out).mono ?_
  rintro e W1 ⟨rfl, hB⟩
  replace HS := Lib.hid (HS.out.below hB)
  replace HT := Lib.hid (HT.out.below hB)
  replace HB := Lib.hid (HB.out.trans (hB.mono HB.out.size))
  rw [HSP.out, HSB.out]
  clear hB
  go_wp2_with fail
  refine (swith_calls _ s a n _ HS.out HL.out).mono ?_
  rintro e W2 ⟨z, rfl, hs, hB⟩
  replace HS := Lib.hid (HS.out.below hB)
  replace HT := Lib.hid (HT.out.below hB)
  replace HB := Lib.hid (HB.out.trans (hB.mono HB.out.size))
  rw [HWB.out]
  have HZ := Lib.hid (show Slc W2 _ z ([] : List Int).length (ints []) from by rw [HWG.out] at hs; exact hs)
  clear hs
  clear hB
  obtain ⟨aoz, capz, rfl, _⟩ := HZ.out.opened
  go_wp2_with fail
  refine (swithout_calls _ s a _ HS.out HL.out).mono ?_
  rintro e W3 ⟨y, rfl, hs, hB⟩
  replace HS := Lib.hid (HS.out.below hB)
  replace HT := Lib.hid (HT.out.below hB)
  replace HZ := Lib.hid (HZ.out.below hB)
  replace HB := Lib.hid (HB.out.trans (hB.mono HB.out.size))
  rw [HAX.out]
  have HY := Lib.hid (show Slc W3 _ y ([] : List Int).length (ints []) from by rw [HOG.out] at hs; exact hs)
  clear hs
  clear hB
  obtain ⟨aoy, capy, rfl, _⟩ := HY.out.opened
  go_wp2_with fail
  refine (ssame_calls _ _ s t _ HS.out HL.out HT.out HL2.out).mono ?_
  rintro e W4 ⟨rfl, hB⟩
  replace HS := Lib.hid (HS.out.below hB)
  replace HT := Lib.hid (HT.out.below hB)
  replace HZ := Lib.hid (HZ.out.below hB)
  replace HY := Lib.hid (HY.out.below hB)
  replace HB := Lib.hid (HB.out.trans (hB.mono HB.out.size))
  rw [HR1.out]
  clear hB
  go_wp2_with fail
  refine (ints_calls _ _ s t _ HS.out.1.sl HT.out.1.sl (by have := HL.out; unfold maxLen; omega)).mono ?_
  rintro e W5 ⟨rfl, hB⟩
  replace HS := Lib.hid (HS.out.below hB)
  replace HT := Lib.hid (HT.out.below hB)
  replace HZ := Lib.hid (HZ.out.below hB)
  replace HY := Lib.hid (HY.out.below hB)
  replace HB := Lib.hid (HB.out.trans (hB.mono HB.out.size))
  rw [HR2.out]
  have hrr : (r != r) = false := by cases r <;> rfl
  clear hB
  go_wp2_with fail
  refine (awake6_calls _).mono ?_
  rintro e W6 ⟨rfl, hB⟩
  replace HS := Lib.hid (HS.out.below hB)
  replace HT := Lib.hid (HT.out.below hB)
  replace HZ := Lib.hid (HZ.out.below hB)
  replace HY := Lib.hid (HY.out.below hB)
  replace HB := Lib.hid (HB.out.trans (hB.mono HB.out.size))
  clear hB
  go_wp2
  go_ret
  exact ⟨rfl, HB.out⟩

set_option maxHeartbeats 8000000 in
theorem shAxes_big (w : World) (v v2 : Value) (s t : List Int) (a n : Int) (HS : Hid (Slc w (fun _ => True) v s.length (ints s))) (HT : Hid (Slc w (fun _ => True) v2 t.length (ints t))) (hl : s.length ≤ 60) (hl2 : t.length ≤ 60) (ha : 0 ≤ a) (hb : (s.length : Int) ≤ a) :
    Calls Try.prog 6 #[v, .int .i64 a, .int .i64 n, v2] w fun e w' => e = .returned (.bool true) ∧ Below w.heap.size w w' := by
  have HB := Lib.hid (Below.refl w.heap.size w)
  have HL := Lib.hid (show s.length ≤ 1000 by omega)
  have HL2 := Lib.hid (show t.length ≤ 1000 by omega)
  have HAX := Lib.hid (show axisG s a = false from decide_eq_false (by omega))
  have HSP := Lib.hid (show splitG s a = (0, 0, 0) by unfold splitG; rw [HAX.out, Bool.and_false]; rfl)
  have HSB := Lib.hid (show (goodS s && axisG s a) = false by rw [HAX.out, Bool.and_false])
  have HWB := Lib.hid (show (axisG s a && goodS (s.set a.toNat n)) = false by rw [HAX.out]; rfl)
  have HWG := Lib.hid (show withG s a n = [] by unfold withG; rw [HWB.out]; rfl)
  have HOG := Lib.hid (show outG s a = [] by unfold outG; rw [HAX.out]; rfl)
  obtain ⟨r, hr⟩ : ∃ r, (s == t) = r := ⟨_, rfl⟩
  have HR1 := Lib.hid (show decide (s = t) = r by rw [← hr, Bool.eq_iff_iff]; simp)
  have HR2 := Lib.hid hr
  obtain ⟨ao, cap, rfl, _⟩ := HS.out.opened
  obtain ⟨ao2, cap2, rfl, _⟩ := HT.out.opened
  clear hr
  go_enter Try.func6, Try.ntmps6
  go_wp2_with fail
  refine (ssplit_calls _ s a _ HS.out HL.out).mono ?_
  rintro e W1 ⟨rfl, hB⟩
  replace HS := Lib.hid (HS.out.below hB)
  replace HT := Lib.hid (HT.out.below hB)
  replace HB := Lib.hid (HB.out.trans (hB.mono HB.out.size))
  rw [HSP.out, HSB.out]
  clear hB
  go_wp2_with fail
  refine (swith_calls _ s a n _ HS.out HL.out).mono ?_
  rintro e W2 ⟨z, rfl, hs, hB⟩
  replace HS := Lib.hid (HS.out.below hB)
  replace HT := Lib.hid (HT.out.below hB)
  replace HB := Lib.hid (HB.out.trans (hB.mono HB.out.size))
  rw [HWB.out]
  have HZ := Lib.hid (show Slc W2 _ z ([] : List Int).length (ints []) from by rw [HWG.out] at hs; exact hs)
  clear hs
  clear hB
  obtain ⟨aoz, capz, rfl, _⟩ := HZ.out.opened
  go_wp2_with fail
  refine (swithout_calls _ s a _ HS.out HL.out).mono ?_
  rintro e W3 ⟨y, rfl, hs, hB⟩
  replace HS := Lib.hid (HS.out.below hB)
  replace HT := Lib.hid (HT.out.below hB)
  replace HZ := Lib.hid (HZ.out.below hB)
  replace HB := Lib.hid (HB.out.trans (hB.mono HB.out.size))
  rw [HAX.out]
  have HY := Lib.hid (show Slc W3 _ y ([] : List Int).length (ints []) from by rw [HOG.out] at hs; exact hs)
  clear hs
  clear hB
  obtain ⟨aoy, capy, rfl, _⟩ := HY.out.opened
  go_wp2_with fail
  refine (ssame_calls _ _ s t _ HS.out HL.out HT.out HL2.out).mono ?_
  rintro e W4 ⟨rfl, hB⟩
  replace HS := Lib.hid (HS.out.below hB)
  replace HT := Lib.hid (HT.out.below hB)
  replace HZ := Lib.hid (HZ.out.below hB)
  replace HY := Lib.hid (HY.out.below hB)
  replace HB := Lib.hid (HB.out.trans (hB.mono HB.out.size))
  rw [HR1.out]
  clear hB
  go_wp2_with fail
  refine (ints_calls _ _ s t _ HS.out.1.sl HT.out.1.sl (by have := HL.out; unfold maxLen; omega)).mono ?_
  rintro e W5 ⟨rfl, hB⟩
  replace HS := Lib.hid (HS.out.below hB)
  replace HT := Lib.hid (HT.out.below hB)
  replace HZ := Lib.hid (HZ.out.below hB)
  replace HY := Lib.hid (HY.out.below hB)
  replace HB := Lib.hid (HB.out.trans (hB.mono HB.out.size))
  rw [HR2.out]
  have hrr : (r != r) = false := by cases r <;> rfl
  clear hB
  go_wp2_with fail
  refine (awake6_calls _).mono ?_
  rintro e W6 ⟨rfl, hB⟩
  replace HS := Lib.hid (HS.out.below hB)
  replace HT := Lib.hid (HT.out.below hB)
  replace HZ := Lib.hid (HZ.out.below hB)
  replace HY := Lib.hid (HY.out.below hB)
  replace HB := Lib.hid (HB.out.trans (hB.mono HB.out.size))
  clear hB
  go_wp2
  go_ret
  exact ⟨rfl, HB.out⟩

theorem shapeAxes_calls (w : World) (v : Value) (s : List Int) (hr1 : RowC w v (s.map (Value.int .i64))) (hz1 : ∀ z ∈ s, (Lit.int .i64 z).wf = true) (hl1 : s.length ≤ maxLen) (a : Int) (ha : (Lit.int .i64 a).wf = true) (n : Int) (hn : (Lit.int .i64 n).wf = true) (v2 : Value) (t : List Int) (hr2 : RowC w v2 (t.map (Value.int .i64))) (hz2 : ∀ z ∈ t, (Lit.int .i64 z).wf = true) (hl2 : t.length ≤ maxLen) :
    Calls Try.prog 6 #[v, .int .i64 a, .int .i64 n, v2] w fun e w' => e = .returned (.bool true) ∧ Below w.heap.size w w' := by
  have HS := Lib.hid (show Slc w (fun _ => True) v s.length (ints s) by have := hr1.slc; rw [List.length_map] at this; exact this)
  have HT := Lib.hid (show Slc w (fun _ => True) v2 t.length (ints t) by have := hr2.slc; rw [List.length_map] at this; exact this)
  unfold maxLen at hl1 hl2
  clear hr1 hz1 hr2 hz2 ha hn
  by_cases hb1 : 60 < s.length
  · obtain ⟨ao, cap, rfl, _⟩ := HS.out.opened
    obtain ⟨ao2, cap2, rfl, _⟩ := HT.out.opened
    go_enter Try.func6, Try.ntmps6
    go_wp2_with fail
    refine (awake6_calls w).mono ?_
    rintro e w1 ⟨rfl, hB⟩
    have HB := Lib.hid hB
    clear hB
    go_wp2
    go_ret
    exact ⟨rfl, HB.out⟩
  by_cases hb2 : 60 < t.length
  · obtain ⟨ao, cap, rfl, _⟩ := HS.out.opened
    obtain ⟨ao2, cap2, rfl, _⟩ := HT.out.opened
    go_enter Try.func6, Try.ntmps6
    go_wp2_with fail
    refine (awake6_calls w).mono ?_
    rintro e w1 ⟨rfl, hB⟩
    have HB := Lib.hid hB
    clear hB
    go_wp2
    go_ret
    exact ⟨rfl, HB.out⟩
  by_cases h0 : a < 0
  · exact shAxes_neg w v v2 s t a n HS HT (by omega) (by omega) h0
  by_cases h1 : (s.length : Int) ≤ a
  · exact shAxes_big w v v2 s t a n HS HT (by omega) (by omega) (by omega) h1
  obtain ⟨k, rfl⟩ : ∃ k : Nat, a = (k : Int) := ⟨a.toNat, by omega⟩
  cases hg : goodS s <;> cases hi : goodS (s.set k n)
  · exact shAxes_bb w v v2 s t k n HS HT (by omega) (by omega) (by omega) hg hi
  · exact shAxes_bg w v v2 s t k n HS HT (by omega) (by omega) (by omega) hg hi
  · exact shAxes_gb w v v2 s t k n HS HT (by omega) (by omega) (by omega) hg hi
  · exact shAxes_gg w v v2 s t k n HS HT (by omega) (by omega) (by omega) hg hi
end Go.Proofs.Ytnebondinjjodaa

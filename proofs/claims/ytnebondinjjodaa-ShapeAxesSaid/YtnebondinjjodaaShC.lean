/- The reference's shapes, walked: Place. -/
import Derived.Test.YtnebondinjjodaaShB
namespace Go.Proofs.Ytnebondinjjodaa
open Go.RowKit
set_option linter.unusedVariables false
set_option maxRecDepth 8000

theorem foldl_nz (l : List Int) : ∀ a : Int, l.foldl (fun n x => if 0 < x then n * x else n) a = a * nzp l := by
  induction l with
  | nil => intro a; simp [nzp]
  | cons x l ih =>
    intro a
    rw [List.foldl_cons, ih]
    have e : nzp (x :: l) = (if 0 < x then x else 1) * nzp l := by
      have := ih (if 0 < x then 1 * x else 1)
      unfold nzp
      rw [List.foldl_cons, this]
      split <;> simp [nzp]
    rw [e]
    split <;> simp [Int.mul_assoc]
theorem nzp_append (s t : List Int) : nzp (s ++ t) = nzp s * nzp t := by
  rw [show nzp (s ++ t) = t.foldl (fun n x => if 0 < x then n * x else n) (nzp s) by simp [nzp, List.foldl_append], foldl_nz]
theorem nzp_cons {x : Int} (h : 0 < x) (l : List Int) : nzp (x :: l) = x * nzp l := by
  have := nzp_append [x] l
  rw [show [x] ++ l = x :: l from rfl] at this
  rw [this]; simp [nzp, h]
theorem nzp_drop_le (s : List Int) (k : Nat) : nzp (s.drop k) ≤ nzp s := by
  have h := nzp_append (s.take k) (s.drop k)
  rw [List.take_append_drop] at h
  have h1 := nzp_pos (s.take k)
  have h2 := nzp_pos (s.drop k)
  have h3 : 1 * nzp (s.drop k) ≤ nzp (s.take k) * nzp (s.drop k) := Int.mul_le_mul_of_nonneg_right h1 (by omega)
  omega
/-- The place of indexes, where there is one. -/
def plc : List Int → List Int → Option Int
  | [], [] => some 0
  | a :: s, j :: t => match plc s t with
    | some p => if 0 ≤ j ∧ j < a then some (j * nzp s + p) else none
    | none => none
  | _, _ => none
theorem plc_up (s t : List Int) (hl : s.length = t.length) : ∀ k, k ≤ s.length → plc (s.drop k) (t.drop k) = none → plc s t = none := by
  intro k
  induction k with
  | zero => intro _ h; simpa using h
  | succ k ih =>
    intro hk h
    apply ih (by omega)
    have hs : k < s.length := by omega
    have ht : k < t.length := by omega
    rw [List.drop_eq_getElem_cons hs, List.drop_eq_getElem_cons ht, plc, h]
theorem plc_bound : ∀ (s t : List Int) (p : Int), plc s t = some p → 0 ≤ p ∧ p < nzp s ∧ ∀ x ∈ s, 0 < x := by
  intro s
  induction s with
  | nil =>
    intro t p h
    cases t with
    | nil => simp [plc] at h; subst h; exact ⟨by omega, by decide, by simp⟩
    | cons j t => simp [plc] at h
  | cons a s ih =>
    intro t p h
    cases t with
    | nil => simp [plc] at h
    | cons j t =>
      rw [plc] at h
      cases hq : plc s t with
      | none => rw [hq] at h; cases h
      | some q =>
        rw [hq] at h
        obtain ⟨h1, h2, h3⟩ := ih t q hq
        simp only at h
        split at h
        · rename_i hj
          have e := Option.some.inj h
          have hp := nzp_pos s
          have ha : 0 < a := by omega
          have m1 : 0 ≤ j * nzp s := Int.mul_nonneg hj.1 (by omega)
          have m2 : (j + 1) * nzp s ≤ a * nzp s := Int.mul_le_mul_of_nonneg_right (by omega) (by omega)
          rw [Int.add_mul, Int.one_mul] at m2
          rw [nzp_cons ha]
          refine ⟨by omega, by omega, fun x hx => ?_⟩
          rcases List.mem_cons.1 hx with rfl | hx
          · exact ha
          · exact h3 x hx
        · cases h
def placeR (s t : List Int) : Int := if goodS s = true ∧ s.length = t.length then (plc s t).getD (-1) else -1
theorem good_nz {s : List Int} (h : goodS s = true) : nzp s ≤ 1048576 := by
  unfold goodS prodR at h
  split at h
  · simp at h
  split at h
  · simp at h
  split at h
  · simp at h
  · omega
theorem plc_step {s t : List Int} {j : Nat} {a x p : Int} (ha : s[j]? = some a) (hx : t[j]? = some x) (h : plc (s.drop (j + 1)) (t.drop (j + 1)) = some p) (h1 : 0 ≤ x) (h2 : x < a) :
    plc (s.drop j) (t.drop j) = some (x * nzp (s.drop (j + 1)) + p) ∧ nzp (s.drop j) = a * nzp (s.drop (j + 1)) := by
  obtain ⟨hj, ea⟩ := List.getElem?_eq_some_iff.1 ha
  obtain ⟨hj2, ex⟩ := List.getElem?_eq_some_iff.1 hx
  rw [List.drop_eq_getElem_cons hj, List.drop_eq_getElem_cons hj2, ea, ex, plc, h]
  simp only
  rw [if_pos ⟨h1, h2⟩, nzp_cons (by omega)]
  exact ⟨rfl, rfl⟩
theorem plc_stop {s t : List Int} {j : Nat} {a x p : Int} (ha : s[j]? = some a) (hx : t[j]? = some x) (h : plc (s.drop (j + 1)) (t.drop (j + 1)) = some p) (h1 : ¬ (0 ≤ x ∧ x < a)) : plc (s.drop j) (t.drop j) = none := by
  obtain ⟨hj, ea⟩ := List.getElem?_eq_some_iff.1 ha
  obtain ⟨hj2, ex⟩ := List.getElem?_eq_some_iff.1 hx
  rw [List.drop_eq_getElem_cons hj, List.drop_eq_getElem_cons hj2, ea, ex, plc, h]
  simp only
  rw [if_neg h1]
theorem placeR_none {s t : List Int} (h : plc s t = none) : placeR s t = -1 := by unfold placeR; split <;> simp [h]

set_option maxHeartbeats 4000000 in
theorem rplace_calls {ok ok2 : Nat → Prop} (v1 v2 : Value) (s t : List Int) (w : World) (h1 : Slc w ok v1 s.length (ints s)) (h2 : Slc w ok2 v2 t.length (ints t)) (hl : s.length ≤ 1000000) (hl2 : t.length ≤ 1000000) :
    Calls Try.prog 18 #[v1, v2] w fun e w' => e = .returned (.int .i64 (placeR s t)) ∧ Below w.heap.size w w' := by
  have H1 := Lib.hid h1
  have H2 := Lib.hid h2
  obtain ⟨ao, cap, rfl, _⟩ := h1.opened
  obtain ⟨ao2, cap2, rfl, _⟩ := h2.opened
  clear h1 h2
  have HGD := Lib.hid (fun w (h : Slc w ok (.slice ao s.length cap) s.length (ints s)) => rgood_calls _ s w h (by omega))
  cases hg : goodS s
  · have HP := Lib.hid (show placeR s t = -1 by unfold placeR; rw [if_neg (by rw [hg]; simp)])
    have HG := Lib.hid hg
    clear hg
    go_enter Try.func18, Try.ntmps18
    go_wp2_with fail
    refine (HGD.out _ H1.out).mono ?_
    rintro e w1 ⟨rfl, rfl⟩
    rw [HG.out]
    go_wp2
    go_ret
    exact ⟨ret_i HP.out.symm, Below.refl _ _⟩
  · by_cases hst : s.length = t.length
    · have HNZ := Lib.hid (good_nz hg)
      have HG := Lib.hid hg
      have HST := Lib.hid hst
      obtain ⟨n, hn⟩ : ∃ n, n = s.length := ⟨_, rfl⟩
      have HN := Lib.hid hn
      rw [← hst, ← hn] at hl2
      rw [← hst] at H2 ⊢
      rw [← hn] at H1 H2 HGD ⊢
      have hb : ((n : Int) != (n : Int)) = false := by simp
      clear hg hst hn hl
      go_enter Try.func18, Try.ntmps18
      go_wp2_with fail
      refine (HGD.out _ H1.out).mono ?_
      rintro e w1 ⟨rfl, rfl⟩
      rw [HG.out]
      go_wp2
      go_loopw [5, 6, 7] (fun a b i wr => ∃ (k q : Nat) (p : Int), k ≤ n ∧ i = .int .i64 ((k : Int) - 1) ∧ a = .int .i64 p ∧ b = .int .i64 (nzp (s.drop k)) ∧ plc (s.drop k) (t.drop k) = some p ∧ wr = w.drewN q) (fun _ _ i _ => (intOf i + 1).toNat)
      case atStart => exact ⟨n, 0, 0, by omega, rfl, rfl, by rw [List.drop_of_length_le (by rw [HN.out]; omega)]; rfl, by rw [List.drop_of_length_le (by rw [HN.out]; omega), List.drop_of_length_le (by rw [← HST.out, HN.out]; omega)]; rfl, rfl⟩
      case round =>
        obtain ⟨k, q, p, hk, rfl, rfl, rfl, hp, hwr⟩ := hrel
        have HWR := Lib.hid hwr
        have HPL := Lib.hid hp
        obtain ⟨b1, b2, _⟩ := plc_bound _ _ _ hp
        have hnz : nzp (s.drop k) ≤ 1048576 := Int.le_trans (nzp_drop_le s k) HNZ.out
        obtain ⟨st, hst⟩ : ∃ st, st = nzp (s.drop k) := ⟨_, rfl⟩
        have HSTP := Lib.hid hst
        rw [← hst] at b2 hnz ⊢
        clear hp hst
        cases k with
        | zero =>
          have HP := Lib.hid (show placeR s t = p by unfold placeR; rw [if_pos ⟨HG.out, HST.out⟩]; have := HPL.out; simp only [List.drop_zero] at this; rw [this]; rfl)
          clear hwr
          go_wp2
          go_ret
          exact ⟨ret_i HP.out.symm, by rw [HWR.out]; exact Below.drewN' (Below.refl _ _) _⟩
        | succ j =>
          have e : (((j + 1 : Nat) : Int) - 1) = (j : Int) := by omega
          rw [e]
          have hjn : j < n := by omega
          obtain ⟨c1, o1, p1, a, e1, ha, hca⟩ := slc_at (Value.int .i64) (show Slc _ ok (.slice ao n cap) s.length (s.map (Value.int .i64)) by rw [← HN.out]; exact H1.out) j (by rw [← HN.out]; exact hjn)
          obtain ⟨c2, o2, p2, x, e2, hx, hcx⟩ := slc_at (Value.int .i64) (show Slc _ ok2 (.slice ao2 n cap2) t.length (t.map (Value.int .i64)) by rw [← HST.out, ← HN.out]; exact H2.out) j (by rw [← HST.out, ← HN.out]; exact hjn)
          obtain ⟨e1a, e1b⟩ : ao = some ⟨c1, o1, none⟩ ∧ cap = p1 := by cases e1; exact ⟨rfl, rfl⟩
          obtain ⟨e2a, e2b⟩ : ao2 = some ⟨c2, o2, none⟩ ∧ cap2 = p2 := by cases e2; exact ⟨rfl, rfl⟩
          subst e1a
          subst e2a
          have hda : wr.cell? ⟨c1, o1 + j, none⟩ = some (.int .i64 a) := by rw [hwr]; exact hca
          have hdx : wr.cell? ⟨c2, o2 + j, none⟩ = some (.int .i64 x) := by rw [hwr]; exact hcx
          have HAj := Lib.hid ha
          have HXj := Lib.hid hx
          clear hca hcx ha hx e1 e2 e1b e2b hwr e
          by_cases hx0 : x < 0
          · have HP := Lib.hid (placeR_none (plc_up s t HST.out j (by rw [← HN.out]; omega) (plc_stop HAj.out HXj.out HPL.out (by omega))))
            go_wp2
            go_quiet (fail)
            go_wp2
            go_ret
            exact ⟨ret_i HP.out.symm, by rw [HWR.out]; exact Below.drewN' (Below.drewN' (Below.refl _ _) _) _⟩
          · by_cases hxa : a ≤ x
            · have HP := Lib.hid (placeR_none (plc_up s t HST.out j (by rw [← HN.out]; omega) (plc_stop HAj.out HXj.out HPL.out (by omega))))
              go_wp2
              go_quiet (fail)
              go_wp2
              go_ret
              exact ⟨ret_i HP.out.symm, by rw [HWR.out]; exact Below.drewN' (Below.drewN' (Below.refl _ _) _) _⟩
            · have hstep := plc_step HAj.out HXj.out HPL.out (by omega) (by omega)
              rw [← HSTP.out] at hstep
              have hbd := plc_bound _ _ _ hstep.1
              have hle := Int.le_trans (nzp_drop_le s j) HNZ.out
              rw [hstep.2] at hbd hle
              obtain ⟨m1, hm1⟩ : ∃ m1, st * x = m1 := ⟨_, rfl⟩
              obtain ⟨m2, hm2⟩ : ∃ m2, st * a = m2 := ⟨_, rfl⟩
              have c1' : x * st = m1 := by rw [Int.mul_comm]; exact hm1
              have c2' : a * st = m2 := by rw [Int.mul_comm]; exact hm2
              rw [c1'] at hstep hbd
              rw [c2'] at hstep hbd hle
              have g1 : 0 ≤ m1 := by rw [← hm1]; exact Int.mul_nonneg (by omega) (by omega)
              have g2 : m1 + p < m2 := hbd.2.1
              have g3 : m2 ≤ 1048576 := hle
              have HS1 := Lib.hid hstep.1
              have HS2 := Lib.hid hstep.2
              clear hstep hbd hle c1' c2'
              go_wp2
              go_quiet (fail)
              go_wp2
              go_roundw
              case rel => exact ⟨j, q + nq, m1 + p, by omega, by first | rfl | go_num, by rw [Int.add_comm], by rw [HS2.out], HS1.out, by rw [HWR.out, World.drewN_drewN]⟩
              case measure => simp [intOf]
    · have HP := Lib.hid (show placeR s t = -1 by unfold placeR; rw [if_neg (fun h => hst h.2)])
      have HG := Lib.hid hg
      have hb : ((s.length : Int) != (t.length : Int)) = true := by simp; omega
      clear hg hst
      go_enter Try.func18, Try.ntmps18
      go_wp2_with fail
      refine (HGD.out _ H1.out).mono ?_
      rintro e w1 ⟨rfl, rfl⟩
      rw [HG.out]
      go_wp2
      go_ret
      exact ⟨ret_i HP.out.symm, Below.refl _ _⟩
end Go.Proofs.Ytnebondinjjodaa

/- slices.Grow, slices.Concat of lists of arrays. -/
import Derived.Test.YtbdhibcbpgjbmaaGreatDoorFlX
namespace Go.Proofs.YtbdhibcbpgjbmaaGreatDoor
set_option maxRecDepth 100000
open Go.RowKit Fl
set_option linter.unusedVariables false

def flatP (P : List (Value × Value)) : List Value := P.flatMap fun p => [p.1, p.2]
theorem flatP_len (P : List (Value × Value)) : (flatP P).length = P.length * 2 := by
 induction P with
 | nil => rfl
 | cons t L ih => simp only [flatP, List.flatMap_cons, List.length_append] at ih ⊢; rw [ih]; simp; omega
theorem flatP_app (P Q : List (Value × Value)) : flatP (P ++ Q) = flatP P ++ flatP Q := by simp [flatP]
theorem flatP_at {P : List (Value × Value)} {i : Nat} {p : Value × Value} (h : P[i]? = some p) : (flatP P)[i * 2]? = some p.1 ∧ (flatP P)[i * 2 + 1]? = some p.2 := by
 obtain ⟨hk, e⟩ := List.getElem?_eq_some_iff.1 h
 have hl : P = P.take i ++ ([p] ++ P.drop (i + 1)) := by rw [← e]; simp
 have hlen : (flatP (P.take i)).length = i * 2 := by rw [flatP_len, List.length_take]; omega
 have hf : flatP P = flatP (P.take i) ++ ([p.1, p.2] ++ flatP (P.drop (i + 1))) := by
  conv => lhs; rw [hl]
  simp [flatP]
 rw [hf]
 exact ⟨by rw [List.getElem?_append_right (by omega), hlen]; simp, by rw [List.getElem?_append_right (by omega), hlen, Nat.add_sub_cancel_left]; rfl⟩
theorem flatP_get {P : List (Value × Value)} {j : Nat} {u : Value} (h : (flatP P)[j]? = some u) : ∃ p, P[j / 2]? = some p ∧ u = if j % 2 = 0 then p.1 else p.2 := by
 have hj := (List.getElem?_eq_some_iff.1 h).1
 rw [flatP_len] at hj
 have hk : j / 2 < P.length := by omega
 refine ⟨P[j / 2], List.getElem?_eq_getElem hk, ?_⟩
 obtain ⟨h0, h1⟩ := flatP_at (List.getElem?_eq_getElem hk)
 by_cases e : j % 2 = 0
 ·rw [if_pos e]
  rw [show j / 2 * 2 = j by omega, h] at h0
  exact Option.some.inj h0
 ·rw [if_neg e]
  rw [show j / 2 * 2 + 1 = j by omega, h] at h1
  exact Option.some.inj h1
/-- P are the cells of the arrays l. -/
def PairsOK (w : World) (ok : Nat → Prop) (P : List (Value × Value)) (l : List (List Int × VV)) : Prop :=
 P.length = l.length ∧ ∀ (i : Nat) p q, P[i]? = some p → l[i]? = some q → IsArr w ok p.1 p.2 q
theorem PairsOK.app {w : World} {ok : Nat → Prop} {P Q : List (Value × Value)} {l m : List (List Int × VV)} (h : PairsOK w ok P l) (k : PairsOK w ok Q m) : PairsOK w ok (P ++ Q) (l ++ m) := by
 refine ⟨by simp [h.1, k.1], fun i p q hp hq => ?_⟩
 by_cases hi : i < P.length
 ·rw [List.getElem?_append_left hi] at hp
  rw [List.getElem?_append_left (by rw [← h.1]; exact hi)] at hq
  exact h.2 i p q hp hq
 ·rw [List.getElem?_append_right (by omega)] at hp
  rw [List.getElem?_append_right (by rw [← h.1]; omega), ← h.1] at hq
  exact k.2 _ p q hp hq
theorem arrs_owned {w : World} {ok : Nat → Prop} {base n : Nat} {v : Value} {P : List (Value × Value)} {l : List (List Int × VV)} (ho : w.ownsRow base 38 2 v n (flatP P)) (h : PairsOK w ok P l) : Arrs w (fun b => ok b ∨ base ≤ b) v l := by
 have hn : n = l.length := by have := ho.1; rw [flatP_len, h.1] at this; omega
 subst hn
 rcases ho.2 with ⟨rfl, hl0⟩ | ⟨g, cap, cur, rfl, hb, hg, hnc, hcm, hcs, htake⟩
 ·have : l = [] := List.eq_nil_of_length_eq_zero hl0
  subst this
  exact Arrs.nil _ _
 ·refine ⟨_, cap, fun i => (P[i]?.map Prod.fst).getD undef, fun i => (P[i]?.map Prod.snd).getD undef, rfl, hnc, hcm, fun i hi => ?_, fun i hi => ?_, fun i hi => ?_⟩
  ·have hp : i < P.length := by rw [h.1]; exact hi
   have e := List.getElem?_eq_getElem hp
   obtain ⟨c0, c1⟩ := flatP_at e
   refine ⟨g, 0, rfl, Or.inr hb, ?_, ?_⟩
   ·rw [Nat.zero_add, ho.cellAt (i * 2) (by omega), c0]; simp [e]
   ·rw [Nat.zero_add, ho.cellAt (i * 2 + 1) (by omega), c1]; simp [e]
  ·have hp : i < P.length := by rw [h.1]; exact hi
   have e := List.getElem?_eq_getElem hp
   have := (h.2 i _ _ e (List.getElem?_eq_getElem hi)).1.keep (Kept.refl _ _) (ok' := fun b => ok b ∨ base ≤ b) (fun _ _ h => Or.inl h)
   simpa [e] using this
  ·have hp : i < P.length := by rw [h.1]; exact hi
   have e := List.getElem?_eq_getElem hp
   have := (h.2 i _ _ e (List.getElem?_eq_getElem hi)).2.wide (ok' := fun b => ok b ∨ base ≤ b) (fun _ _ h => Or.inl h)
   simpa [e] using this
/-- The cells of a slice of arrays that is not empty. -/
theorem Arrs.cells {w : World} {ok : Nat → Prop} {v : Value} {l : List (List Int × VV)} (h : Arrs w ok v l) (hl : 0 < l.length) :
  ∃ ad cap P, v = .slice (some ad) l.length cap ∧ PairsOK w ok P l ∧ (flatP P).length = l.length * 2 ∧ (∀ j u, (flatP P)[j]? = some u → w.cell? (ad.add j) = some u) ∧ (∀ u ∈ flatP P, u.oneCell' = true) := by
 obtain ⟨ao, cap, f, g, rfl, h1, h2, hc, hs, hv⟩ := h
 obtain ⟨b, off, rfl, _, _, _⟩ := hc 0 hl
 have hok : PairsOK w ok ((List.range l.length).map fun i => (f i, g i)) l := by
  refine ⟨by simp, fun i p q hp hq => ?_⟩
  obtain ⟨hi, e⟩ := List.getElem?_eq_some_iff.1 hq
  rw [List.getElem?_map, List.getElem?_range hi] at hp
  obtain rfl := Option.some.inj hp
  rw [← e]
  exact ⟨hs i hi, hv i hi⟩
 have hsome : ∀ j u, (flatP ((List.range l.length).map fun i => (f i, g i)))[j]? = some u → ∃ i, i < l.length ∧ i = j / 2 ∧ u = if j % 2 = 0 then f i else g i := by
  intro j u hu
  obtain ⟨p, hp, e⟩ := flatP_get hu
  have hi := (List.getElem?_eq_some_iff.1 hp).1
  have hi : j / 2 < l.length := by simpa using hi
  rw [List.getElem?_map, List.getElem?_range hi] at hp
  obtain rfl := Option.some.inj hp
  exact ⟨j / 2, hi, rfl, e⟩
 refine ⟨⟨b, off, none⟩, cap, _, rfl, hok, by rw [flatP_len]; simp, fun j u hu => ?_, fun u hu => ?_⟩
 ·obtain ⟨i, hi, e, rfl⟩ := hsome j u hu
  obtain ⟨b', off', e2, _, c0, c1⟩ := hc i hi
  cases e2
  rw [Go.WideShapes.add_plain]
  by_cases hj : j % 2 = 0
  ·rw [if_pos hj, show off + j = off + i * 2 by omega]; exact c0
  ·rw [if_neg hj, show off + j = off + i * 2 + 1 by omega]; exact c1
 ·obtain ⟨j, hj⟩ := List.getElem?_of_mem hu
  obtain ⟨i, hi, e, rfl⟩ := hsome j u hj
  by_cases hj : j % 2 = 0
  ·rw [if_pos hj]; obtain ⟨o, c, e, _⟩ := (hs i hi).opened; rw [e]; rfl
  ·rw [if_neg hj]; exact (hv i hi).one
def RowsA (w : World) (ok : Nat → Prop) (v : Value) (L : List (List (List Int × VV))) : Prop :=
 ∃ ao cap, v = .slice ao L.length cap ∧ ∀ i (h : i < L.length), ∃ b off u, ao = some ⟨b, off, none⟩ ∧ w.cell? ⟨b, off + i, none⟩ = some u ∧ Arrs w ok u L[i]
theorem RowsA.keep {w w' : World} {ok ok' : Nat → Prop} {v : Value} {L : List (List (List Int × VV))} (hb : Below w.heap.size w w') (hm : ∀ b, b < w.heap.size → ok b → ok' b) (h : RowsA w ok v L) : RowsA w' ok' v L := by
 obtain ⟨ao, cap, rfl, hc⟩ := h
 refine ⟨ao, cap, rfl, fun i hi => ?_⟩
 obtain ⟨b, off, u, e, h1, h2⟩ := hc i hi
 exact ⟨b, off, u, e, keep_below hb _ _ h1, h2.keep (Kept.below hb) hm⟩

end Go.Proofs.YtbdhibcbpgjbmaaGreatDoor

/- Rows of items that a call makes itself. -/
import Derived.Test.YtbdhibcbpgjbmaaGreatDoorVaE
import Derived.Test.YtbdhibcbpgjbmaaGreatDoorAp
namespace Go.Proofs.YtbdhibcbpgjbmaaGreatDoor
open Go.RowKit Fl
set_option linter.unusedVariables false
set_option maxRecDepth 100000

abbrev QI := Int × Nat × Int × Value
def quadV (t : QI) : List Value := [.int .i64 t.1, .float .f64 t.2.1, .int .i32 t.2.2.1, t.2.2.2]
def flatI (L : List QI) : List Value := L.flatMap quadV
theorem flatI_len (L : List QI) : (flatI L).length = L.length * 4 := by
 induction L with
 | nil => rfl
 | cons t L ih => simp only [flatI, List.flatMap_cons, List.length_append] at ih ⊢; rw [ih]; simp [quadV]; omega
theorem flatI_snoc (L : List QI) (t : QI) : flatI (L ++ [t]) = flatI L ++ quadV t := by simp [flatI]
theorem flatI_at {L : List QI} {i : Nat} {t : QI} (h : L[i]? = some t) : (flatI L)[i * 4]? = some (.int .i64 t.1) ∧ (flatI L)[i * 4 + 1]? = some (.float .f64 t.2.1) ∧ (flatI L)[i * 4 + 2]? = some (.int .i32 t.2.2.1) ∧ (flatI L)[i * 4 + 3]? = some t.2.2.2 := by
 obtain ⟨hk, e⟩ := List.getElem?_eq_some_iff.1 h
 have hl : L = L.take i ++ ([t] ++ L.drop (i + 1)) := by rw [← e]; simp
 have hlen : (flatI (L.take i)).length = i * 4 := by rw [flatI_len, List.length_take]; omega
 have hf : flatI L = flatI (L.take i) ++ (quadV t ++ flatI (L.drop (i + 1))) := by
  conv => lhs; rw [hl]
  simp [flatI]
 rw [hf]
 refine ⟨?_, ?_, ?_, ?_⟩
 ·rw [List.getElem?_append_right (by omega), hlen]; simp [quadV]
 ·rw [List.getElem?_append_right (by omega), hlen, Nat.add_sub_cancel_left]; rfl
 ·rw [List.getElem?_append_right (by omega), hlen, Nat.add_sub_cancel_left]; rfl
 ·rw [List.getElem?_append_right (by omega), hlen, Nat.add_sub_cancel_left]; rfl
/-- L are the cells of the items l. -/
def Quad (w : World) (ok : Nat → Prop) (L : List QI) (l : List PI) : Prop :=
 L.length = l.length ∧ ∀ (i : Nat) (x : PI), l[i]? = some x → ∃ v, L[i]? = some (x.1, x.2.1, x.2.2.1, v) ∧ IsB w ok v x.2.2.2
theorem Quad.nil (w : World) (ok : Nat → Prop) : Quad w ok [] [] := ⟨rfl, fun i x h => by simp at h⟩
theorem Quad.keep {w w' : World} {ok ok' : Nat → Prop} {L : List QI} {l : List PI} (hk : Kept ok w w') (hm : ∀ b, b < w.heap.size → ok b → ok' b) (h : Quad w ok L l) : Quad w' ok' L l :=
 ⟨h.1, fun i x hx => by obtain ⟨v, h1, h2⟩ := h.2 i x hx; exact ⟨v, h1, h2.keep hk hm⟩⟩
theorem Quad.snoc {w : World} {ok : Nat → Prop} {L : List QI} {l : List PI} (h : Quad w ok L l) {x : PI} {v : Value} (hv : IsB w ok v x.2.2.2) : Quad w ok (L ++ [(x.1, x.2.1, x.2.2.1, v)]) (l ++ [x]) := by
 refine ⟨by simp [h.1], fun i y hy => ?_⟩
 by_cases hi : i < l.length
 ·rw [List.getElem?_append_left hi] at hy
  obtain ⟨u, h1, h2⟩ := h.2 i y hy
  exact ⟨u, by rw [List.getElem?_append_left (by rw [h.1]; exact hi)]; exact h1, h2⟩
 ·obtain ⟨h1, _⟩ := List.getElem?_eq_some_iff.1 hy
  have : i = l.length := by simp at h1; omega
  subst this
  rw [List.getElem?_append_right (Nat.le_refl _), Nat.sub_self] at hy
  cases Option.some.inj hy
  exact ⟨v, by rw [List.getElem?_append_right (by rw [h.1]; exact Nat.le_refl _), h.1, Nat.sub_self]; rfl, hv⟩
theorem Its.of_own {w : World} {base n : Nat} {ok : Nat → Prop} {v : Value} {L : List QI} {l : List PI} (h : w.ownsRow base 34 4 v n (flatI L)) (hq : Quad w ok L l) : Its w (fun b => ok b ∨ base ≤ b) v l := by
 have hn : n = l.length := by have := h.1; rw [flatI_len, hq.1] at this; omega
 subst hn
 have hB : ∀ (i : Nat) (x : PI), l[i]? = some x → IsB w (fun b => ok b ∨ base ≤ b) ((L[i]?.map (fun t => t.2.2.2)).getD undef) x.2.2.2 := by
  intro i x hx
  obtain ⟨u, h1, h2⟩ := hq.2 i x hx
  rw [h1]
  exact h2.wide (fun _ _ h => .inl h)
 rcases h.2 with ⟨rfl, hl0⟩ | ⟨g, cap, cur, rfl, hb, hg, hnc, hcm, hcs, htake⟩
 ·have : l = [] := List.eq_nil_of_length_eq_zero hl0
  subst this
  exact Its.nil _ _
 ·refine ⟨_, cap, fun i => (L[i]?.map (fun t => t.2.2.2)).getD undef, rfl, hnc, hcm, fun i x hx => ?_, hB⟩
  obtain ⟨u, h1, h2⟩ := hq.2 i x hx
  obtain ⟨c0, c1, c2, c3⟩ := flatI_at h1
  have hi := (List.getElem?_eq_some_iff.1 hx).1
  refine ⟨g, 0, rfl, .inr hb, ?_, ?_, ?_, ?_⟩
  ·rw [Nat.zero_add, h.cellAt (i * 4) (by omega)]; exact c0
  ·rw [Nat.zero_add, h.cellAt (i * 4 + 1) (by omega)]; exact c1
  ·rw [Nat.zero_add, h.cellAt (i * 4 + 2) (by omega)]; exact c2
  ·rw [Nat.zero_add, h.cellAt (i * 4 + 3) (by omega), c3]; simp only [h1, Option.map_some, Option.getD_some]
theorem info_item : (Tryz.prog.info? 34).map (fun i => (i.zero, i.size, i.bytes)) = some (some (.agg #[.int .i64 0, .float .f64 0, .int .i32 0, .slice none 0 0]), 4, 48) := by kernel_rfl
theorem cell_four_new (w : World) (a b c d : Value) (t : TypeId) : ∀ j u, [a, b, c, d][j]? = some u → (w.alloc (.cells #[a, b, c, d] t)).cell? ((⟨w.heap.size, 0, none⟩ : Addr).add j) = some u := by
 intro j u h
 rw [Go.WideShapes.add_plain]
 match j with
 | 0 => simp at h; subst h; simp
 | 1 => simp at h; subst h; simp
 | 2 => simp at h; subst h; simp
 | 3 => simp at h; subst h; simp
 | j + 4 => simp at h
theorem At3.set1 {w : World} {b : Nat} {x y z : Value} (h : At3 w b x y z) (v : Value) : At3 (w.setCell ⟨b, 1, none⟩ v) b x v z := by
 obtain ⟨h0, h1, h2, h3, h4⟩ := h
 have hs : ∃ s, w.cell? ⟨b, 1, none⟩ = some s := ⟨_, h2⟩
 exact ⟨by simpa using h0, by rw [World.cell?_setCell_other _ _ _ _ (by simp)]; exact h1, World.cell?_setCell_same _ _ _ h2, by rw [World.cell?_setCell_other _ _ _ _ (by simp)]; exact h3, fun o => by simpa using h4 o⟩
theorem At3.set0 {w : World} {b : Nat} {x y z : Value} (h : At3 w b x y z) (v : Value) : At3 (w.setCell ⟨b, 0, none⟩ v) b v y z := by
 obtain ⟨h0, h1, h2, h3, h4⟩ := h
 exact ⟨by simpa using h0, World.cell?_setCell_same _ _ _ h1, by rw [World.cell?_setCell_other _ _ _ _ (by simp)]; exact h2, by rw [World.cell?_setCell_other _ _ _ _ (by simp)]; exact h3, fun o => by simpa using h4 o⟩
theorem At3.set2 {w : World} {b : Nat} {x y z : Value} (h : At3 w b x y z) (v : Value) : At3 (w.setCell ⟨b, 2, none⟩ v) b x y v := by
 obtain ⟨h0, h1, h2, h3, h4⟩ := h
 exact ⟨by simpa using h0, by rw [World.cell?_setCell_other _ _ _ _ (by simp)]; exact h1, by rw [World.cell?_setCell_other _ _ _ _ (by simp)]; exact h2, World.cell?_setCell_same _ _ _ h3, fun o => by simpa using h4 o⟩
theorem At3.other {w : World} {b : Nat} {x y z : Value} (h : At3 w b x y z) (p : Addr) (hp : b ≠ p.block) (v : Value) : At3 (w.setCell p v) b x y z := by
 obtain ⟨h0, h1, h2, h3, h4⟩ := h
 have hne : ∀ o, p ≠ (⟨b, o, none⟩ : Addr) := fun o e => hp (by rw [e])
 exact ⟨by simpa using h0, by rw [World.cell?_setCell_other _ _ _ _ (hne _)]; exact h1, by rw [World.cell?_setCell_other _ _ _ _ (hne _)]; exact h2, by rw [World.cell?_setCell_other _ _ _ _ (hne _)]; exact h3, fun o => by simpa using h4 o⟩
theorem At3.grown {w w' : World} {b : Nat} {x y z : Value} (h : At3 w b x y z) {row : Option Nat} (hg : w.grownBy w' row) (hne : some b ≠ row) : At3 w' b x y z := by
 obtain ⟨h0, h1, h2, h3, h4⟩ := h
 exact ⟨Nat.lt_of_lt_of_le h0 hg.size, hg.cell h1 hne, hg.cell h2 hne, hg.cell h3 hne, fun o => by rw [← h4 o]; exact grown_frozen hg h0 hne⟩
theorem Blk4.set1 {w : World} {b : Nat} {x y z t : Value} (h : Blk4 w b x y z t) (v : Value) : Blk4 (w.setCell ⟨b, 1, none⟩ v) b x v z t := by
 obtain ⟨h0, h1, h2, h3, h4, h5⟩ := h
 exact ⟨by simpa using h0, by rw [World.cell?_setCell_other _ _ _ _ (by simp)]; exact h1, World.cell?_setCell_same _ _ _ h2, by rw [World.cell?_setCell_other _ _ _ _ (by simp)]; exact h3, by rw [World.cell?_setCell_other _ _ _ _ (by simp)]; exact h4, fun o => by simpa using h5 o⟩
theorem Blk4.set2 {w : World} {b : Nat} {x y z t : Value} (h : Blk4 w b x y z t) (v : Value) : Blk4 (w.setCell ⟨b, 2, none⟩ v) b x y v t := by
 obtain ⟨h0, h1, h2, h3, h4, h5⟩ := h
 exact ⟨by simpa using h0, by rw [World.cell?_setCell_other _ _ _ _ (by simp)]; exact h1, by rw [World.cell?_setCell_other _ _ _ _ (by simp)]; exact h2, World.cell?_setCell_same _ _ _ h3, by rw [World.cell?_setCell_other _ _ _ _ (by simp)]; exact h4, fun o => by simpa using h5 o⟩
theorem Blk4.set3 {w : World} {b : Nat} {x y z t : Value} (h : Blk4 w b x y z t) (v : Value) : Blk4 (w.setCell ⟨b, 3, none⟩ v) b x y z v := by
 obtain ⟨h0, h1, h2, h3, h4, h5⟩ := h
 exact ⟨by simpa using h0, by rw [World.cell?_setCell_other _ _ _ _ (by simp)]; exact h1, by rw [World.cell?_setCell_other _ _ _ _ (by simp)]; exact h2, by rw [World.cell?_setCell_other _ _ _ _ (by simp)]; exact h3, World.cell?_setCell_same _ _ _ h4, fun o => by simpa using h5 o⟩
end Go.Proofs.YtbdhibcbpgjbmaaGreatDoor

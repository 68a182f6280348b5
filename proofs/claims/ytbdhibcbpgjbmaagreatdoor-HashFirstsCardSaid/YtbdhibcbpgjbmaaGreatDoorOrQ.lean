/- Layer 16, plain: places, each once; where each stands. -/
import Derived.Test.YtbdhibcbpgjbmaaGreatDoorOrP
namespace Go.Proofs.YtbdhibcbpgjbmaaGreatDoor
set_option maxRecDepth 100000
open Go.RowKit Fl
set_option linter.unusedVariables false

/-- Numbers below n, none twice. -/
def okP (n : Nat) (l : List Int) : Prop := (∀ x ∈ l, 0 ≤ x ∧ x < n) ∧ l.Nodup
/-- Where each stands: the row behind j of them. -/
def invT (n : Nat) (l : List Int) : Nat → List Int
 | 0 => List.replicate n (-1)
 | j + 1 => (invT n l j).set (l.getD j 0).toNat (j : Int)
theorem invT_len (n : Nat) (l : List Int) : ∀ j, (invT n l j).length = n
 | 0 => by simp [invT]
 | j + 1 => by simp only [invT, List.length_set]; exact invT_len n l j
theorem takeO_step {l : List Int} {j : Nat} {x : Int} (h : l[j]? = some x) : l.take (j + 1) = l.take j ++ [x] := by
 obtain ⟨h1, h2⟩ := List.getElem?_eq_some_iff.1 h
 rw [List.take_succ_eq_append_getElem h1, h2]
theorem okP_nil (n : Nat) : okP n [] := ⟨fun x h => (by cases h), List.nodup_nil⟩
theorem okP_step {n : Nat} {l : List Int} {j : Nat} {x : Int} (h : l[j]? = some x) : okP n (l.take (j + 1)) ↔ okP n (l.take j) ∧ (0 ≤ x ∧ x < n) ∧ x ∉ l.take j := by
 rw [takeO_step h]
 unfold okP
 rw [List.nodup_append]
 constructor
 ·rintro ⟨h1, h2, _, h4⟩
  exact ⟨⟨fun y hy => h1 y (List.mem_append_left _ hy), h2⟩, h1 x (List.mem_append_right _ (List.mem_singleton.2 rfl)), fun hx => h4 x hx x (List.mem_singleton.2 rfl) rfl⟩
 ·rintro ⟨⟨h1, h2⟩, h3, h4⟩
  refine ⟨fun y hy => ?_, h2, List.nodup_cons.2 ⟨by simp, List.nodup_nil⟩, fun a ha b hb e => ?_⟩
  ·rcases List.mem_append.1 hy with h | h
   ·exact h1 y h
   ·rw [List.mem_singleton.1 h]; exact h3
  ·rw [List.mem_singleton.1 hb] at e; exact h4 (e ▸ ha)
theorem okP_take {n : Nat} {l : List Int} {j : Nat} (h : okP n l) : okP n (l.take j) := ⟨fun x hx => h.1 x (List.mem_of_mem_take hx), (List.take_sublist j l).nodup h.2⟩
theorem invT_at {n : Nat} {l : List Int} : ∀ j, j ≤ l.length → okP n (l.take j) → (∀ (m : Nat) (x : Int), m < j → l[m]? = some x → (invT n l j)[x.toNat]? = some (m : Int)) ∧ (∀ p : Nat, p < n → (p : Int) ∉ l.take j → (invT n l j)[p]? = some (-1)) := by
 intro j
 induction j with
 | zero => intro _ _; exact ⟨fun m x h => absurd h (Nat.not_lt_zero _), fun p hp _ => by simp [invT, hp]⟩
 | succ j ih =>
  intro hj hok
  have hx : l[j]? = some l[j] := List.getElem?_eq_getElem hj
  obtain ⟨h1, h2, h3⟩ := (okP_step hx).1 hok
  obtain ⟨i1, i2⟩ := ih (by omega) h1
  have hd : l.getD j 0 = l[j] := by rw [List.getD_eq_getElem?_getD, hx]; rfl
  have hlen : l[j].toNat < (invT n l j).length := by rw [invT_len]; omega
  constructor
  ·intro m x hm hmx
   simp only [invT, hd]
   by_cases hmj : m = j
   ·subst hmj
    rw [hx] at hmx
    obtain rfl := Option.some.inj hmx
    rw [List.getElem?_set, if_pos rfl, if_pos hlen]
   ·have hxm : x ∈ l.take j := by
     obtain ⟨b1, b2⟩ := List.getElem?_eq_some_iff.1 hmx
     rw [List.mem_take_iff_getElem]
     exact ⟨m, by omega, b2⟩
    have hne : ¬ l[j].toNat = x.toNat := fun e => by
     have := h1.1 x hxm
     exact h3 ((show l[j] = x by omega) ▸ hxm)
    rw [List.getElem?_set, if_neg hne]
    exact i1 m x (by omega) hmx
  ·intro p hp hn
   simp only [invT, hd]
   rw [takeO_step hx] at hn
   have hne : ¬ l[j].toNat = p := fun e => hn (List.mem_append_right _ (List.mem_singleton.2 (by omega)))
   rw [List.getElem?_set, if_neg hne]
   exact i2 p hp (fun h => hn (List.mem_append_left _ h))
/-- What stands at a place: -1 where the place has not come up. -/
theorem invT_free {n : Nat} {l : List Int} {j p : Nat} (hj : j ≤ l.length) (hok : okP n (l.take j)) (hp : p < n) : (invT n l j)[p]? = some (-1) ↔ (p : Int) ∉ l.take j := by
 obtain ⟨h1, h2⟩ := invT_at j hj hok
 constructor
 ·intro h hm
  obtain ⟨m, hm1, hm2⟩ := List.mem_take_iff_getElem.1 hm
  have := h1 m (p : Int) (by omega) (by rw [List.getElem?_eq_getElem (by omega), hm2])
  rw [Int.toNat_natCast, h] at this
  have := Option.some.inj this
  omega
 ·exact h2 p hp
def invL (l : List Int) : List Int := invT l.length l l.length
theorem invL_len (l : List Int) : (invL l).length = l.length := invT_len _ _ _
theorem invL_at {l : List Int} (h : okP l.length l) {m : Nat} {x : Int} (hx : l[m]? = some x) : (invL l)[x.toNat]? = some (m : Int) :=
 (invT_at l.length (Nat.le_refl _) (by rw [List.take_length]; exact h)).1 m x (List.getElem?_eq_some_iff.1 hx).1 hx
/-- The row that is made: -1 up to a place. -/
def noneT (n k : Nat) : List Int := List.replicate k (-1) ++ List.replicate (n - k) 0
theorem noneT_len {n k : Nat} (h : k ≤ n) : (noneT n k).length = n := by simp [noneT]; omega
theorem noneT_set {n k : Nat} (h : k < n) : (noneT n k).set k (-1) = noneT n (k + 1) := by
 unfold noneT
 rw [show n - k = (n - (k + 1)) + 1 by omega, List.replicate_succ, List.set_append_right _ _ (by simp), List.length_replicate, Nat.sub_self, List.set_cons_zero, List.replicate_succ', List.append_assoc]
 rfl
theorem noneT_all (n : Nat) (l : List Int) : noneT n n = invT n l 0 := by simp [noneT, invT]
theorem noneT_zero (n : Nat) : noneT n 0 = List.replicate n 0 := by simp [noneT]
theorem ints_set (l : List Int) (k : Nat) (x : Int) : (ints l).set k (.int .i64 x) = ints (l.set k x) := by unfold ints; rw [List.map_set]
theorem ints_rep (n : Nat) (x : Int) : ints (List.replicate n x) = List.replicate n (.int .i64 x) := by unfold ints; rw [List.map_replicate]
end Go.Proofs.YtbdhibcbpgjbmaaGreatDoor

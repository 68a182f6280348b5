/- Plain arrays of one element, and of numbers: what is wrong with them, their arrays, tidied. -/
import Derived.Test.YtbdhibcbpgjbmaaGreatDoorVbD
import Derived.Test.YtbdhibcbpgjbmaaGreatDoorVaR
namespace Go.Proofs.YtbdhibcbpgjbmaaGreatDoor
open Go.RowKit Fl
set_option linter.unusedVariables false
set_option maxRecDepth 100000

def charP (c : Int) : PA := .mk [] [(1, 0, c, [])] 1
def boxP (p : PA) : PA := .mk [] [(2, 0, 0, [p])] 2
theorem prodR_one : prodR [] 1048576 = ((1 : Int), 0) := by decide
theorem num_chk {d : Nat} {x : Nat} : chk (d + 1) (numP x) = 0 ↔ Fnt x := by
 rw [chk_well]
 constructor
 ·intro h; exact (h.2.2.2 (0, x, 0, []) (by simp [numP, PA.l])).2.2 rfl
 ·intro h
  refine ⟨by simp [numP, PA.f], by simp [numP, PA.f], prodR_one, fun y hy => ?_⟩
  obtain rfl : y = (0, x, 0, []) := by simpa [numP, PA.l] using hy
  exact ⟨rfl, fun e => absurd e (by simp), fun _ => h⟩
theorem num_arr {d : Nat} {x : Nat} : arrP (d + 1) (numP x) = ([], (VV.floats [ze x]).sq) := arrP_zero rfl
theorem nums_prod (l : List Nat) (hl : l.length ≤ 1048576) : prodR [(l.length : Int)] 1048576 = ((l.length : Int), 0) := by
 have hn : anyN [(l.length : Int)] = false := by simp [anyN]
 by_cases h0 : l.length = 0
 ·rw [prodR_fit (by simp) hn (by simp [nzp, h0])]
  simp [anyZ, h0]
 ·have hz : nzp [(l.length : Int)] = l.length := by simp [nzp]; intro h; exact absurd (by simp [h]) h0
  have ha : anyZ [(l.length : Int)] = false := by simp [anyZ]; intro h; exact h0 (by simp [h])
  rw [prodR_fit (by simp) hn (by rw [hz]; omega), if_neg (by rw [ha, if_neg (by simp), hz]; omega), ha, if_neg (by simp), hz]
theorem nums_chk {d : Nat} {l : List Nat} (hl : l.length ≤ 1048576) : chk (d + 1) (numsP l) = 0 ↔ ∀ x ∈ l, Fnt x := by
 rw [chk_well]
 constructor
 ·intro h x hx; exact (h.2.2.2 (numI x) (by simpa [numsP, PA.l] using ⟨x, hx, rfl⟩)).2.2 rfl
 ·intro h
  refine ⟨by simp [numsP, PA.f], by simp [numsP, PA.f], ?_, fun y hy => ?_⟩
  ·have := nums_prod l hl
   simpa [numsP, PA.l, PA.s] using this
  obtain ⟨x, hx, rfl⟩ : ∃ x, x ∈ l ∧ numI x = y := by simpa [numsP, PA.l] using hy
  exact ⟨rfl, fun e => absurd e (by simp [numI]), fun _ => h x hx⟩
theorem nums_arr {d : Nat} {l : List Nat} : arrP (d + 1) (numsP l) = ([(l.length : Int)], (VV.floats (l.map ze)).sq) := by
 rw [arrP_zero rfl]
 simp [numsP, PA.s, PA.l, numsV, numI, Function.comp_def]
theorem char_chk {d : Nat} {c : Int} : chk (d + 1) (charP c) = 0 := by
 rw [chk_well]
 refine ⟨by simp [charP, PA.f], by simp [charP, PA.f], prodR_one, fun y hy => ?_⟩
 obtain rfl : y = (1, 0, c, []) := by simpa [charP, PA.l] using hy
 exact ⟨rfl, fun e => absurd e (by simp), fun e => absurd e (by simp)⟩
theorem char_arr {d : Nat} {c : Int} : arrP (d + 1) (charP c) = ([], .chars [c]) := arrP_one rfl
theorem char_tidy {d : Nat} {c : Int} : tidyP (d + 1) (charP c) = charP c := by simp [tidyP, charP, PA.s, PA.l, PA.f, tidyI]
theorem box_chk {d : Nat} {p : PA} (h : chk d p = 0) : chk (d + 1) (boxP p) = 0 := by
 rw [chk_well]
 refine ⟨by simp [boxP, PA.f], by simp [boxP, PA.f], prodR_one, fun y hy => ?_⟩
 obtain rfl : y = (2, 0, 0, [p]) := by simpa [boxP, PA.l] using hy
 exact ⟨rfl, fun _ => ⟨p, rfl, h⟩, fun e => absurd e (by simp)⟩
theorem box_arr {d : Nat} {p : PA} : arrP (d + 1) (boxP p) = ([], .boxes [arrP d p]) := arrP_two rfl
theorem box_tidy {d : Nat} {p : PA} : tidyP (d + 1) (boxP p) = boxP (tidyP d p) := by simp [tidyP, boxP, PA.s, PA.l, PA.f, tidyI, hd]
/-- A list of one item that a call makes. -/
theorem Its.one {w : World} {ok : Nat → Prop} (x : PI) {bx : Value} (hb : IsB w ok bx x.2.2.2) : Its (w.alloc (.cells #[.int .i64 x.1, .float .f64 x.2.1, .int .i32 x.2.2.1, bx] 34)) (fun b => ok b ∨ w.heap.size ≤ b) (.slice (some ⟨w.heap.size, 0, none⟩) 1 1) [x] := by
 have hc := cell_four_new w (.int .i64 x.1) (.float .f64 x.2.1) (.int .i32 x.2.2.1) bx 34
 refine ⟨_, _, fun _ => bx, rfl, Nat.le_refl _, by unfold maxLen; omega, fun i y hy => ?_, fun i y hy => ?_⟩
 ·cases i with
  | succ i => simp at hy
  | zero =>
   obtain rfl : x = y := by simpa using hy
   exact ⟨_, _, rfl, Or.inr (Nat.le_refl _), hc 0 _ rfl, hc 1 _ rfl, hc 2 _ rfl, hc 3 _ rfl⟩
 ·cases i with
  | succ i => simp at hy
  | zero =>
   obtain rfl : x = y := by simpa using hy
   exact (hb.grow (below_new _ _)).wide (fun b _ h => Or.inl h)
end Go.Proofs.YtbdhibcbpgjbmaaGreatDoor

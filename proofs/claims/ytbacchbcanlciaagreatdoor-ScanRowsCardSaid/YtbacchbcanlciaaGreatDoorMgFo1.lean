/- Merged: FoM, FoN, FoA, FoB, FoT, FoQ, FoF, FoR, FoU, FoV, FoZ, FoS, FoC, FoW, FoX, FoY, FoP, FoD, FoE, FoK, Fo2. -/
import Derived.Lib.BitFns
import Derived.Laws.CopyOwn
import Derived.Deep.DeepMust
import Derived.Laws.Cover1
import Derived.Test.YtbacchbcanlciaaGreatDoorMgLo1
import Derived.Test.YtbacchbcanlciaaGreatDoorMgBv1
import Derived.Test.YtbacchbcanlciaaGreatDoorMgRe1
import Derived.Test.YtbacchbcanlciaaGreatDoorMgAr1
import Derived.Test.YtbacchbcanlciaaGreatDoorMgNu1
import Derived.Test.YtbacchbcanlciaaGreatDoorMgKp1
import Derived.Test.YtbacchbcanlciaaGreatDoorMgSq1
import Derived.Test.YtbacchbcanlciaaGreatDoorMgVe1
import Derived.Test.YtbacchbcanlciaaGreatDoorMgSh1
import Derived.Test.YtbacchbcanlciaaGreatDoorMgBx1
/- Layer 13, plain: any function of two numbers; a row put together from its end on; the rows of a vector; rows of booleans. -/
namespace Go.Proofs.YtbacchbcanlciaaGreatDoor
set_option maxRecDepth 100000
open Go.RowKit Fl
set_option linter.unusedVariables false

/-- Any function of two numbers: the word and the error. -/
noncomputable def fone (f : Int) (a b : Nat) : Nat × Int :=
 if 1 ≤ f ∧ f ≤ 8 then oneA f a b else if 11 ≤ f ∧ f ≤ 16 then (flagW (relB f a b), 0)
 else if 21 ≤ f ∧ f ≤ 24 then (if isT a = true ∧ isT b = true then (flagW (logB f (bitW a) (bitW b)), 0) else (0, 24)) else (0, 1)
def fknown (f : Int) : Bool := decide (1 ≤ f ∧ f ≤ 8) || decide (11 ≤ f ∧ f ≤ 16) || decide (21 ≤ f ∧ f ≤ 24)
theorem fknown_cases {f : Int} (h : fknown f = true) : (1 ≤ f ∧ f ≤ 8) ∨ (11 ≤ f ∧ f ≤ 16) ∨ (21 ≤ f ∧ f ≤ 24) := by
 simp only [fknown, Bool.or_eq_true, decide_eq_true_eq] at h; omega
theorem fknown_no {f : Int} (h : fknown f = false) : ¬ (1 ≤ f ∧ f ≤ 8) ∧ ¬ (11 ≤ f ∧ f ≤ 16) ∧ ¬ (21 ≤ f ∧ f ≤ 24) := by
 simp only [fknown, Bool.or_eq_false_iff, decide_eq_false_iff_not] at h; omega
theorem fone_a {f : Int} (a b : Nat) (h : 1 ≤ f ∧ f ≤ 8) : fone f a b = oneA f a b := if_pos h
theorem fone_r {f : Int} (a b : Nat) (h : 11 ≤ f ∧ f ≤ 16) : fone f a b = (flagW (relB f a b), 0) := by unfold fone; rw [if_neg (by omega), if_pos h]
theorem fone_l {f : Int} {a b : Nat} (h : 21 ≤ f ∧ f ≤ 24) (ha : isT a = true) (hb : isT b = true) : fone f a b = (flagW (logB f (bitW a) (bitW b)), 0) := by unfold fone; rw [if_neg (by omega), if_neg (by omega), if_pos h, if_pos ⟨ha, hb⟩]
theorem fone_l24 {f : Int} {a b : Nat} (h : 21 ≤ f ∧ f ≤ 24) (hn : ¬ (isT a = true ∧ isT b = true)) : fone f a b = (0, 24) := by unfold fone; rw [if_neg (by omega), if_neg (by omega), if_pos h, if_neg hn]
theorem fone_no {f : Int} (a b : Nat) (h : fknown f = false) : fone f a b = (0, 1) := by
 obtain ⟨h1, h2, h3⟩ := fknown_no h
 unfold fone; rw [if_neg h1, if_neg h2, if_neg h3]
theorem flagW_num (b : Bool) : Num (flagW b) := by cases b <;> first | exact num_zero | exact num_one
theorem fone_num {f : Int} {a b : Nat} (ha : Num a) (hb : Num b) : Num (fone f a b).1 := by
 unfold fone
 split
 ·exact oneA_num ha hb
 ·split
  ·exact flagW_num _
  ·split
   ·split
    ·exact flagW_num _
    ·exact num_zero
   ·exact num_zero
theorem fone_err {f : Int} (a b : Nat) (h : fknown f = true) : (fone f a b).2 = 0 ∨ (fone f a b).2 = 24 := by
 rcases fknown_cases h with h | h | h
 ·rw [fone_a a b h]; exact oneA_err a b h.1 h.2
 ·rw [fone_r a b h]; exact .inl rfl
 ·by_cases ht : isT a = true ∧ isT b = true
  ·rw [fone_l h ht.1 ht.2]; exact .inl rfl
  ·rw [fone_l24 h ht]; exact .inr rfl

/-- What comes of no elements. -/
def fstart (f : Int) : Nat × Bool :=
 if f = 1 ∨ f = 2 ∨ f = 7 ∨ f = 11 ∨ f = 15 ∨ f = 16 ∨ f = 22 then (0, true)
 else if f = 3 ∨ f = 4 ∨ f = 8 ∨ f = 12 ∨ f = 13 ∨ f = 14 ∨ f = 21 then (4607182418800017408, true)
 else if f = 5 then (18442240474082181119, true) else if f = 6 then (9218868437227405311, true) else (0, false)
theorem fstart_num (f : Int) : Num (fstart f).1 := by
 unfold fstart
 split; exact num_zero
 split; exact num_one
 split; exact ⟨⟨by decide, by decide⟩, by decide +kernel⟩
 split; exact ⟨⟨by decide, by decide⟩, by decide +kernel⟩
 exact num_zero

/-- A row put together, from its end on. -/
def nrm (p : Nat × Int) : Nat × Int := if p.2 = 0 then p else (0, p.2)
theorem nrm_ok {p : Nat × Int} (h : p.2 = 0) : nrm p = (p.1, 0) := by unfold nrm; rw [if_pos h]; exact Prod.ext rfl h
theorem nrm_bad {p : Nat × Int} (h : p.2 ≠ 0) : nrm p = (0, p.2) := if_neg h
noncomputable def rowN (f : Int) : List Nat → Nat × Int
 | [] => if (fstart f).2 = true then ((fstart f).1, 0) else (0, 24)
 | [x] => (x, 0)
 | x :: y :: l => if (rowN f (y :: l)).2 = 0 then nrm (fone f x (rowN f (y :: l)).1) else rowN f (y :: l)
theorem rowN_cons (f : Int) (x : Nat) {l : List Nat} (h : l ≠ []) : rowN f (x :: l) = if (rowN f l).2 = 0 then nrm (fone f x (rowN f l).1) else rowN f l := by
 cases l with
 | nil => exact absurd rfl h
 | cons y l => rfl
theorem rowN_last (f : Int) {l : List Nat} (h : 0 < l.length) : rowN f (l.drop (l.length - 1)) = (l.getD (l.length - 1) 0, 0) := by
 have h1 : l.length - 1 < l.length := by omega
 rw [List.drop_eq_getElem_cons h1, List.drop_eq_nil_of_le (by omega), List.getD_eq_getElem?_getD, List.getElem?_eq_getElem h1]
 rfl
theorem rowN_step (f : Int) {l : List Nat} {i : Nat} (h : i + 1 < l.length) : rowN f (l.drop i) = if (rowN f (l.drop (i + 1))).2 = 0 then nrm (fone f (l.getD i 0) (rowN f (l.drop (i + 1))).1) else rowN f (l.drop (i + 1)) := by
 rw [List.drop_eq_getElem_cons (show i < l.length by omega), rowN_cons f _ (by intro h2; have := congrArg List.length h2; simp at this; omega), List.getD_eq_getElem?_getD, List.getElem?_eq_getElem (show i < l.length by omega)]
 rfl
theorem rowN_bad (f : Int) {l : List Nat} : ∀ (i : Nat), i < l.length → (rowN f (l.drop i)).2 ≠ 0 → rowN f l = rowN f (l.drop i) := by
 intro i
 induction i with
 | zero => intro _ _; rw [List.drop_zero]
 | succ i ih =>
  intro h hb
  have hs : rowN f (l.drop i) = rowN f (l.drop (i + 1)) := by rw [rowN_step f h, if_neg hb]
  rw [← hs]
  exact ih (by omega) (by rw [hs]; exact hb)
theorem rowN_num {f : Int} : ∀ {l : List Nat}, (∀ x ∈ l, Num x) → Num (rowN f l).1
 | [], _ => by unfold rowN; split; exact fstart_num f; exact num_zero
 | [x], h => h x (by simp)
 | x :: y :: l, h => by
  have ih := rowN_num (f := f) (l := y :: l) fun z hz => h z (List.mem_cons_of_mem _ hz)
  rw [rowN]
  split
  ·unfold nrm
   split
   ·exact fone_num (h x (by simp)) ih
   ·exact num_zero
  ·exact ih
theorem rowN_err {f : Int} (hk : fknown f = true) : ∀ l : List Nat, (rowN f l).2 = 0 ∨ (rowN f l).2 = 24
 | [] => by unfold rowN; split; exact .inl rfl; exact .inr rfl
 | [x] => .inl rfl
 | x :: y :: l => by
  have ih := rowN_err hk (y :: l)
  rw [rowN]
  split
  ·unfold nrm
   split
   ·exact fone_err _ _ hk
   ·exact fone_err _ _ hk
  ·exact ih

/-- The elements of a row, inner apart; all rows. -/
def lineG {α : Type} (d : α) (l : List α) (n inner o k : Nat) : List α := (List.range n).map fun i => l.getD ((o * n + i) * inner + k) d
theorem lineG_len {α : Type} (d : α) (l : List α) (n inner o k : Nat) : (lineG d l n inner o k).length = n := by simp [lineG]
theorem lineG_get {α : Type} (d : α) (l : List α) (n inner o k : Nat) {i : Nat} (h : i < n) : (lineG d l n inner o k).getD i d = l.getD ((o * n + i) * inner + k) d := by
 rw [List.getD_eq_getElem?_getD, List.getElem?_eq_getElem (by rw [lineG_len]; exact h)]; simp [lineG]
theorem place_lt {outer n inner o i k : Nat} (ho : o < outer) (hi : i < n) (hk : k < inner) : (o * n + i) * inner + k < outer * n * inner := by
 have h1 : o * n + i + 1 ≤ outer * n := by
  have := Nat.mul_le_mul_right n (show o + 1 ≤ outer by omega)
  rw [Nat.add_mul] at this; omega
 have h2 := Nat.mul_le_mul_right inner h1
 rw [Nat.add_mul] at h2; omega
theorem lineG_num {l : List Nat} {n inner o k : Nat} (h : ∀ x ∈ l, Num x) : ∀ x ∈ lineG 0 l n inner o k, Num x := by
 intro x hx
 obtain ⟨i, _, rfl⟩ := List.mem_map.1 hx
 rw [List.getD_eq_getElem?_getD]
 cases e : l[(o * n + i) * inner + k]? with
 | none => exact num_zero
 | some y => exact h y (List.mem_of_getElem? e)
end Go.Proofs.YtbacchbcanlciaaGreatDoor

/- Layer 13, plain: rows of booleans put together: by a table, cell by cell, by what settles and what flips, by counting. -/
namespace Go.Proofs.YtbacchbcanlciaaGreatDoor
set_option maxRecDepth 100000
open Go.RowKit Fl
set_option linter.unusedVariables false

/-- A row of booleans put together by a table. -/
def rowB (t : Nat) : List Bool → Bool
 | [] => false
 | [x] => x
 | x :: y :: l => tab t x (rowB t (y :: l))
def Closed (f : Int) (t : Nat) : Prop := ∀ a b : Bool, fone f (flagW a) (flagW b) = (flagW (tab t a b), 0)
theorem rowB_cons (t : Nat) (x : Bool) {l : List Bool} (h : l ≠ []) : rowB t (x :: l) = tab t x (rowB t l) := by
 cases l with
 | nil => exact absurd rfl h
 | cons y l => rfl
theorem rowB_step (t : Nat) {l : List Bool} {i : Nat} (h : i + 1 < l.length) : rowB t (l.drop i) = tab t (sq l i) (rowB t (l.drop (i + 1))) := by
 rw [List.drop_eq_getElem_cons (show i < l.length by omega), rowB_cons t _ (by intro h2; have := congrArg List.length h2; simp at this; omega), sq_in (show i < l.length by omega)]
theorem rowN_flags {f : Int} {t : Nat} (hc : Closed f t) : ∀ l : List Bool, l ≠ [] → rowN f (l.map flagW) = (flagW (rowB t l), 0)
 | [], h => absurd rfl h
 | [x], _ => rfl
 | x :: y :: l, _ => by
  have ih := rowN_flags hc (y :: l) (by simp)
  show rowN f (flagW x :: (y :: l).map flagW) = _
  rw [rowN_cons f _ (by simp), ih, if_pos rfl, hc, nrm_ok rfl]
  rfl
theorem lineG_map {α β : Type} (g : α → β) (d : α) (l : List α) (n inner o k : Nat) : lineG (g d) (l.map g) n inner o k = (lineG d l n inner o k).map g := by
 simp [lineG]
theorem bits_sq {l : List Bool} (h : l.length ≤ 1048576) : VV.bits l = sqL (l.map flagW) := by
 have hc := VV.canon (V := VV.bits l) h trivial rfl rfl (show (0 : Int) < 1 by decide)
 exact hc

theorem sq_cut (p : List Bool) {x y k : Nat} (hk : x + k < y) : sq ((p.take y).drop x) k = sq p (x + k) := by
 unfold sq
 rw [List.getElem?_drop, List.getElem?_take_of_lt hk]
theorem cut_len (p : List Bool) {x y : Nat} (hxy : x ≤ y) (hy : y ≤ p.length) : ((p.take y).drop x).length = y - x := by simp; omega
theorem sq_line (p : List Bool) (n inner o k : Nat) {i : Nat} (h : i < n) : sq (lineG false p n inner o k) i = sq p ((o * n + i) * inner + k) := by
 unfold sq
 rw [← List.getD_eq_getElem?_getD, lineG_get false p n inner o k h, List.getD_eq_getElem?_getD]
/-- Row by row: what settles, what flips. -/
theorem line_cut (p : List Bool) {outer n o : Nat} (hp : p.length = outer * n) (ho : o < outer) : (p.take ((o + 1) * n)).drop (o * n) = lineG false p n 1 o 0 := by
 have h1 : (o + 1) * n ≤ p.length := by rw [hp]; exact Nat.mul_le_mul_right _ (by omega)
 have h2 : (o + 1) * n = o * n + n := by rw [Nat.add_mul]; omega
 apply List.ext_getElem (by rw [cut_len p (by omega) h1, lineG_len]; omega)
 intro i hi1 hi2
 rw [lineG_len] at hi2
 rw [← sq_in hi1, sq_cut p (by omega), ← sq_in, sq_line p n 1 o 0 hi2]
 congr 1
 omega
def lowB (t : Nat) (x : Bool) : Bool := tab t x false
def settB (t : Nat) (x : Bool) : Bool := tab t x false == tab t x true
def flipB (t : Nat) (x : Bool) : Bool := tab t x false && !tab t x true
theorem tab_settle {t : Nat} {x : Bool} (h : settB t x = true) (y : Bool) : tab t x y = lowB t x := by
 unfold settB at h; unfold lowB
 cases y
 ·rfl
 ·exact (eq_of_beq h).symm
theorem tab_flip {t : Nat} {x : Bool} (h : settB t x = false) (y : Bool) : tab t x y = (y != flipB t x) := by
 unfold settB at h; unfold flipB
 cases h1 : tab t x false <;> cases h2 : tab t x true <;> rw [h1, h2] at h <;> first | (exact absurd h (by decide)) | (cases y <;> simp [h1, h2])
def flipsB (t : Nat) (r : List Bool) (a : Nat) : Bool := decide (cnt (sq (r.map (flipB t))) a % 2 = 1)
theorem sq_map {g : Bool → Bool} {r : List Bool} {k : Nat} (h : k < r.length) : sq (r.map g) k = g (sq r k) := by
 rw [sq_in (by rw [List.length_map]; exact h), sq_in h]; simp
theorem row_from (t : Nat) (r : List Bool) (at0 : Nat) (hat : at0 < r.length) (hns : ∀ k, k < at0 → settB t (sq r k) = false) :
  ∀ d a, a + d = at0 → rowB t (r.drop a) = (rowB t (r.drop at0) != decide (cnt (fun k => sq (r.map (flipB t)) (a + k)) d % 2 = 1))
 | 0, a, h => by
  have : a = at0 := by omega
  subst this
  simp [cnt]
 | d + 1, a, h => by
  have ih := row_from t r at0 hat hns d (a + 1) (by omega)
  rw [rowB_step t (show a + 1 < r.length by omega), tab_flip (hns a (by omega)), ih, cnt_cons]
  simp only [Nat.add_zero]
  simp only [sq_map (g := flipB t) (show a < r.length by omega)]
  have e : (fun k => sq (r.map (flipB t)) (a + (k + 1))) = fun k => sq (r.map (flipB t)) (a + 1 + k) := by funext k; congr 1; omega
  rw [e]
  generalize cnt (fun k => sq (r.map (flipB t)) (a + 1 + k)) d = c
  generalize rowB t (r.drop at0) = z
  cases flipB t (sq r a)
  ·rw [Bool.toNat_false, Nat.zero_add]; cases (z != decide (c % 2 = 1)) <;> rfl
  ·rw [Bool.toNat_true]
   have hc : c % 2 = 0 ∧ (1 + c) % 2 = 1 ∨ c % 2 = 1 ∧ (1 + c) % 2 = 0 := by omega
   rcases hc with ⟨h1, h2⟩ | ⟨h1, h2⟩ <;> simp only [h1, h2] <;> cases z <;> decide
theorem flagW_ofInt (b : Bool) : flagW b = floatOfInt .f64 (b.toNat : Int) := by cases b <;> decide +kernel
end Go.Proofs.YtbacchbcanlciaaGreatDoor

/- Layer 13, walked: the small functions of package fold, One; the reference's Known, flag, One. -/
namespace Go.Proofs.YtbacchbcanlciaaGreatDoor
set_option maxRecDepth 100000
open Go.RowKit Fl
set_option linter.unusedVariables false

theorem foreck_calls (f : Int) (w : World) : Calls Tryz.prog 62 #[.int .i64 f] w fun e w' => e = .returned (.bool (decide (1 ≤ f ∧ f ≤ 8))) ∧ w = w' := by
 by_cases h1 : (1 : Int) ≤ f
 ·by_cases h2 : f ≤ (8 : Int)
  ·have HD := Lib.hid (decide_eq_true (show 1 ≤ f ∧ f ≤ 8 from ⟨h1, h2⟩))
   rw [HD.out]
   go_enter Tryz.func62, Tryz.ntmps62
   go_wp2
   go_ret
   exact ⟨ret_b (by first | rfl | (simp; omega)), rfl⟩
  ·have HD := Lib.hid (decide_eq_false (show ¬ (1 ≤ f ∧ f ≤ 8) from fun h => h2 h.2))
   rw [HD.out]
   go_enter Tryz.func62, Tryz.ntmps62
   go_wp2
   go_ret
   exact ⟨ret_b (by first | rfl | (simp; omega)), rfl⟩
 ·have HD := Lib.hid (decide_eq_false (show ¬ (1 ≤ f ∧ f ≤ 8) from fun h => h1 h.1))
  rw [HD.out]
  go_enter Tryz.func62, Tryz.ntmps62
  go_wp2
  go_ret
  exact ⟨ret_b (by first | rfl | (simp; omega)), rfl⟩
theorem forel_calls (f : Int) (w : World) : Calls Tryz.prog 63 #[.int .i64 f] w fun e w' => e = .returned (.bool (decide (11 ≤ f ∧ f ≤ 16))) ∧ w = w' := by
 by_cases h1 : (11 : Int) ≤ f
 ·by_cases h2 : f ≤ (16 : Int)
  ·have HD := Lib.hid (decide_eq_true (show 11 ≤ f ∧ f ≤ 16 from ⟨h1, h2⟩))
   rw [HD.out]
   go_enter Tryz.func63, Tryz.ntmps63
   go_wp2
   go_ret
   exact ⟨ret_b (by first | rfl | (simp; omega)), rfl⟩
  ·have HD := Lib.hid (decide_eq_false (show ¬ (11 ≤ f ∧ f ≤ 16) from fun h => h2 h.2))
   rw [HD.out]
   go_enter Tryz.func63, Tryz.ntmps63
   go_wp2
   go_ret
   exact ⟨ret_b (by first | rfl | (simp; omega)), rfl⟩
 ·have HD := Lib.hid (decide_eq_false (show ¬ (11 ≤ f ∧ f ≤ 16) from fun h => h1 h.1))
  rw [HD.out]
  go_enter Tryz.func63, Tryz.ntmps63
  go_wp2
  go_ret
  exact ⟨ret_b (by first | rfl | (simp; omega)), rfl⟩
theorem fojud_calls (f : Int) (w : World) : Calls Tryz.prog 64 #[.int .i64 f] w fun e w' => e = .returned (.bool (decide (21 ≤ f ∧ f ≤ 24))) ∧ w = w' := by
 by_cases h1 : (21 : Int) ≤ f
 ·by_cases h2 : f ≤ (24 : Int)
  ·have HD := Lib.hid (decide_eq_true (show 21 ≤ f ∧ f ≤ 24 from ⟨h1, h2⟩))
   rw [HD.out]
   go_enter Tryz.func64, Tryz.ntmps64
   go_wp2
   go_ret
   exact ⟨ret_b (by first | rfl | (simp; omega)), rfl⟩
  ·have HD := Lib.hid (decide_eq_false (show ¬ (21 ≤ f ∧ f ≤ 24) from fun h => h2 h.2))
   rw [HD.out]
   go_enter Tryz.func64, Tryz.ntmps64
   go_wp2
   go_ret
   exact ⟨ret_b (by first | rfl | (simp; omega)), rfl⟩
 ·have HD := Lib.hid (decide_eq_false (show ¬ (21 ≤ f ∧ f ≤ 24) from fun h => h1 h.1))
  rw [HD.out]
  go_enter Tryz.func64, Tryz.ntmps64
  go_wp2
  go_ret
  exact ⟨ret_b (by first | rfl | (simp; omega)), rfl⟩
theorem dec3 {f : Int} (h : fknown f = false) : decide (1 ≤ f ∧ f ≤ 8) = false ∧ decide (11 ≤ f ∧ f ≤ 16) = false ∧ decide (21 ≤ f ∧ f ≤ 24) = false := by
 obtain ⟨h1, h2, h3⟩ := fknown_no h
 exact ⟨decide_eq_false h1, decide_eq_false h2, decide_eq_false h3⟩
theorem foknown_calls (f : Int) (w : World) : Calls Tryz.prog 27 #[.int .i64 f] w fun e w' => e = .returned (.bool (fknown f)) ∧ w = w' := by
 by_cases hk : fknown f = true
 ·rcases fknown_cases hk with h | h | h
  ·have D1 := Lib.hid (show decide (1 ≤ f ∧ f ≤ 8) = true from decide_eq_true h)
   have D2 := Lib.hid (show decide (11 ≤ f ∧ f ≤ 16) = false from decide_eq_false (by omega))
   have D3 := Lib.hid (show decide (21 ≤ f ∧ f ≤ 24) = false from decide_eq_false (by omega))
   have HK := Lib.hid hk; rw [hk]; clear hk h
   go_enter Tryz.func27, Tryz.ntmps27
   go_wp2_with (first | ((with_reducible refine (foreck_calls _ _).mono ?_); rintro e w' ⟨rfl, rfl⟩; rw [D1.out]) | ((with_reducible refine (forel_calls _ _).mono ?_); rintro e w' ⟨rfl, rfl⟩; rw [D2.out]) | ((with_reducible refine (fojud_calls _ _).mono ?_); rintro e w' ⟨rfl, rfl⟩; rw [D3.out]))
   go_ret
   exact ⟨rfl, rfl⟩
  ·have D1 := Lib.hid (show decide (1 ≤ f ∧ f ≤ 8) = false from decide_eq_false (by omega))
   have D2 := Lib.hid (show decide (11 ≤ f ∧ f ≤ 16) = true from decide_eq_true h)
   have D3 := Lib.hid (show decide (21 ≤ f ∧ f ≤ 24) = false from decide_eq_false (by omega))
   have HK := Lib.hid hk; rw [hk]; clear hk h
   go_enter Tryz.func27, Tryz.ntmps27
   go_wp2_with (first | ((with_reducible refine (foreck_calls _ _).mono ?_); rintro e w' ⟨rfl, rfl⟩; rw [D1.out]) | ((with_reducible refine (forel_calls _ _).mono ?_); rintro e w' ⟨rfl, rfl⟩; rw [D2.out]) | ((with_reducible refine (fojud_calls _ _).mono ?_); rintro e w' ⟨rfl, rfl⟩; rw [D3.out]))
   go_ret
   exact ⟨rfl, rfl⟩
  ·have D1 := Lib.hid (show decide (1 ≤ f ∧ f ≤ 8) = false from decide_eq_false (by omega))
   have D2 := Lib.hid (show decide (11 ≤ f ∧ f ≤ 16) = false from decide_eq_false (by omega))
   have D3 := Lib.hid (show decide (21 ≤ f ∧ f ≤ 24) = true from decide_eq_true h)
   have HK := Lib.hid hk; rw [hk]; clear hk h
   go_enter Tryz.func27, Tryz.ntmps27
   go_wp2_with (first | ((with_reducible refine (foreck_calls _ _).mono ?_); rintro e w' ⟨rfl, rfl⟩; rw [D1.out]) | ((with_reducible refine (forel_calls _ _).mono ?_); rintro e w' ⟨rfl, rfl⟩; rw [D2.out]) | ((with_reducible refine (fojud_calls _ _).mono ?_); rintro e w' ⟨rfl, rfl⟩; rw [D3.out]))
   go_ret
   exact ⟨rfl, rfl⟩
 ·have hk : fknown f = false := by simpa using hk
  obtain ⟨h1, h2, h3⟩ := dec3 hk
  have D1 := Lib.hid h1; have D2 := Lib.hid h2; have D3 := Lib.hid h3; rw [hk]; clear hk h1 h2 h3
  go_enter Tryz.func27, Tryz.ntmps27
  go_wp2_with (first | ((with_reducible refine (foreck_calls _ _).mono ?_); rintro e w' ⟨rfl, rfl⟩; rw [D1.out]) | ((with_reducible refine (forel_calls _ _).mono ?_); rintro e w' ⟨rfl, rfl⟩; rw [D2.out]) | ((with_reducible refine (fojud_calls _ _).mono ?_); rintro e w' ⟨rfl, rfl⟩; rw [D3.out]))
  go_ret
  exact ⟨rfl, rfl⟩
theorem truth_is (x : Nat) (w : World) (h : Fnt x) : Calls Tryz.prog 89 #[.float .f64 x] w fun e w' => e = .returned (.tuple #[.bool (bitW x), .bool (isT x)]) ∧ w = w' := truth_calls x w h
theorem flag_is (b : Bool) (w : World) : Calls Tryz.prog 49 #[.bool b] w fun e w' => e = .returned (.float .f64 (flagW b)) ∧ w = w' := flag_calls b w
theorem fotr_calls (f : Int) (a b : Nat) (w : World) (hf : 21 ≤ f ∧ f ≤ 24) (ha : Fnt a) (hb : Fnt b) : Calls Tryz.prog 145 #[.int .i64 f, .float .f64 a, .float .f64 b] w fun e w' => e = .returned (.tuple #[.float .f64 (fone f a b).1, .int .i64 (fone f a b).2]) ∧ w = w' := by
 have HA := Lib.hid ha; have HB := Lib.hid hb
 have HG := Lib.hid (show logE f = 0 from if_pos hf)
 cases h1 : isT a <;> cases h2 : isT b
 ·have HE := Lib.hid (show fone f a b = (0, 24) from fone_l24 hf (by simp [h1, h2]))
  have H1 := Lib.hid h1; have H2 := Lib.hid h2; rw [HE.out]; clear hf ha hb h1 h2
  go_enter Tryz.func145, Tryz.ntmps145
  go_wp2_with (first | ((with_reducible refine (truth_is a _ HA.out).mono ?_); rintro e w' ⟨rfl, rfl⟩; rw [H1.out]) | ((with_reducible refine (truth_is b _ HB.out).mono ?_); rintro e w' ⟨rfl, rfl⟩; rw [H2.out]) | ((with_reducible refine (loone_calls _ _ _ _).mono ?_); rintro e w' ⟨rfl, rfl⟩; rw [HG.out]) | ((with_reducible refine (flag_is _ _).mono ?_); rintro e w' ⟨rfl, rfl⟩))
  go_ret2
  exact ⟨rfl, rfl⟩
 ·have HE := Lib.hid (show fone f a b = (0, 24) from fone_l24 hf (by simp [h1, h2]))
  have H1 := Lib.hid h1; have H2 := Lib.hid h2; rw [HE.out]; clear hf ha hb h1 h2
  go_enter Tryz.func145, Tryz.ntmps145
  go_wp2_with (first | ((with_reducible refine (truth_is a _ HA.out).mono ?_); rintro e w' ⟨rfl, rfl⟩; rw [H1.out]) | ((with_reducible refine (truth_is b _ HB.out).mono ?_); rintro e w' ⟨rfl, rfl⟩; rw [H2.out]) | ((with_reducible refine (loone_calls _ _ _ _).mono ?_); rintro e w' ⟨rfl, rfl⟩; rw [HG.out]) | ((with_reducible refine (flag_is _ _).mono ?_); rintro e w' ⟨rfl, rfl⟩))
  go_ret2
  exact ⟨rfl, rfl⟩
 ·have HE := Lib.hid (show fone f a b = (0, 24) from fone_l24 hf (by simp [h1, h2]))
  have H1 := Lib.hid h1; have H2 := Lib.hid h2; rw [HE.out]; clear hf ha hb h1 h2
  go_enter Tryz.func145, Tryz.ntmps145
  go_wp2_with (first | ((with_reducible refine (truth_is a _ HA.out).mono ?_); rintro e w' ⟨rfl, rfl⟩; rw [H1.out]) | ((with_reducible refine (truth_is b _ HB.out).mono ?_); rintro e w' ⟨rfl, rfl⟩; rw [H2.out]) | ((with_reducible refine (loone_calls _ _ _ _).mono ?_); rintro e w' ⟨rfl, rfl⟩; rw [HG.out]) | ((with_reducible refine (flag_is _ _).mono ?_); rintro e w' ⟨rfl, rfl⟩))
  go_ret2
  exact ⟨rfl, rfl⟩
 ·have HE := Lib.hid (show fone f a b = (flagW (logB f (bitW a) (bitW b)), 0) from fone_l hf h1 h2)
  have H1 := Lib.hid h1; have H2 := Lib.hid h2; rw [HE.out]; clear hf ha hb h1 h2
  go_enter Tryz.func145, Tryz.ntmps145
  go_wp2_with (first | ((with_reducible refine (truth_is a _ HA.out).mono ?_); rintro e w' ⟨rfl, rfl⟩; rw [H1.out]) | ((with_reducible refine (truth_is b _ HB.out).mono ?_); rintro e w' ⟨rfl, rfl⟩; rw [H2.out]) | ((with_reducible refine (loone_calls _ _ _ _).mono ?_); rintro e w' ⟨rfl, rfl⟩; rw [HG.out]) | ((with_reducible refine (flag_is _ _).mono ?_); rintro e w' ⟨rfl, rfl⟩))
  go_ret2
  exact ⟨rfl, rfl⟩
set_option maxHeartbeats 4000000 in
theorem foone_calls (f : Int) (a b : Nat) (w : World) (ha : Num a) (hb : Num b) : Calls Tryz.prog 113 #[.int .i64 f, .float .f64 a, .float .f64 b] w (Pwd (fone f a b) w) := by
 have HA := Lib.hid ha; have HB := Lib.hid hb; have FA := Lib.hid ha.1; have FB := Lib.hid hb.1
 by_cases hk : fknown f = true
 ·rcases fknown_cases hk with h | h | h
  ·have D1 := Lib.hid (show decide (1 ≤ f ∧ f ≤ 8) = true from decide_eq_true h)
   have D2 := Lib.hid (show decide (11 ≤ f ∧ f ≤ 16) = false from decide_eq_false (by omega))
   have D3 := Lib.hid (show decide (21 ≤ f ∧ f ≤ 24) = false from decide_eq_false (by omega))
   have HE := Lib.hid (fone_a a b h)
   rw [HE.out]; clear hk h ha hb
   go_enter Tryz.func113, Tryz.ntmps113
   go_wp2_with (first | (first | ((with_reducible refine (foreck_calls _ _).mono ?_); rintro e w' ⟨rfl, rfl⟩; rw [D1.out]) | ((with_reducible refine (forel_calls _ _).mono ?_); rintro e w' ⟨rfl, rfl⟩; rw [D2.out]) | ((with_reducible refine (fojud_calls _ _).mono ?_); rintro e w' ⟨rfl, rfl⟩; rw [D3.out])) | ((with_reducible refine (aone_calls _ _ _ _ HA.out HB.out).mono ?_); rintro e w' ⟨rfl, m, rfl⟩))
   go_ret2
   exact ⟨rfl, m, rfl⟩
  ·have D1 := Lib.hid (show decide (1 ≤ f ∧ f ≤ 8) = false from decide_eq_false (by omega))
   have D2 := Lib.hid (show decide (11 ≤ f ∧ f ≤ 16) = true from decide_eq_true h)
   have D3 := Lib.hid (show decide (21 ≤ f ∧ f ≤ 24) = false from decide_eq_false (by omega))
   have HE := Lib.hid (fone_r a b h)
   have HG := Lib.hid (show relE f = 0 from if_pos h)
   rw [HE.out]; clear hk h ha hb
   go_enter Tryz.func113, Tryz.ntmps113
   go_wp2_with (first | (first | ((with_reducible refine (foreck_calls _ _).mono ?_); rintro e w' ⟨rfl, rfl⟩; rw [D1.out]) | ((with_reducible refine (forel_calls _ _).mono ?_); rintro e w' ⟨rfl, rfl⟩; rw [D2.out]) | ((with_reducible refine (fojud_calls _ _).mono ?_); rintro e w' ⟨rfl, rfl⟩; rw [D3.out])) | ((with_reducible refine (reone_calls _ _ _ _ FA.out FB.out).mono ?_); rintro e w' ⟨rfl, rfl⟩; rw [HG.out]) | ((with_reducible refine (flag_is _ _).mono ?_); rintro e w' ⟨rfl, rfl⟩))
   go_ret2
   exact ⟨rfl, 0, rfl⟩
  ·have D1 := Lib.hid (show decide (1 ≤ f ∧ f ≤ 8) = false from decide_eq_false (by omega))
   have D2 := Lib.hid (show decide (11 ≤ f ∧ f ≤ 16) = false from decide_eq_false (by omega))
   have D3 := Lib.hid (show decide (21 ≤ f ∧ f ≤ 24) = true from decide_eq_true h)
   have HF := Lib.hid h; clear hk h ha hb
   go_enter Tryz.func113, Tryz.ntmps113
   go_wp2_with (first | (first | ((with_reducible refine (foreck_calls _ _).mono ?_); rintro e w' ⟨rfl, rfl⟩; rw [D1.out]) | ((with_reducible refine (forel_calls _ _).mono ?_); rintro e w' ⟨rfl, rfl⟩; rw [D2.out]) | ((with_reducible refine (fojud_calls _ _).mono ?_); rintro e w' ⟨rfl, rfl⟩; rw [D3.out])) | ((with_reducible refine (fotr_calls _ _ _ _ HF.out FA.out FB.out).mono ?_); rintro e w' ⟨rfl, rfl⟩))
   go_ret2
   exact ⟨rfl, 0, rfl⟩
 ·have hk : fknown f = false := by simpa using hk
  obtain ⟨h1, h2, h3⟩ := dec3 hk
  have D1 := Lib.hid h1; have D2 := Lib.hid h2; have D3 := Lib.hid h3
  rw [fone_no a b hk]
  clear hk h1 h2 h3 ha hb
  go_enter Tryz.func113, Tryz.ntmps113
  go_wp2_with (first | ((with_reducible refine (foreck_calls _ _).mono ?_); rintro e w' ⟨rfl, rfl⟩; rw [D1.out]) | ((with_reducible refine (forel_calls _ _).mono ?_); rintro e w' ⟨rfl, rfl⟩; rw [D2.out]) | ((with_reducible refine (fojud_calls _ _).mono ?_); rintro e w' ⟨rfl, rfl⟩; rw [D3.out]))
  go_ret2
  exact ⟨rfl, 0, rfl⟩
theorem fparts (f : Int) : (f < 1) ∨ (1 ≤ f ∧ f ≤ 8) ∨ (8 < f ∧ f < 11) ∨ (11 ≤ f ∧ f ≤ 16) ∨ (16 < f ∧ f < 21) ∨ (21 ≤ f ∧ f ≤ 24) ∨ (24 < f) := by omega
theorem rfknown_calls (f : Int) (w : World) : Calls Tryz.prog 21 #[.int .i64 f] w fun e w' => e = .returned (.bool (fknown f)) ∧ w = w' := by
 rcases fparts f with h | h | h | h | h | h | h
 ·have HD := Lib.hid (show fknown f = false by simp [fknown]; omega)
  rw [HD.out]
  have h0 : ¬ 1 ≤ f := by omega
  have h1 : f ≤ 8 := by omega
  have h2 : ¬ 11 ≤ f := by omega
  have h3 : f ≤ 16 := by omega
  have h4 : ¬ 21 ≤ f := by omega
  have h5 : f ≤ 24 := by omega
  clear h
  go_enter Tryz.func21, Tryz.ntmps21
  go_wp2
  go_ret
  exact ⟨ret_b (by first | rfl | (simp; done) | (simp; omega)), rfl⟩
 ·have HD := Lib.hid (show fknown f = true by simp [fknown]; omega)
  rw [HD.out]
  have h0 : 1 ≤ f := by omega
  have h1 : f ≤ 8 := by omega
  have h2 : ¬ 11 ≤ f := by omega
  have h3 : f ≤ 16 := by omega
  have h4 : ¬ 21 ≤ f := by omega
  have h5 : f ≤ 24 := by omega
  clear h
  go_enter Tryz.func21, Tryz.ntmps21
  go_wp2
  go_ret
  exact ⟨ret_b (by first | rfl | (simp; done) | (simp; omega)), rfl⟩
 ·have HD := Lib.hid (show fknown f = false by simp [fknown]; omega)
  rw [HD.out]
  have h0 : 1 ≤ f := by omega
  have h1 : ¬ f ≤ 8 := by omega
  have h2 : ¬ 11 ≤ f := by omega
  have h3 : f ≤ 16 := by omega
  have h4 : ¬ 21 ≤ f := by omega
  have h5 : f ≤ 24 := by omega
  clear h
  go_enter Tryz.func21, Tryz.ntmps21
  go_wp2
  go_ret
  exact ⟨ret_b (by first | rfl | (simp; done) | (simp; omega)), rfl⟩
 ·have HD := Lib.hid (show fknown f = true by simp [fknown]; omega)
  rw [HD.out]
  have h0 : 1 ≤ f := by omega
  have h1 : ¬ f ≤ 8 := by omega
  have h2 : 11 ≤ f := by omega
  have h3 : f ≤ 16 := by omega
  have h4 : ¬ 21 ≤ f := by omega
  have h5 : f ≤ 24 := by omega
  clear h
  go_enter Tryz.func21, Tryz.ntmps21
  go_wp2
  go_ret
  exact ⟨ret_b (by first | rfl | (simp; done) | (simp; omega)), rfl⟩
 ·have HD := Lib.hid (show fknown f = false by simp [fknown]; omega)
  rw [HD.out]
  have h0 : 1 ≤ f := by omega
  have h1 : ¬ f ≤ 8 := by omega
  have h2 : 11 ≤ f := by omega
  have h3 : ¬ f ≤ 16 := by omega
  have h4 : ¬ 21 ≤ f := by omega
  have h5 : f ≤ 24 := by omega
  clear h
  go_enter Tryz.func21, Tryz.ntmps21
  go_wp2
  go_ret
  exact ⟨ret_b (by first | rfl | (simp; done) | (simp; omega)), rfl⟩
 ·have HD := Lib.hid (show fknown f = true by simp [fknown]; omega)
  rw [HD.out]
  have h0 : 1 ≤ f := by omega
  have h1 : ¬ f ≤ 8 := by omega
  have h2 : 11 ≤ f := by omega
  have h3 : ¬ f ≤ 16 := by omega
  have h4 : 21 ≤ f := by omega
  have h5 : f ≤ 24 := by omega
  clear h
  go_enter Tryz.func21, Tryz.ntmps21
  go_wp2
  go_ret
  exact ⟨ret_b (by first | rfl | (simp; done) | (simp; omega)), rfl⟩
 ·have HD := Lib.hid (show fknown f = false by simp [fknown]; omega)
  rw [HD.out]
  have h0 : 1 ≤ f := by omega
  have h1 : ¬ f ≤ 8 := by omega
  have h2 : 11 ≤ f := by omega
  have h3 : ¬ f ≤ 16 := by omega
  have h4 : 21 ≤ f := by omega
  have h5 : ¬ f ≤ 24 := by omega
  clear h
  go_enter Tryz.func21, Tryz.ntmps21
  go_wp2
  go_ret
  exact ⟨ret_b (by first | rfl | (simp; done) | (simp; omega)), rfl⟩
theorem rfflag_calls (b : Bool) (w : World) : Calls Tryz.prog 107 #[.bool b] w fun e w' => e = .returned (.float .f64 (flagW b)) ∧ w = w' := by
 cases b
 all_goals
  go_enter Tryz.func107, Tryz.ntmps107
  go_wp2
  go_ret
  exact ⟨rfl, rfl⟩
end Go.Proofs.YtbacchbcanlciaaGreatDoor

/- Layer 13, walked: the reference's One; Start of both. -/
namespace Go.Proofs.YtbacchbcanlciaaGreatDoor
set_option maxRecDepth 100000
open Go.RowKit Fl
set_option linter.unusedVariables false

set_option maxHeartbeats 16000000 in
theorem rfone_calls (f : Int) (a b : Nat) (w : World) (ha : Num a) (hb : Num b) : Calls Tryz.prog 73 #[.int .i64 f, .float .f64 a, .float .f64 b] w (Pwd (fone f a b) w) := by
 have HA := Lib.hid ha; have HB := Lib.hid hb; have FA := Lib.hid ha.1; have FB := Lib.hid hb.1
 by_cases hk : fknown f = true
 ·have HK := Lib.hid hk
  rcases fknown_cases hk with h | h | h
  ·have HE := Lib.hid (fone_a a b h)
   have h8 : f ≤ 8 := h.2
   rw [HE.out]; clear hk h ha hb
   go_enter Tryz.func73, Tryz.ntmps73
   go_wp2_with (first | ((with_reducible refine (rfknown_calls _ _).mono ?_); rintro e w' ⟨rfl, rfl⟩; rw [HK.out]) | ((with_reducible refine (raone_calls _ _ _ _ HA.out HB.out).mono ?_); rintro e w' ⟨rfl, m, rfl⟩))
   go_ret2
   exact ⟨rfl, m, rfl⟩
  ·have HE := Lib.hid (fone_r a b h)
   have HG := Lib.hid (show relE f = 0 from if_pos h)
   have h8 : ¬ f ≤ 8 := by omega
   have h16 : f ≤ 16 := h.2
   rw [HE.out]; clear hk h ha hb
   go_enter Tryz.func73, Tryz.ntmps73
   go_wp2_with (first | ((with_reducible refine (rfknown_calls _ _).mono ?_); rintro e w' ⟨rfl, rfl⟩; rw [HK.out]) | ((with_reducible refine (rrone_calls _ _ _ _ FA.out FB.out).mono ?_); rintro e w' ⟨rfl, rfl⟩) | ((with_reducible refine (rfflag_calls _ _).mono ?_); rintro e w' ⟨rfl, rfl⟩))
   go_ret2
   exact ⟨rfl, 0, rfl⟩
  ·have h8 : ¬ f ≤ 8 := by omega
   have h16 : ¬ f ≤ 16 := by omega
   have HF := Lib.hid h
   rcases tr_parts ha.1 with ⟨h1, ⟨k1, o1, q1⟩ | ⟨k1, o1, q1⟩⟩ | ⟨h1, ⟨o1, q1⟩ | ⟨o1, q1⟩ | ⟨o1, q1⟩⟩
   ·rcases tr_parts hb.1 with ⟨h2, ⟨k2, o2, q2⟩ | ⟨k2, o2, q2⟩⟩ | ⟨h2, ⟨o2, q2⟩ | ⟨o2, q2⟩ | ⟨o2, q2⟩⟩
    ·have K3 := Lib.hid (show logB f true true = logB f (bitW a) (bitW b) by rw [k1, k2])
     have HE := Lib.hid (fone_l h h1 h2)
     rw [HE.out]; clear hk h ha hb h1 h2 k1 k2
     go_enter Tryz.func73, Tryz.ntmps73
     go_wp2_with (first | ((with_reducible refine (rfknown_calls _ _).mono ?_); rintro e w' ⟨rfl, rfl⟩; rw [HK.out]) | ((with_reducible refine (rlone_calls _ _ _ _).mono ?_); rintro e w' ⟨rfl, rfl⟩; rw [K3.out]) | ((with_reducible refine (rfflag_calls _ _).mono ?_); rintro e w' ⟨rfl, rfl⟩))
     go_ret2
     exact ⟨rfl, 0, rfl⟩
    ·have K3 := Lib.hid (show logB f true false = logB f (bitW a) (bitW b) by rw [k1, k2])
     have HE := Lib.hid (fone_l h h1 h2)
     rw [HE.out]; clear hk h ha hb h1 h2 k1 k2
     go_enter Tryz.func73, Tryz.ntmps73
     go_wp2_with (first | ((with_reducible refine (rfknown_calls _ _).mono ?_); rintro e w' ⟨rfl, rfl⟩; rw [HK.out]) | ((with_reducible refine (rlone_calls _ _ _ _).mono ?_); rintro e w' ⟨rfl, rfl⟩; rw [K3.out]) | ((with_reducible refine (rfflag_calls _ _).mono ?_); rintro e w' ⟨rfl, rfl⟩))
     go_ret2
     exact ⟨rfl, 0, rfl⟩
    ·have HE := Lib.hid (show fone f a b = (0, 24) from fone_l24 h (by simp [h1, h2]))
     rw [HE.out]; clear hk h ha hb h1 h2 k1
     go_enter Tryz.func73, Tryz.ntmps73
     go_wp2_with ((with_reducible refine (rfknown_calls _ _).mono ?_); rintro e w' ⟨rfl, rfl⟩; rw [HK.out])
     go_ret2
     exact ⟨rfl, 0, rfl⟩
    ·have HE := Lib.hid (show fone f a b = (0, 24) from fone_l24 h (by simp [h1, h2]))
     rw [HE.out]; clear hk h ha hb h1 h2 k1
     go_enter Tryz.func73, Tryz.ntmps73
     go_wp2_with ((with_reducible refine (rfknown_calls _ _).mono ?_); rintro e w' ⟨rfl, rfl⟩; rw [HK.out])
     go_ret2
     exact ⟨rfl, 0, rfl⟩
    ·have HE := Lib.hid (show fone f a b = (0, 24) from fone_l24 h (by simp [h1, h2]))
     rw [HE.out]; clear hk h ha hb h1 h2 k1
     go_enter Tryz.func73, Tryz.ntmps73
     go_wp2_with ((with_reducible refine (rfknown_calls _ _).mono ?_); rintro e w' ⟨rfl, rfl⟩; rw [HK.out])
     go_ret2
     exact ⟨rfl, 0, rfl⟩
   ·rcases tr_parts hb.1 with ⟨h2, ⟨k2, o2, q2⟩ | ⟨k2, o2, q2⟩⟩ | ⟨h2, ⟨o2, q2⟩ | ⟨o2, q2⟩ | ⟨o2, q2⟩⟩
    ·have K3 := Lib.hid (show logB f false true = logB f (bitW a) (bitW b) by rw [k1, k2])
     have HE := Lib.hid (fone_l h h1 h2)
     rw [HE.out]; clear hk h ha hb h1 h2 k1 k2
     go_enter Tryz.func73, Tryz.ntmps73
     go_wp2_with (first | ((with_reducible refine (rfknown_calls _ _).mono ?_); rintro e w' ⟨rfl, rfl⟩; rw [HK.out]) | ((with_reducible refine (rlone_calls _ _ _ _).mono ?_); rintro e w' ⟨rfl, rfl⟩; rw [K3.out]) | ((with_reducible refine (rfflag_calls _ _).mono ?_); rintro e w' ⟨rfl, rfl⟩))
     go_ret2
     exact ⟨rfl, 0, rfl⟩
    ·have K3 := Lib.hid (show logB f false false = logB f (bitW a) (bitW b) by rw [k1, k2])
     have HE := Lib.hid (fone_l h h1 h2)
     rw [HE.out]; clear hk h ha hb h1 h2 k1 k2
     go_enter Tryz.func73, Tryz.ntmps73
     go_wp2_with (first | ((with_reducible refine (rfknown_calls _ _).mono ?_); rintro e w' ⟨rfl, rfl⟩; rw [HK.out]) | ((with_reducible refine (rlone_calls _ _ _ _).mono ?_); rintro e w' ⟨rfl, rfl⟩; rw [K3.out]) | ((with_reducible refine (rfflag_calls _ _).mono ?_); rintro e w' ⟨rfl, rfl⟩))
     go_ret2
     exact ⟨rfl, 0, rfl⟩
    ·have HE := Lib.hid (show fone f a b = (0, 24) from fone_l24 h (by simp [h1, h2]))
     rw [HE.out]; clear hk h ha hb h1 h2 k1
     go_enter Tryz.func73, Tryz.ntmps73
     go_wp2_with ((with_reducible refine (rfknown_calls _ _).mono ?_); rintro e w' ⟨rfl, rfl⟩; rw [HK.out])
     go_ret2
     exact ⟨rfl, 0, rfl⟩
    ·have HE := Lib.hid (show fone f a b = (0, 24) from fone_l24 h (by simp [h1, h2]))
     rw [HE.out]; clear hk h ha hb h1 h2 k1
     go_enter Tryz.func73, Tryz.ntmps73
     go_wp2_with ((with_reducible refine (rfknown_calls _ _).mono ?_); rintro e w' ⟨rfl, rfl⟩; rw [HK.out])
     go_ret2
     exact ⟨rfl, 0, rfl⟩
    ·have HE := Lib.hid (show fone f a b = (0, 24) from fone_l24 h (by simp [h1, h2]))
     rw [HE.out]; clear hk h ha hb h1 h2 k1
     go_enter Tryz.func73, Tryz.ntmps73
     go_wp2_with ((with_reducible refine (rfknown_calls _ _).mono ?_); rintro e w' ⟨rfl, rfl⟩; rw [HK.out])
     go_ret2
     exact ⟨rfl, 0, rfl⟩
   ·have HE := Lib.hid (show fone f a b = (0, 24) from fone_l24 h (by simp [h1]))
    rw [HE.out]; clear hk h ha hb h1
    go_enter Tryz.func73, Tryz.ntmps73
    go_wp2_with ((with_reducible refine (rfknown_calls _ _).mono ?_); rintro e w' ⟨rfl, rfl⟩; rw [HK.out])
    go_ret2
    exact ⟨rfl, 0, rfl⟩
   ·have HE := Lib.hid (show fone f a b = (0, 24) from fone_l24 h (by simp [h1]))
    rw [HE.out]; clear hk h ha hb h1
    go_enter Tryz.func73, Tryz.ntmps73
    go_wp2_with ((with_reducible refine (rfknown_calls _ _).mono ?_); rintro e w' ⟨rfl, rfl⟩; rw [HK.out])
    go_ret2
    exact ⟨rfl, 0, rfl⟩
   ·have HE := Lib.hid (show fone f a b = (0, 24) from fone_l24 h (by simp [h1]))
    rw [HE.out]; clear hk h ha hb h1
    go_enter Tryz.func73, Tryz.ntmps73
    go_wp2_with ((with_reducible refine (rfknown_calls _ _).mono ?_); rintro e w' ⟨rfl, rfl⟩; rw [HK.out])
    go_ret2
    exact ⟨rfl, 0, rfl⟩
 ·have hk : fknown f = false := by simpa using hk
  have HK := Lib.hid hk
  rw [fone_no a b hk]
  clear hk ha hb
  go_enter Tryz.func73, Tryz.ntmps73
  go_wp2_with ((with_reducible refine (rfknown_calls _ _).mono ?_); rintro e w' ⟨rfl, rfl⟩; rw [HK.out])
  go_ret2
  exact ⟨rfl, 0, rfl⟩
end Go.Proofs.YtbacchbcanlciaaGreatDoor

/- Layer 13, walked: tableOf of package fold. -/
namespace Go.Proofs.YtbacchbcanlciaaGreatDoor
set_option maxRecDepth 100000
open Go.RowKit Fl
set_option linter.unusedVariables false

theorem isT_flagW {x : Nat} (hx : Num x) (h : isT x = true) : x = flagW (bitW x) := by
 have hp := pw_pos 1074
 have h := h
 simp only [isT, Bool.or_eq_true, decide_eq_true_eq] at h
 refine V_inj hx (flagW_num _) ?_
 rw [V_flagW]
 unfold bitW
 rcases h with h | h
 ·rw [decide_eq_false (by rw [h]; omega)]; simpa using h
 ·rw [decide_eq_true h]; simpa using h
end Go.Proofs.YtbacchbcanlciaaGreatDoor

/- Layer 13, walked: Two of package fold. -/
namespace Go.Proofs.YtbacchbcanlciaaGreatDoor
set_option maxRecDepth 100000
open Go.RowKit Fl
set_option linter.unusedVariables false

noncomputable def twE (f : Int) (A B : VV) : Int := if 1 ≤ f ∧ f ≤ 8 then apE f A B else if 11 ≤ f ∧ f ≤ 16 then reE f A B else loE f A B
noncomputable def twV (f : Int) (A B : VV) : VV := if 1 ≤ f ∧ f ≤ 8 then apV f A B else if 11 ≤ f ∧ f ≤ 16 then reV f A B else loV f A B
theorem tw_a {f : Int} (h : 1 ≤ f ∧ f ≤ 8) (A B : VV) : twE f A B = apE f A B ∧ twV f A B = apV f A B := ⟨if_pos h, if_pos h⟩
theorem tw_r {f : Int} (h : 11 ≤ f ∧ f ≤ 16) (A B : VV) : twE f A B = reE f A B ∧ twV f A B = reV f A B := by
 have h2 : ¬ (1 ≤ f ∧ f ≤ 8) := by omega
 unfold twE twV; rw [if_neg h2, if_neg h2, if_pos h, if_pos h]; exact ⟨rfl, rfl⟩
theorem tw_l {f : Int} (h1 : ¬ (1 ≤ f ∧ f ≤ 8)) (h2 : ¬ (11 ≤ f ∧ f ≤ 16)) (A B : VV) : twE f A B = loE f A B ∧ twV f A B = loV f A B := by
 unfold twE twV; rw [if_neg h1, if_neg h1, if_neg h2, if_neg h2]; exact ⟨rfl, rfl⟩
theorem reV_bits (f : Int) (A B : VV) : reV f A B = .none ∨ ∃ l, reV f A B = .bits l := by
 unfold reV; split
 ·exact .inr ⟨_, rfl⟩
 ·exact .inl rfl
theorem loV_bits (f : Int) (A B : VV) : loV f A B = .none ∨ ∃ l, loV f A B = .bits l := by
 unfold loV; split
 ·exact .inr ⟨_, rfl⟩
 ·exact .inl rfl
theorem IsV.bn_set {w : World} {ok : Nat → Prop} {u : Value} {V : VV} (h : IsV w ok u V) (hV : V = .none ∨ ∃ l, V = .bits l) {p : Addr} (hp : w.cell? p = some .nilIface) (x : Value) : IsV (w.setCell p x) (fun _ => True) u V := by
 rcases hV with rfl | ⟨l, rfl⟩
 ·cases h; exact .none
 ·exact h.bits_set hp (.inl rfl) x
set_option maxHeartbeats 8000000 in
theorem fotwo_calls {okA okB : Nat → Prop} (f : Int) (uA uB : Value) (A B : VV) (w : World) (hA : IsV w okA uA A) (hB' : IsV w okB uB B) (oA : A.ok) (oB : B.ok) (nA : A.nm) (nB : B.nm) (hT : TabAt w) :
  Calls Tryz.prog 93 #[.int .i64 f, .agg #[uA], .agg #[uB]] w fun e w' => ∃ u, e = .returned (.tuple #[.agg #[u], .int .i64 (twE f A B)]) ∧ IsV w' (fun _ => True) u (twV f A B) ∧ Below w.heap.size w w' := by
 have hsa := hA.store
 have hsb := hB'.store
 obtain ⟨W1, hW1⟩ : ∃ W1, W1 = ((w.alloc (.cells #[uA] 25)).alloc (.cells #[uB] 25)).alloc (.cells #[.nilIface] 25) := ⟨_, rfl⟩
 have HB := Lib.hid (show Below w.heap.size w W1 by rw [hW1]; exact ((below_new _ _).alloc (by simp) _).alloc (by simp; omega) _)
 have HA := Lib.hid (show At1 W1 w.heap.size uA by rw [hW1]; exact ((At1.new w _ _).below (below_new _ _)).below ((below_new _ _).mono (by simp)))
 have HB2 := Lib.hid (show At1 W1 (w.heap.size + 1) uB by rw [hW1]; have := (At1.new (w.alloc (.cells #[uA] 25)) uB 25).below (below_new _ (.cells #[.nilIface] 25)); simpa using this)
 have HR := Lib.hid (show At1 W1 (w.heap.size + 1 + 1) .nilIface by rw [hW1]; have := At1.new ((w.alloc (.cells #[uA] 25)).alloc (.cells #[uB] 25)) .nilIface 25; simpa using this)
 have HU := Lib.hid (show IsV W1 okA uA A from hA.grow HB.out)
 have HU2 := Lib.hid (show IsV W1 okB uB B from hB'.grow HB.out)
 have HT := Lib.hid (show TabAt W1 from fun j hj => keep_below HB.out _ _ (hT j hj))
 have HOA := Lib.hid oA; have HOB := Lib.hid oB; have HNA := Lib.hid nA; have HNB := Lib.hid nB
 have HWS := Lib.hid (show W1.heap.size = w.heap.size + 3 by rw [hW1]; simp)
 have HW1 := Lib.hid (Below.refl W1.heap.size W1)
 have hfold := hW1.symm
 clear hA hB' hT oA oB nA nB hW1
 by_cases h1 : 1 ≤ f ∧ f ≤ 8
 ·have D1 := Lib.hid (show decide (1 ≤ f ∧ f ≤ 8) = true from decide_eq_true h1)
  have D2 := Lib.hid (show decide (11 ≤ f ∧ f ≤ 16) = false from decide_eq_false (by omega))
  have HEQ := Lib.hid (tw_a h1 A B)
  clear h1; have cHA0 := HA.out.2.1; have cHB20 := HB2.out.2.1; have cHR0 := HR.out.2.1; have zHR0 := HR.out.2.2 0
  go_enter Tryz.func93, Tryz.ntmps93
  go_wp2_with (first | ((with_reducible refine (foreck_calls _ _).mono ?_); rintro e w' ⟨rfl, rfl⟩; rw [D1.out]) | ((with_reducible refine (forel_calls _ _).mono ?_); rintro e w' ⟨rfl, rfl⟩; rw [D2.out]))
  clear hfold; have HWQ := Lib.hid HW1.out.size
  refine (arapply_calls f _ _ A B _ HU.out HU2.out HOA.out HOB.out HNA.out HNB.out HT.out).mono ?_
  rintro e W11 ⟨uq, rfl, huq, hB⟩
  clear cHA0 cHB20 cHR0 zHR0; replace HB := cb hB HB; replace HW1 := cb hB HW1; replace HT := HT.go hB; replace HU := HU.go hB; replace HU2 := HU2.go hB; replace HA := HA.go hB; replace HB2 := HB2.go hB; replace HR := HR.go hB
  rw [← HEQ.out.1]
  rw [← HEQ.out.2] at huq
  have HQ := Lib.hid huq; have hsq := huq.store; clear huq; clear hB; have cHA0 := HA.out.2.1; have cHB20 := HB2.out.2.1; have cHR0 := HR.out.2.1; have zHR0 := HR.out.2.2 0
  go_wp2_with fail
  refine bodyPost_ret (v := .tuple #[.agg #[uq], .int .i64 (twE f A B)]) (by simp [results, Tryz.results93, go_sem, cHR0]) rfl ⟨uq, rfl, ?_, HB.out.setCell (by show w.heap.size ≤ w.heap.size + 1 + 1; omega) _⟩
  exact (HQ.out.keep (Kept.setCell _ _ _ (by have := HWS.out; have := HWQ.out; simp; omega)) (fun _ _ h => h)).any
 by_cases h2 : 11 ≤ f ∧ f ≤ 16
 ·have D1 := Lib.hid (show decide (1 ≤ f ∧ f ≤ 8) = false from decide_eq_false h1)
  have D2 := Lib.hid (show decide (11 ≤ f ∧ f ≤ 16) = true from decide_eq_true h2)
  have HEQ := Lib.hid (tw_r h2 A B)
  clear h1 h2; have cHA0 := HA.out.2.1; have cHB20 := HB2.out.2.1; have cHR0 := HR.out.2.1; have zHR0 := HR.out.2.2 0
  go_enter Tryz.func93, Tryz.ntmps93
  go_wp2_with (first | ((with_reducible refine (foreck_calls _ _).mono ?_); rintro e w' ⟨rfl, rfl⟩; rw [D1.out]) | ((with_reducible refine (forel_calls _ _).mono ?_); rintro e w' ⟨rfl, rfl⟩; rw [D2.out]))
  clear hfold; have HWQ := Lib.hid HW1.out.size
  refine (reapply_calls f _ _ A B _ HU.out HU2.out HOA.out HOB.out HNA.out HNB.out HT.out).mono ?_
  rintro e W11 ⟨uq, rfl, huq, hB⟩
  clear cHA0 cHB20 cHR0 zHR0; replace HB := cb hB HB; replace HW1 := cb hB HW1; replace HT := HT.go hB; replace HU := HU.go hB; replace HU2 := HU2.go hB; replace HA := HA.go hB; replace HB2 := HB2.go hB; replace HR := HR.go hB
  rw [← HEQ.out.1]
  rw [← HEQ.out.2] at huq
  have HQ := Lib.hid huq; have hsq := huq.store; clear huq; clear hB; have cHA0 := HA.out.2.1; have cHB20 := HB2.out.2.1; have cHR0 := HR.out.2.1; have zHR0 := HR.out.2.2 0
  go_wp2_with fail
  refine bodyPost_ret (v := .tuple #[.agg #[uq], .int .i64 (twE f A B)]) (by simp [results, Tryz.results93, go_sem, cHR0]) rfl ⟨uq, rfl, ?_, HB.out.setCell (by show w.heap.size ≤ w.heap.size + 1 + 1; omega) _⟩
  exact HQ.out.bn_set (by rw [HEQ.out.2]; exact reV_bits f A B) HR.out.2.1 _
 have D1 := Lib.hid (show decide (1 ≤ f ∧ f ≤ 8) = false from decide_eq_false h1)
 have D2 := Lib.hid (show decide (11 ≤ f ∧ f ≤ 16) = false from decide_eq_false h2)
 have HEQ := Lib.hid (tw_l h1 h2 A B)
 clear h1 h2; have cHA0 := HA.out.2.1; have cHB20 := HB2.out.2.1; have cHR0 := HR.out.2.1; have zHR0 := HR.out.2.2 0
 go_enter Tryz.func93, Tryz.ntmps93
 go_wp2_with (first | ((with_reducible refine (foreck_calls _ _).mono ?_); rintro e w' ⟨rfl, rfl⟩; rw [D1.out]) | ((with_reducible refine (forel_calls _ _).mono ?_); rintro e w' ⟨rfl, rfl⟩; rw [D2.out]))
 clear hfold; have HWQ := Lib.hid HW1.out.size
 refine (loapply_calls f _ _ A B _ HU.out HU2.out HOA.out HOB.out HNA.out HNB.out HT.out).mono ?_
 rintro e W11 ⟨uq, rfl, huq, hB⟩
 clear cHA0 cHB20 cHR0 zHR0; replace HB := cb hB HB; replace HW1 := cb hB HW1; replace HT := HT.go hB; replace HU := HU.go hB; replace HU2 := HU2.go hB; replace HA := HA.go hB; replace HB2 := HB2.go hB; replace HR := HR.go hB
 rw [← HEQ.out.1]
 rw [← HEQ.out.2] at huq
 have HQ := Lib.hid huq; have hsq := huq.store; clear huq; clear hB; have cHA0 := HA.out.2.1; have cHB20 := HB2.out.2.1; have cHR0 := HR.out.2.1; have zHR0 := HR.out.2.2 0
 go_wp2_with fail
 refine bodyPost_ret (v := .tuple #[.agg #[uq], .int .i64 (twE f A B)]) (by simp [results, Tryz.results93, go_sem, cHR0]) rfl ⟨uq, rfl, ?_, HB.out.setCell (by show w.heap.size ≤ w.heap.size + 1 + 1; omega) _⟩
 exact HQ.out.bn_set (by rw [HEQ.out.2]; exact loV_bits f A B) HR.out.2.1 _
end Go.Proofs.YtbacchbcanlciaaGreatDoor

/- Layer 13, walked: piece, sized of package fold. -/
namespace Go.Proofs.YtbacchbcanlciaaGreatDoor
set_option maxRecDepth 100000
open Go.RowKit Fl
set_option linter.unusedVariables false

end Go.Proofs.YtbacchbcanlciaaGreatDoor

/- Layer 13, walked: ofRows of package fold. -/
namespace Go.Proofs.YtbacchbcanlciaaGreatDoor
set_option maxRecDepth 100000
open Go.RowKit Fl
set_option linter.unusedVariables false

theorem zip_rep (t : Nat) (p : List Bool) (b : Bool) : List.zipWith (tab t) p (List.replicate p.length b) = p.map fun x => tab t x b := by
 apply List.ext_getElem (by simp)
 intro i h1 h2
 simp
theorem zip_sett (t : Nat) (p : List Bool) : List.zipWith (tab 9) (p.map fun x => tab t x false) (p.map fun x => tab t x true) = p.map (settB t) := by
 apply List.ext_getElem (by simp)
 intro i h1 h2
 simp only [List.getElem_zipWith, List.getElem_map, settB]
 cases tab t _ false <;> cases tab t _ true <;> decide
theorem zip_flip (t : Nat) (p : List Bool) : List.zipWith (tab 4) (p.map fun x => tab t x false) (p.map fun x => tab t x true) = p.map (flipB t) := by
 apply List.ext_getElem (by simp)
 intro i h1 h2
 simp only [List.getElem_zipWith, List.getElem_map, flipB]
 cases tab t _ false <;> cases tab t _ true <;> decide
end Go.Proofs.YtbacchbcanlciaaGreatDoor

/- Layer 13, walked: counted of package fold. -/
namespace Go.Proofs.YtbacchbcanlciaaGreatDoor
set_option maxRecDepth 100000
open Go.RowKit Fl
set_option linter.unusedVariables false

end Go.Proofs.YtbacchbcanlciaaGreatDoor

/- Layer 13, walked: ofCells of package fold. -/
namespace Go.Proofs.YtbacchbcanlciaaGreatDoor
set_option maxRecDepth 100000
open Go.RowKit Fl
set_option linter.unusedVariables false

theorem IsBits.put2 {w : World} {v : Value} {l : List Bool} (h : IsBits w v l) {b : Nat} {k : Int} {s : Value} (hA : At2 w b (.int .i64 k) s) (hs : ∀ z : Nat, s ≠ .int .u64 (z : Int)) (x y : Value) : IsBits ((w.setCell ⟨b, 0, none⟩ x).setCell ⟨b, 1, none⟩ y) v l := by
 have h1 := h.set hA.2.1 (fun z e => by simp at e) x
 have e1 : (w.setCell ⟨b, 0, none⟩ x).cell? ⟨b, 1, none⟩ = some s := (World.cell?_setCell_other _ _ _ _ (by simp)).trans hA.2.2.1
 exact h1.set e1 hs y
end Go.Proofs.YtbacchbcanlciaaGreatDoor

/- Layer 13, walked: ofFlags of package fold. -/
namespace Go.Proofs.YtbacchbcanlciaaGreatDoor
set_option maxRecDepth 100000
open Go.RowKit Fl
set_option linter.unusedVariables false

end Go.Proofs.YtbacchbcanlciaaGreatDoor

/- Layer 13, walked: the reference's Start. -/
namespace Go.Proofs.YtbacchbcanlciaaGreatDoor
set_option maxRecDepth 100000
open Go.RowKit Fl
set_option linter.unusedVariables false

theorem start_seven {f : Int} (k : Nat) (hk : k < 7) : (([1, 2, 7, 11, 15, 16, 22] : List Int).getD k 0 = f → fstart f = (0, true)) ∧ (([3, 4, 8, 12, 13, 14, 21] : List Int).getD k 0 = f → fstart f = (4607182418800017408, true)) := by
 have : k = 0 ∨ k = 1 ∨ k = 2 ∨ k = 3 ∨ k = 4 ∨ k = 5 ∨ k = 6 := by omega
 rcases this with rfl | rfl | rfl | rfl | rfl | rfl | rfl <;> exact ⟨fun h => by subst h; rfl, fun h => by subst h; rfl⟩
theorem start_rest {f : Int} (h : ∀ j, j < 7 → ([1, 2, 7, 11, 15, 16, 22] : List Int).getD j 0 ≠ f ∧ ([3, 4, 8, 12, 13, 14, 21] : List Int).getD j 0 ≠ f) : fstart f = if f = 5 then (18442240474082181119, true) else if f = 6 then (9218868437227405311, true) else (0, false) := by
 have h0 := h 0 (by omega); have h1 := h 1 (by omega); have h2 := h 2 (by omega); have h3 := h 3 (by omega)
 have h4 := h 4 (by omega); have h5 := h 5 (by omega); have h6 := h 6 (by omega)
 simp only [List.getD_cons_zero, List.getD_cons_succ] at h0 h1 h2 h3 h4 h5 h6
 unfold fstart
 rw [if_neg (by omega), if_neg (by omega)]
theorem ret_start {p : Nat × Bool} {a : Nat} {b : Bool} (h : p = (a, b)) : Ending.returned (.tuple #[.float .f64 a, .bool b]) = .returned (.tuple #[.float .f64 p.1, .bool p.2]) := by rw [h]
set_option maxHeartbeats 4000000 in
theorem rfstart_calls (f : Int) (w : World) : Calls Tryz.prog 72 #[.int .i64 f] w fun e w' => e = .returned (.tuple #[.float .f64 (fstart f).1, .bool (fstart f).2]) ∧ Below w.heap.size w w' := by
 obtain ⟨W0, hW0⟩ : ∃ W0, W0 = w.alloc (.cells #[.int .i64 1, .int .i64 2, .int .i64 7, .int .i64 11, .int .i64 15, .int .i64 16, .int .i64 22] 3) := ⟨_, rfl⟩
 obtain ⟨W1, hW1⟩ : ∃ W1, W1 = W0.alloc (.cells #[.int .i64 3, .int .i64 4, .int .i64 8, .int .i64 12, .int .i64 13, .int .i64 14, .int .i64 21] 3) := ⟨_, rfl⟩
 have HB0 : Below w.heap.size w W0 := by rw [hW0]; exact below_new _ _
 have HB1 : Below W0.heap.size W0 W1 := by rw [hW1]; exact below_new _ _
 have hsz : W0.heap.size = w.heap.size + 1 := by rw [hW0]; simp
 have HB := Lib.hid (HB0.trans (HB1.mono HB0.size))
 have HZ := Lib.hid (show Slc W1 (fun _ => True) (.slice (some ⟨w.heap.size, 0, none⟩) 7 7) ([1, 2, 7, 11, 15, 16, 22] : List Int).length (([1, 2, 7, 11, 15, 16, 22] : List Int).map (Value.int .i64)) by
  refine Slc.below (w := W0) ?_ HB1
  rw [hW0]; exact (Slc.owned (World.ownsRow_lit (base := 0) (e := 3) (size := 1) w #[.int .i64 1, .int .i64 2, .int .i64 7, .int .i64 11, .int .i64 15, .int .i64 16, .int .i64 22] 7 (Nat.zero_le _) (by unfold maxLen; omega) rfl)).keep (Kept.refl _ _) (fun _ _ _ => trivial))
 have HO := Lib.hid (show Slc W1 (fun _ => True) (.slice (some ⟨w.heap.size + 1, 0, none⟩) 7 7) ([3, 4, 8, 12, 13, 14, 21] : List Int).length (([3, 4, 8, 12, 13, 14, 21] : List Int).map (Value.int .i64)) by
  rw [hW1, ← hsz]; exact (Slc.owned (World.ownsRow_lit (base := 0) (e := 3) (size := 1) W0 #[.int .i64 3, .int .i64 4, .int .i64 8, .int .i64 12, .int .i64 13, .int .i64 14, .int .i64 21] 7 (Nat.zero_le _) (by unfold maxLen; omega) rfl)).keep (Kept.refl _ _) (fun _ _ _ => trivial))
 have hfold : (w.alloc (.cells #[.int .i64 1, .int .i64 2, .int .i64 7, .int .i64 11, .int .i64 15, .int .i64 16, .int .i64 22] 3)).alloc (.cells #[.int .i64 3, .int .i64 4, .int .i64 8, .int .i64 12, .int .i64 13, .int .i64 14, .int .i64 21] 3) = W1 := by rw [hW1, hW0]
 clear hW1 HB1 HB0; clear hW0 hsz
 go_enter Tryz.func72, Tryz.ntmps72
 go_wp2_with fail
 clear hfold; clear W0
 go_loopw [6] (fun i wr => ∃ k : Nat, k ≤ 7 ∧ i = .int .i64 k ∧ (∀ j, j < k → ([1, 2, 7, 11, 15, 16, 22] : List Int).getD j 0 ≠ f ∧ ([3, 4, 8, 12, 13, 14, 21] : List Int).getD j 0 ≠ f) ∧ wr = W1) (fun i _ => 7 - (intOf i).toNat)
 case atStart => exact ⟨0, by omega, rfl, fun j hj => by omega, rfl⟩
 case round =>
  obtain ⟨k, hk, rfl, hno, hw⟩ := hrel
  have HN := Lib.hid hno; clear hno
  subst hw
  by_cases hlt : k < 7
  ·obtain ⟨b1, o1, c1, x, e1, hx, hcx⟩ := Slc.at_map (Value.int .i64) HZ.out k hlt
   cases e1
   obtain ⟨b2, o2, c2, y, e2, hy, hcy⟩ := Slc.at_map (Value.int .i64) HO.out k hlt
   cases e2
   rw [Nat.zero_add] at hcx hcy
   have HX := Lib.hid (show ([1, 2, 7, 11, 15, 16, 22] : List Int).getD k 0 = x by rw [List.getD_eq_getElem?_getD, hx]; rfl)
   have HY := Lib.hid (show ([3, 4, 8, 12, 13, 14, 21] : List Int).getD k 0 = y by rw [List.getD_eq_getElem?_getD, hy]; rfl)
   have HS := Lib.hid (start_seven (f := f) k hlt)
   clear hx hy
   by_cases hxf : x = f
   ·have HE := Lib.hid (HS.out.1 (HX.out.trans hxf))
    have hb : (x == f) = true := by simp [hxf]
    clear hxf
    go_wp2_with fail
    go_ret2
    exact ⟨ret_start HE.out, HB.out⟩
   ·have hb : (x == f) = false := by simp [hxf]
    by_cases hyf : y = f
    ·have HE := Lib.hid (HS.out.2 (HY.out.trans hyf))
     have hb2 : (y == f) = true := by simp [hyf]
     clear hxf hyf
     go_wp2_with fail
     go_ret2
     exact ⟨ret_start HE.out, HB.out⟩
    ·have hb2 : (y == f) = false := by simp [hyf]
     have HN2 := Lib.hid (show ∀ j, j < k + 1 → ([1, 2, 7, 11, 15, 16, 22] : List Int).getD j 0 ≠ f ∧ ([3, 4, 8, 12, 13, 14, 21] : List Int).getD j 0 ≠ f from fun j hj => by
      by_cases h9 : j = k
      ·subst h9; exact ⟨by rw [HX.out]; exact hxf, by rw [HY.out]; exact hyf⟩
      ·exact HN.out j (by omega))
     clear hxf hyf
     go_wp2_with fail
     go_roundw
     case rel => exact ⟨k + 1, by omega, by go_num, HN2.out, trivial⟩
     case measure => simp [intOf]; omega
  ·have hk7 : k = 7 := by omega
   subst hk7
   have HR := Lib.hid (start_rest HN.out)
   by_cases h5 : f = 5
   ·have HE := Lib.hid (show fstart f = (18442240474082181119, true) by rw [HR.out, if_pos h5])
    have hb : (f == 5) = true := by simp [h5]
    clear h5
    go_wp2_with fail
    go_ret2
    exact ⟨ret_start HE.out, HB.out⟩
   ·have hb : (f == 5) = false := by simp [h5]
    by_cases h6 : f = 6
    ·have HE := Lib.hid (show fstart f = (9218868437227405311, true) by rw [HR.out, if_neg h5, if_pos h6])
     have hb2 : (f == 6) = true := by simp [h6]
     clear h5 h6
     go_wp2_with fail
     go_ret2
     exact ⟨ret_start HE.out, HB.out⟩
    ·have HE := Lib.hid (show fstart f = (0, false) by rw [HR.out, if_neg h5, if_neg h6])
     have hb2 : (f == 6) = false := by simp [h6]
     clear h5 h6
     go_wp2_with fail
     go_ret2
     exact ⟨ret_start HE.out, HB.out⟩
end Go.Proofs.YtbacchbcanlciaaGreatDoor

/- Layer 13, walked: along of package fold; the reference's Row and Line. -/
namespace Go.Proofs.YtbacchbcanlciaaGreatDoor
set_option maxRecDepth 100000
open Go.RowKit Fl
set_option linter.unusedVariables false

theorem Slc.dropm {α : Type} (g : α → Value) {w : World} {ok : Nat → Prop} {b off : Nat} {cap : Nat} {s : List α} (h : Slc w ok (.slice (some ⟨b, off, none⟩) s.length cap) s.length (s.map g)) (k : Nat) (hk : k ≤ s.length) : Slc w ok (.slice (some ⟨b, off + k, none⟩) (s.length - k) (cap - k)) (s.drop k).length ((s.drop k).map g) := by
 obtain ⟨⟨h1, ao1, cap1, e1, h3⟩, ao2, cap2, e2, h4, h5⟩ := h
 cases e1; cases e2
 rw [List.length_drop]
 refine ⟨⟨by rw [List.length_map, List.length_drop], _, _, rfl, fun i hi => ?_⟩, _, _, rfl, by omega, by omega⟩
 rw [List.length_map, List.length_drop] at hi
 obtain ⟨b', off', e, hb, hc⟩ := h3 (k + i) (by rw [List.length_map]; omega)
 cases e
 refine ⟨b, off + k, rfl, hb, ?_⟩
 rw [show off + k + i = off + (k + i) by omega, hc]
 simp
theorem pwd_ret {p : Nat × Int} {a : Nat} {e : Int} (h : p = (a, e)) : Ending.returned (.tuple #[.float .f64 a, .int .i64 e]) = .returned (.tuple #[.float .f64 p.1, .int .i64 p.2]) := by rw [h]
set_option maxHeartbeats 4000000 in
theorem rfrow_calls {ok : Nat → Prop} (f : Int) (v : Value) (l : List Nat) (w : World) (hv : Slc w ok v l.length (f64s l)) (hlm : l.length ≤ 1048576) (hN : ∀ x ∈ l, Num x) :
  Calls Tryz.prog 37 #[.int .i64 f, v] w fun e w' => e = .returned (.tuple #[.float .f64 (rowN f l).1, .int .i64 (rowN f l).2]) ∧ Below w.heap.size w w' := by
 have HRN := Lib.hid hN; have HLM := Lib.hid hlm
 by_cases h0 : l.length = 0
 ·obtain ⟨ao, cap, rfl, _⟩ := hv.opened
  have hl : l = [] := List.length_eq_zero_iff.1 h0
  subst hl
  clear hv h0 hN hlm
  obtain ⟨s, hs⟩ : ∃ s, fstart f = s := ⟨_, rfl⟩
  have HS := Lib.hid hs
  cases h2 : s.2
  ·have HR := Lib.hid (show rowN f [] = (0, 24) by unfold rowN; rw [hs, h2]; rfl)
   have HS2 := Lib.hid h2; clear hs h2
   go_enter Tryz.func37, Tryz.ntmps37
   go_wp2_with ((with_reducible refine (rfstart_calls _ _).mono ?_); rintro e w' ⟨rfl, hB⟩; rw [HS.out, HS2.out])
   go_ret2
   exact ⟨pwd_ret HR.out, hB⟩
  ·have HR := Lib.hid (show rowN f [] = (s.1, 0) by unfold rowN; rw [hs, h2]; rfl)
   have HS2 := Lib.hid h2; clear hs h2
   go_enter Tryz.func37, Tryz.ntmps37
   go_wp2_with ((with_reducible refine (rfstart_calls _ _).mono ?_); rintro e w' ⟨rfl, hB⟩; rw [HS.out, HS2.out])
   go_ret2
   exact ⟨pwd_ret HR.out, hB⟩
 ·obtain ⟨n, hn⟩ : ∃ n, l.length = n := ⟨_, rfl⟩
  obtain ⟨m, hm⟩ : ∃ m, n = m + 1 := ⟨n - 1, by omega⟩
  obtain ⟨b, off, cap, x, e0, hx0, hc0⟩ := Slc.at_map (Value.float .f64) hv m (by omega)
  subst e0
  have HV := Lib.hid hv
  have hlast := rowN_last f (l := l) (by omega)
  have hnm1 : l.length - 1 = m := by omega
  rw [hnm1] at hlast
  have HL := Lib.hid (show rowN f (l.drop m) = (x, 0) by rw [hlast, List.getD_eq_getElem?_getD, hx0]; rfl)
  have HNM := Lib.hid hm; have HN := Lib.hid hn
  have hm1 : ((n : Int) - 1) = (m : Int) := by omega
  have hm2 : ((n : Int) - 2) = (m : Int) - 1 := by omega
  have hb0 : ((n : Int) == 0) = false := by rw [beq_eq_false_iff_ne]; omega
  have hmn : m < n := by omega
  have hnle : n ≤ 1048576 := by omega
  rw [hn] at HV ⊢
  clear hv h0 hN hx0 hlast hnm1 hm hlm hn
  go_enter Tryz.func37, Tryz.ntmps37
  go_wp2_with fail
  go_loopw [8, 9] (fun z i wr => ∃ k : Nat, k ≤ m ∧ i = .int .i64 ((k : Int) - 1) ∧ z = .float .f64 (rowN f (l.drop k)).1 ∧ (rowN f (l.drop k)).2 = 0 ∧ Below w.heap.size w wr) (fun _ i _ => (intOf i + 1).toNat)
  case atStart => exact ⟨m, Nat.le_refl _, congrArg (Value.int .i64) (by omega), by rw [HL.out], by rw [HL.out], Below.refl _ _⟩
  case round =>
   obtain ⟨k, hk, rfl, rfl, hz, hw⟩ := hrel
   have HZ := Lib.hid hz; have HBW := Lib.hid hw; clear hw hz
   cases k with
   | zero =>
    have e0 : (((0 : Nat) : Int) - 1) = -1 := rfl
    rw [e0]
    rw [List.drop_zero]
    rw [List.drop_zero] at HZ
    go_wp2
    go_ret2
    exact ⟨pwd_ret (Prod.ext rfl HZ.out), HBW.out⟩
   | succ i =>
    have e1 : (((i + 1 : Nat) : Int) - 1) = (i : Int) := by omega
    have hin : i < n := by omega
    obtain ⟨b', off', cap', y, e2, hy, hc⟩ := Slc.at_map (Value.float .f64) (l := l) (show Slc w ok _ l.length (l.map _) by rw [HN.out]; exact HV.out) i (by rw [HN.out]; exact hin)
    cases e2
    have hc := keep_below HBW.out _ _ hc
    obtain ⟨z, hz⟩ : ∃ z, (rowN f (l.drop (i + 1))).1 = z := ⟨_, rfl⟩
    have HX := Lib.hid (HRN.out y (List.mem_of_getElem? hy))
    have HZN := Lib.hid (show Num z by rw [← hz]; exact rowN_num fun y hy => HRN.out y (List.mem_of_mem_drop hy))
    have HST := Lib.hid (show rowN f (l.drop i) = nrm (fone f y z) by rw [rowN_step f (l := l) (by have := HN.out; have := HNM.out; omega), if_pos HZ.out, hz, List.getD_eq_getElem?_getD, hy]; rfl)
    have HIL := Lib.hid (show i < l.length by rw [HN.out]; exact hin)
    rw [e1, hz]
    clear hz hy
    go_wp2_with fail
    refine (rfone_calls f y z _ HX.out HZN.out).mono ?_
    rintro e W9 ⟨rfl, j2, hj⟩
    have HJ := Lib.hid (show Below w.heap.size w W9 by rw [hj]; exact Below.drewN' HBW.out j2)
    clear hj
    by_cases h0 : (fone f y z).2 = 0
    ·have H0 := Lib.hid h0; rw [h0]; clear h0
     go_wp2
     go_roundw
     case rel => exact ⟨i, by omega, by go_num, by rw [HST.out, nrm_ok H0.out], by rw [HST.out, nrm_ok H0.out], HJ.out⟩
     case measure => simp [intOf]
    ·obtain ⟨er, her⟩ : ∃ er, (fone f y z).2 = er := ⟨_, rfl⟩
     have HRB := Lib.hid (show rowN f l = (0, er) by
      have h9 : rowN f (l.drop i) = (0, er) := by rw [HST.out, nrm_bad h0, her]
      rw [rowN_bad f i HIL.out (by rw [h9, ← her]; exact h0), h9])
     have hne : (er != 0) = true := by rw [← her]; simp [h0]
     rw [her]; clear h0 her
     go_wp2
     go_ret2
     exact ⟨pwd_ret HRB.out, HJ.out⟩
end Go.Proofs.YtbacchbcanlciaaGreatDoor

/- Layer 13, walked: bits.Mul by one, slices.Repeat of one number. -/
namespace Go.Proofs.YtbacchbcanlciaaGreatDoor
set_option maxRecDepth 100000
open Go.RowKit
set_option linter.unusedVariables false

end Go.Proofs.YtbacchbcanlciaaGreatDoor

/- Layer 13, walked: ofNone, ofNumbers of package fold. -/
namespace Go.Proofs.YtbacchbcanlciaaGreatDoor
set_option maxRecDepth 100000
open Go.RowKit Fl
set_option linter.unusedVariables false

end Go.Proofs.YtbacchbcanlciaaGreatDoor

/- Layer 13, walked: ofNumbers of package fold. -/
namespace Go.Proofs.YtbacchbcanlciaaGreatDoor
set_option maxRecDepth 100000
open Go.RowKit Fl
set_option linter.unusedVariables false

end Go.Proofs.YtbacchbcanlciaaGreatDoor

/- Layer 13, walked: Fold of package fold. -/
namespace Go.Proofs.YtbacchbcanlciaaGreatDoor
set_option maxRecDepth 100000
open Go.RowKit Fl
set_option linter.unusedVariables false

end Go.Proofs.YtbacchbcanlciaaGreatDoor

/- Layer 13, walked: the reference's Line. -/
namespace Go.Proofs.YtbacchbcanlciaaGreatDoor
set_option maxRecDepth 100000
open Go.RowKit Fl
set_option linter.unusedVariables false

theorem lineG_take {α : Type} (d : α) (l : List α) (n inner o k : Nat) {i : Nat} (h : i < n) : (lineG d l n inner o k).take (i + 1) = (lineG d l n inner o k).take i ++ [l.getD ((o * n + i) * inner + k) d] := by
 have h1 : i < (lineG d l n inner o k).length := by rw [lineG_len]; exact h
 rw [List.take_succ_eq_append_getElem h1]
 congr 2
 simp [lineG]
set_option maxHeartbeats 4000000 in
theorem rfline_calls {ok : Nat → Prop} (v : Value) (l : List Nat) (outer n inner o k : Nat) (w : World) (hv : Slc w ok v l.length (f64s l)) (hl : l.length = outer * n * inner) (hlm : l.length ≤ 1048576) (ho : o < outer) (hk : k < inner) (hnm : n ≤ 1048576) (him : inner ≤ 1048576) (hom : outer ≤ 1048576) :
  Calls Tryz.prog 36 #[v, .int .i64 (outer : Int), .int .i64 (n : Int), .int .i64 (inner : Int), .int .i64 (o : Int), .int .i64 (k : Int)] w fun e w' => ∃ v', e = .returned v' ∧ Slc w' (fun b => w.heap.size ≤ b) v' n (f64s (lineG 0 l n inner o k)) ∧ Below w.heap.size w w' := by
 obtain ⟨R, hR⟩ : ∃ R, lineG 0 l n inner o k = R := ⟨_, rfl⟩
 have HRL := Lib.hid (show R.length = n by rw [← hR, lineG_len])
 have HTK := Lib.hid (show ∀ i, i < n → R.take (i + 1) = R.take i ++ [l.getD ((o * n + i) * inner + k) 0] from fun i hi => by rw [← hR]; exact lineG_take 0 l n inner o k hi)
 rw [hR]; clear hR
 obtain ⟨i0, hi, hz0, hz1, hz2⟩ := info_parts info_f64
 have HI0 := Lib.hid (And.intro hi (And.intro hz0 (And.intro hz1 hz2)))
 clear hi hz0 hz1 hz2
 obtain ⟨ao, cap, rfl, _⟩ := hv.opened
 have HV := Lib.hid hv
 have hst := run_store_float
 have HPL := Lib.hid (show ∀ i, i < n → (o * n + i) * inner + k < l.length from fun i hi => by rw [hl]; exact place_lt ho hi hk)
 have HLM := Lib.hid hlm; have HKI := Lib.hid hk; clear hv hl hlm ho
 go_enter Tryz.func36, Tryz.ntmps36
 go_wp2_with fail
 go_loopw [13, 14] (fun v i wr => ∃ j : Nat, j ≤ n ∧ i = .int .i64 j ∧ wr.ownsRow w.heap.size 42 1 v j (f64s (R.take j)) ∧ Below w.heap.size w wr) (fun _ i _ => n - (intOf i).toNat)
 case atStart => exact ⟨0, by omega, rfl, World.ownsRow_nil _ _ _ _, Below.refl _ _⟩
 case round =>
  obtain ⟨j, hj, rfl, hown, hB⟩ := hrel
  have HO := Lib.hid hown; have HB := Lib.hid hB; clear hown hB
  by_cases hlt : j < n
  ·have hd := HPL.out j hlt
   have hlm := HLM.out
   obtain ⟨A, hA⟩ : ∃ A, o * n = A := ⟨_, rfl⟩
   rw [hA] at hd
   obtain ⟨B, hBB⟩ : ∃ B, A + j = B := ⟨_, rfl⟩
   rw [hBB] at hd
   obtain ⟨C, hC⟩ : ∃ C, B * inner = C := ⟨_, rfl⟩
   have hBC : B ≤ C := by rw [← hC]; exact Nat.le_mul_of_pos_right _ (by omega)
   rw [hC] at hd
   obtain ⟨D, hD⟩ : ∃ D, C + k = D := ⟨_, rfl⟩
   rw [hD] at hd
   obtain ⟨b, off, cap', x, e0, hx, hcx⟩ := Slc.at_map (Value.float .f64) HV.out D hd
   cases e0
   have hcx := keep_below HB.out _ _ hcx
   have q1 : IntKind.i64.wrap ((o : Int) * (n : Int)) = (A : Int) := by rw [← Int.natCast_mul, hA]; exact IntWalk.i64_in _ (by omega)
   have q2 : IntKind.i64.wrap ((A : Int) + (j : Int)) = (B : Int) := by rw [← Int.natCast_add, hBB]; exact IntWalk.i64_in _ (by omega)
   have q3 : IntKind.i64.wrap ((B : Int) * (inner : Int)) = (C : Int) := by rw [← Int.natCast_mul, hC]; exact IntWalk.i64_in _ (by omega)
   have q4 : IntKind.i64.wrap ((C : Int) + (k : Int)) = (D : Int) := by rw [← Int.natCast_add, hD]; exact IntWalk.i64_in _ (by omega)
   have HT := Lib.hid (show R.take (j + 1) = R.take j ++ [x] by rw [HTK.out j hlt, hA, hBB, hC, hD, List.getD_eq_getElem?_getD, hx]; rfl)
   have HM1 : Hid (j + 1 ≤ maxLen) := Lib.hid (by unfold maxLen; omega)
   have HSW := Lib.hid HB.out.size; clear hA hBB hC hD hx hBC
   go_wp2_with (at_builtin; refine wpList_append_own _ rfl _ _ 22 rfl w.heap.size 42 i0 (.float .f64 0) 1 8 Tryz.underlying22 HI0.out.1 HI0.out.2.1 HI0.out.2.2.1 HI0.out.2.2.2 rfl (by decide) _ _ _ rfl (HO.out.alloc _) ⟨wr.heap.size, 0, none⟩ 1 1 [.float .f64 x] rfl rfl ?c1 ?c2 HM1.out ?c4 ?c5 ?_)
   case c1 =>
    intro j u hj
    match j, hj with
    | 0, hj => simp at hj; subst hj; simp [Addr.add]
   case c2 => intro u hu; simp at hu; subst hu; rfl
   case c4 => omega
   case c5 => have := HSW.out; simp <;> omega
   intro v' w3 hown' hgrow _
   have HO3 := Lib.hid hown'
   have HB3 := Lib.hid (grown_below (HB.out.alloc HSW.out _) (HO.out.alloc _) (Nat.le_refl _) (by have := HSW.out; simp <;> omega) hgrow)
   clear hown' hgrow
   go_wp2
   go_roundw
   case rel =>
    refine ⟨j + 1, by omega, by go_num, ?_, HB3.out⟩
    have := HO3.out
    rw [HT.out]
    simpa [f64s] using this
   case measure => simp [intOf]; omega
  ·have hjn : j = n := by omega
   have HL := Lib.hid (show Slc wr (fun b => w.heap.size ≤ b) _ n (f64s R) by
    have := Slc.owned HO.out
    rw [hjn, ← HRL.out, List.take_length, HRL.out] at this
    exact this)
   clear hjn
   go_wp2
   go_ret
   exact ⟨_, rfl, HL.out, HB.out⟩
end Go.Proofs.YtbacchbcanlciaaGreatDoor

/- Layer 13, walked: the reference's Fold. -/
namespace Go.Proofs.YtbacchbcanlciaaGreatDoor
set_option maxRecDepth 100000
open Go.RowKit Fl
set_option linter.unusedVariables false

end Go.Proofs.YtbacchbcanlciaaGreatDoor

/- Layer 13's laws: awake. -/
namespace Go.Proofs.YtbacchbcanlciaaGreatDoor
set_option maxRecDepth 100000
open Go.RowKit Fl
set_option linter.unusedVariables false

end Go.Proofs.YtbacchbcanlciaaGreatDoor

/- Layer 13's law: FoldRows. -/
namespace Go.Proofs.YtbacchbcanlciaaGreatDoor
set_option maxRecDepth 100000
open Go.RowKit Fl
set_option linter.unusedVariables false

theorem Slc.takem {α : Type} (g : α → Value) {w : World} {ok : Nat → Prop} {ao : Option Addr} {cap : Nat} {s : List α} (h : Slc w ok (.slice ao s.length cap) s.length (s.map g)) (k : Nat) (hk : k ≤ s.length) : Slc w ok (.slice ao k cap) (s.take k).length ((s.take k).map g) := by
 obtain ⟨⟨h1, ao1, cap1, e1, h3⟩, ao2, cap2, e2, h4, h5⟩ := h
 cases e1; cases e2
 have hl : (s.take k).length = k := by rw [List.length_take]; omega
 rw [hl]
 refine ⟨⟨by rw [List.length_map, hl], _, _, rfl, fun i hi => ?_⟩, _, _, rfl, by omega, h5⟩
 rw [List.length_map, hl] at hi
 obtain ⟨b', off', e, hb, hc⟩ := h3 i (by rw [List.length_map]; omega)
 refine ⟨b', off', e, hb, ?_⟩
 rw [hc]
 simp
end Go.Proofs.YtbacchbcanlciaaGreatDoor

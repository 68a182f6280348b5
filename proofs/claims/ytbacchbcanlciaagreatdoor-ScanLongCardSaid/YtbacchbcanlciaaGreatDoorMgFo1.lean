/- Merged: FoM, FoN, FoA, FoB, FoT, FoQ, FoF, FoR, FoU, FoV, FoZ, FoS, FoC, FoW, FoX, FoY, FoP, FoD, FoE, FoK, Fo2, Fo3. -/
import Derived.Lib.BitFns
import Derived.Laws.CopyOwn
import Derived.Deep.DeepMust
import Derived.Laws.Cover1
import Derived.Test.YtbacchbcanlciaaGreatDoorMgLo1
import Derived.Test.YtbacchbcanlciaaGreatDoorMgBv1
import Derived.Test.YtbacchbcanlciaaGreatDoorMgRe1
import Derived.Test.YtbacchbcanlciaaGreatDoorMgAr1
import Derived.Test.YtbacchbcanlciaaGreatDoorMgNu1
import Derived.Test.YtbacchbcanlciaaGreatDoorMgKp1
import Derived.Test.YtbacchbcanlciaaGreatDoorMgSq1
import Derived.Test.YtbacchbcanlciaaGreatDoorMgVe1
import Derived.Test.YtbacchbcanlciaaGreatDoorMgSh1
import Derived.Test.YtbacchbcanlciaaGreatDoorMgBx1
namespace Go.Proofs.YtbacchbcanlciaaGreatDoor
set_option maxRecDepth 100000
open Go.RowKit Fl
set_option linter.unusedVariables false

noncomputable def fone (f : Int) (a b : Nat) : Nat × Int :=
 if 1 ≤ f ∧ f ≤ 8 then oneA f a b else if 11 ≤ f ∧ f ≤ 16 then (flagW (relB f a b), 0)
 else if 21 ≤ f ∧ f ≤ 24 then (if isT a = true ∧ isT b = true then (flagW (logB f (bitW a) (bitW b)), 0) else (0, 24)) else (0, 1)
def fknown (f : Int) : Bool := decide (1 ≤ f ∧ f ≤ 8) || decide (11 ≤ f ∧ f ≤ 16) || decide (21 ≤ f ∧ f ≤ 24)
theorem fknown_cases {f : Int} (h : fknown f = true) : (1 ≤ f ∧ f ≤ 8) ∨ (11 ≤ f ∧ f ≤ 16) ∨ (21 ≤ f ∧ f ≤ 24) := by
 simp only [fknown, Bool.or_eq_true, decide_eq_true_eq] at h; omega
theorem fknown_no {f : Int} (h : fknown f = false) : ¬ (1 ≤ f ∧ f ≤ 8) ∧ ¬ (11 ≤ f ∧ f ≤ 16) ∧ ¬ (21 ≤ f ∧ f ≤ 24) := by
 simp only [fknown, Bool.or_eq_false_iff, decide_eq_false_iff_not] at h; omega
theorem fone_a {f : Int} (a b : Nat) (h : 1 ≤ f ∧ f ≤ 8) : fone f a b = oneA f a b := if_pos h
theorem fone_r {f : Int} (a b : Nat) (h : 11 ≤ f ∧ f ≤ 16) : fone f a b = (flagW (relB f a b), 0) := by unfold fone; rw [if_neg (by omega), if_pos h]
theorem fone_l {f : Int} {a b : Nat} (h : 21 ≤ f ∧ f ≤ 24) (ha : isT a = true) (hb : isT b = true) : fone f a b = (flagW (logB f (bitW a) (bitW b)), 0) := by unfold fone; rw [if_neg (by omega), if_neg (by omega), if_pos h, if_pos ⟨ha, hb⟩]
theorem fone_l24 {f : Int} {a b : Nat} (h : 21 ≤ f ∧ f ≤ 24) (hn : ¬ (isT a = true ∧ isT b = true)) : fone f a b = (0, 24) := by unfold fone; rw [if_neg (by omega), if_neg (by omega), if_pos h, if_neg hn]
theorem fone_no {f : Int} (a b : Nat) (h : fknown f = false) : fone f a b = (0, 1) := by
 obtain ⟨h1, h2, h3⟩ := fknown_no h
 unfold fone; rw [if_neg h1, if_neg h2, if_neg h3]
theorem flagW_num (b : Bool) : Num (flagW b) := by cases b <;> first | exact num_zero | exact num_one
theorem fone_num {f : Int} {a b : Nat} (ha : Num a) (hb : Num b) : Num (fone f a b).1 := by
 unfold fone
 split
 ·exact oneA_num ha hb
 ·split
  ·exact flagW_num _
  ·split
   ·split
    ·exact flagW_num _
    ·exact num_zero
   ·exact num_zero
theorem fone_err {f : Int} (a b : Nat) (h : fknown f = true) : (fone f a b).2 = 0 ∨ (fone f a b).2 = 24 := by
 rcases fknown_cases h with h | h | h
 ·rw [fone_a a b h]; exact oneA_err a b h.1 h.2
 ·rw [fone_r a b h]; exact .inl rfl
 ·by_cases ht : isT a = true ∧ isT b = true
  ·rw [fone_l h ht.1 ht.2]; exact .inl rfl
  ·rw [fone_l24 h ht]; exact .inr rfl

def fstart (f : Int) : Nat × Bool :=
 if f = 1 ∨ f = 2 ∨ f = 7 ∨ f = 11 ∨ f = 15 ∨ f = 16 ∨ f = 22 then (0, true)
 else if f = 3 ∨ f = 4 ∨ f = 8 ∨ f = 12 ∨ f = 13 ∨ f = 14 ∨ f = 21 then (4607182418800017408, true)
 else if f = 5 then (18442240474082181119, true) else if f = 6 then (9218868437227405311, true) else (0, false)
theorem fstart_num (f : Int) : Num (fstart f).1 := by
 unfold fstart
 split; exact num_zero
 split; exact num_one
 split; exact ⟨⟨by decide, by decide⟩, by decide +kernel⟩
 split; exact ⟨⟨by decide, by decide⟩, by decide +kernel⟩
 exact num_zero

def nrm (p : Nat × Int) : Nat × Int := if p.2 = 0 then p else (0, p.2)
theorem nrm_ok {p : Nat × Int} (h : p.2 = 0) : nrm p = (p.1, 0) := by unfold nrm; rw [if_pos h]; exact Prod.ext rfl h
theorem nrm_bad {p : Nat × Int} (h : p.2 ≠ 0) : nrm p = (0, p.2) := if_neg h
noncomputable def rowN (f : Int) : List Nat → Nat × Int
 | [] => if (fstart f).2 = true then ((fstart f).1, 0) else (0, 24)
 | [x] => (x, 0)
 | x :: y :: l => if (rowN f (y :: l)).2 = 0 then nrm (fone f x (rowN f (y :: l)).1) else rowN f (y :: l)
theorem rowN_cons (f : Int) (x : Nat) {l : List Nat} (h : l ≠ []) : rowN f (x :: l) = if (rowN f l).2 = 0 then nrm (fone f x (rowN f l).1) else rowN f l := by
 cases l with
 | nil => exact absurd rfl h
 | cons y l => rfl
theorem rowN_last (f : Int) {l : List Nat} (h : 0 < l.length) : rowN f (l.drop (l.length - 1)) = (l.getD (l.length - 1) 0, 0) := by
 have h1 : l.length - 1 < l.length := by omega
 rw [List.drop_eq_getElem_cons h1, List.drop_eq_nil_of_le (by omega), List.getD_eq_getElem?_getD, List.getElem?_eq_getElem h1]
 rfl
theorem rowN_step (f : Int) {l : List Nat} {i : Nat} (h : i + 1 < l.length) : rowN f (l.drop i) = if (rowN f (l.drop (i + 1))).2 = 0 then nrm (fone f (l.getD i 0) (rowN f (l.drop (i + 1))).1) else rowN f (l.drop (i + 1)) := by
 rw [List.drop_eq_getElem_cons (show i < l.length by omega), rowN_cons f _ (by intro h2; have := congrArg List.length h2; simp at this; omega), List.getD_eq_getElem?_getD, List.getElem?_eq_getElem (show i < l.length by omega)]
 rfl
theorem rowN_bad (f : Int) {l : List Nat} : ∀ (i : Nat), i < l.length → (rowN f (l.drop i)).2 ≠ 0 → rowN f l = rowN f (l.drop i) := by
 intro i
 induction i with
 | zero => intro _ _; rw [List.drop_zero]
 | succ i ih =>
  intro h hb
  have hs : rowN f (l.drop i) = rowN f (l.drop (i + 1)) := by rw [rowN_step f h, if_neg hb]
  rw [← hs]
  exact ih (by omega) (by rw [hs]; exact hb)
theorem rowN_num {f : Int} : ∀ {l : List Nat}, (∀ x ∈ l, Num x) → Num (rowN f l).1
 | [], _ => by unfold rowN; split; exact fstart_num f; exact num_zero
 | [x], h => h x (by simp)
 | x :: y :: l, h => by
  have ih := rowN_num (f := f) (l := y :: l) fun z hz => h z (List.mem_cons_of_mem _ hz)
  rw [rowN]
  split
  ·unfold nrm
   split
   ·exact fone_num (h x (by simp)) ih
   ·exact num_zero
  ·exact ih
theorem rowN_err {f : Int} (hk : fknown f = true) : ∀ l : List Nat, (rowN f l).2 = 0 ∨ (rowN f l).2 = 24
 | [] => by unfold rowN; split; exact .inl rfl; exact .inr rfl
 | [x] => .inl rfl
 | x :: y :: l => by
  have ih := rowN_err hk (y :: l)
  rw [rowN]
  split
  ·unfold nrm
   split
   ·exact fone_err _ _ hk
   ·exact fone_err _ _ hk
  ·exact ih

def lineG {α : Type} (d : α) (l : List α) (n inner o k : Nat) : List α := (List.range n).map fun i => l.getD ((o * n + i) * inner + k) d
theorem lineG_len {α : Type} (d : α) (l : List α) (n inner o k : Nat) : (lineG d l n inner o k).length = n := by simp [lineG]
theorem lineG_get {α : Type} (d : α) (l : List α) (n inner o k : Nat) {i : Nat} (h : i < n) : (lineG d l n inner o k).getD i d = l.getD ((o * n + i) * inner + k) d := by
 rw [List.getD_eq_getElem?_getD, List.getElem?_eq_getElem (by rw [lineG_len]; exact h)]; simp [lineG]
theorem place_lt {outer n inner o i k : Nat} (ho : o < outer) (hi : i < n) (hk : k < inner) : (o * n + i) * inner + k < outer * n * inner := by
 have h1 : o * n + i + 1 ≤ outer * n := by
  have := Nat.mul_le_mul_right n (show o + 1 ≤ outer by omega)
  rw [Nat.add_mul] at this; omega
 have h2 := Nat.mul_le_mul_right inner h1
 rw [Nat.add_mul] at h2; omega
theorem lineG_num {l : List Nat} {n inner o k : Nat} (h : ∀ x ∈ l, Num x) : ∀ x ∈ lineG 0 l n inner o k, Num x := by
 intro x hx
 obtain ⟨i, _, rfl⟩ := List.mem_map.1 hx
 rw [List.getD_eq_getElem?_getD]
 cases e : l[(o * n + i) * inner + k]? with
 | none => exact num_zero
 | some y => exact h y (List.mem_of_getElem? e)
def rowsL (l : List Nat) (outer n inner : Nat) : List (List Nat) := (List.range (outer * inner)).map fun q => lineG 0 l n inner (q / inner) (q % inner)
theorem rowsL_len (l : List Nat) (outer n inner : Nat) : (rowsL l outer n inner).length = outer * inner := by simp [rowsL]
theorem rowsL_get {l : List Nat} {outer n inner o k : Nat} (ho : o < outer) (hk : k < inner) : (rowsL l outer n inner)[o * inner + k]? = some (lineG 0 l n inner o k) := by
 have hlt : o * inner + k < outer * inner := by
  have := Nat.mul_le_mul_right inner (show o + 1 ≤ outer by omega)
  rw [Nat.add_mul] at this; omega
 have e1 : (o * inner + k) / inner = o := by rw [Nat.mul_comm, Nat.mul_add_div (by omega), Nat.div_eq_of_lt hk]; rfl
 have e2 : (o * inner + k) % inner = k := by rw [Nat.mul_comm, Nat.mul_add_mod, Nat.mod_eq_of_lt hk]
 rw [rowsL, List.getElem?_map, List.getElem?_range hlt]
 show some (lineG 0 l n inner ((o * inner + k) / inner) ((o * inner + k) % inner)) = _
 rw [e1, e2]
theorem rowsL_num {f : Int} {l : List Nat} {outer n inner : Nat} (h : ∀ x ∈ l, Num x) : ∀ r ∈ rowsL l outer n inner, Num (rowN f r).1 := by
 intro r hr
 obtain ⟨q, _, rfl⟩ := List.mem_map.1 hr
 exact rowN_num (lineG_num h)
theorem rowsL_zero (f : Int) (l : List Nat) (outer inner : Nat) : ∀ r ∈ rowsL l outer 0 inner, rowN f r = if (fstart f).2 = true then ((fstart f).1, 0) else (0, 24) := by
 intro r hr
 obtain ⟨q, _, rfl⟩ := List.mem_map.1 hr
 rfl
theorem rowsL_out0 {f : Int} (l : List Nat) (outer inner : Nat) (h : (fstart f).2 = true) : outG (rowN f) (rowsL l outer 0 inner) = List.replicate (outer * inner) (fstart f).1 := by
 refine List.eq_replicate_iff.2 ⟨by rw [outG_len, rowsL_len], ?_⟩
 intro x hx
 obtain ⟨r, hr, rfl⟩ := List.mem_map.1 hx
 rw [rowsL_zero f l outer inner r hr, if_pos h]
theorem rowsL_err0 {f : Int} (l : List Nat) (outer inner : Nat) (h : (fstart f).2 = true) : errG (rowN f) (rowsL l outer 0 inner) = 0 :=
 errG_all fun r hr => by rw [rowsL_zero f l outer inner r hr, if_pos h]
theorem rowsL_one {f : Int} (l : List Nat) (outer inner : Nat) (hl : l.length = outer * inner) : errG (rowN f) (rowsL l outer 1 inner) = 0 ∧ outG (rowN f) (rowsL l outer 1 inner) = l := by
 have hr : rowsL l outer 1 inner = l.map fun x => [x] := by
  apply List.ext_getElem (by rw [rowsL_len, List.length_map, hl])
  intro i h1 h2
  have hi : i < l.length := by rw [List.length_map] at h2; exact h2
  have e : i / inner * inner + i % inner = i := by rw [Nat.mul_comm]; exact Nat.div_add_mod i inner
  simp [rowsL, lineG, e, hi]
 rw [hr]
 refine ⟨errG_all fun r hr => ?_, ?_⟩
 ·obtain ⟨x, _, rfl⟩ := List.mem_map.1 hr; rfl
 ·unfold outG; rw [List.map_map]
  exact (List.map_congr_left fun x _ => rfl).trans (List.map_id l)

noncomputable def foE (f : Int) (V : VV) (outer n inner : Nat) : Int :=
 if fknown f = true then (if V.cls = 2 ∨ (V.cls = 1 ∧ n ≠ 1) then 24 else if n = 1 then 0 else if n = 0 ∧ (fstart f).2 = false then 24 else errG (rowN f) (rowsL V.nums outer n inner)) else 1
noncomputable def foV (f : Int) (V : VV) (outer n inner : Nat) : VV :=
 if foE f V outer n inner = 0 then (if n = 1 then V else sqL (outG (rowN f) (rowsL V.nums outer n inner))) else .none
theorem foE_1 {f : Int} {V : VV} {outer n inner : Nat} (h : fknown f = false) : foE f V outer n inner = 1 := by unfold foE; rw [if_neg (by simp [h])]
theorem foE_24 {f : Int} {V : VV} {outer n inner : Nat} (h : fknown f = true) (hc : V.cls = 2 ∨ (V.cls = 1 ∧ n ≠ 1)) : foE f V outer n inner = 24 := by unfold foE; rw [if_pos h, if_pos hc]
theorem foE_one {f : Int} {V : VV} {outer n inner : Nat} (h : fknown f = true) (hc : V.cls ≠ 2) (h1 : n = 1) : foE f V outer n inner = 0 := by unfold foE; rw [if_pos h, if_neg (by omega), if_pos h1]
theorem foE_start {f : Int} {V : VV} {outer n inner : Nat} (h : fknown f = true) (h0 : n = 0) (hs : (fstart f).2 = false) : foE f V outer n inner = 24 := by
 unfold foE; rw [if_pos h]
 split
 ·rfl
 ·rw [if_neg (by omega), if_pos ⟨h0, hs⟩]
theorem foE_num {f : Int} {V : VV} {outer n inner : Nat} (h : fknown f = true) (hc : V.cls = 0) (h1 : n ≠ 1) (hs : ¬ (n = 0 ∧ (fstart f).2 = false)) : foE f V outer n inner = errG (rowN f) (rowsL V.nums outer n inner) := by unfold foE; rw [if_pos h, if_neg (by omega), if_neg h1, if_neg hs]
theorem foV_bad {f : Int} {V : VV} {outer n inner : Nat} (h : foE f V outer n inner ≠ 0) : foV f V outer n inner = .none := if_neg h
theorem foV_one {f : Int} {V : VV} {outer n inner : Nat} (h : foE f V outer n inner = 0) (h1 : n = 1) : foV f V outer n inner = V := by unfold foV; rw [if_pos h, if_pos h1]
theorem foV_num {f : Int} {V : VV} {outer n inner : Nat} (h : foE f V outer n inner = 0) (h1 : n ≠ 1) : foV f V outer n inner = sqL (outG (rowN f) (rowsL V.nums outer n inner)) := by unfold foV; rw [if_pos h, if_neg h1]

noncomputable def rfE (f : Int) (l : List Nat) (outer n inner : Nat) : Int := if fknown f = true then (if n = 0 ∧ (fstart f).2 = false then 24 else errG (rowN f) (rowsL l outer n inner)) else 1
noncomputable def rfL (f : Int) (l : List Nat) (outer n inner : Nat) : List Nat := if rfE f l outer n inner = 0 then outG (rowN f) (rowsL l outer n inner) else []
theorem fold_meet {f : Int} {V : VV} {outer n inner : Nat} (hc : V.cls = 0) (hl : V.nums.length = outer * n * inner) : foE f V outer n inner = rfE f V.nums outer n inner := by
 unfold rfE
 split
 ·rename_i hk
  by_cases h1 : n = 1
  ·subst h1
   rw [foE_one hk (by omega) rfl, if_neg (by omega), (rowsL_one V.nums outer inner (by rw [hl]; simp)).1]
  ·split
   ·rename_i h; rw [foE_start hk h.1 h.2]
   ·rename_i h; rw [foE_num hk hc h1 h]
 ·rename_i hk; rw [foE_1 (by simpa using hk)]
theorem fold_meetV {f : Int} {V : VV} {outer n inner : Nat} (hok : V.ok) (hn : V.nm) (hc : V.cls = 0) (hl : V.nums.length = outer * n * inner) (hs : outer * inner ≤ 1048576) (he : foE f V outer n inner = 0) :
  (foV f V outer n inner).nums = rfL f V.nums outer n inner ∧ (foV f V outer n inner).ok ∧ (foV f V outer n inner).nm ∧ (n = 1 ∨ (0 < (foV f V outer n inner).kind ∧ (foV f V outer n inner).kind = (foV f V outer n inner).least)) := by
 have hr : rfE f V.nums outer n inner = 0 := by rw [← fold_meet hc hl]; exact he
 have e : rfL f V.nums outer n inner = outG (rowN f) (rowsL V.nums outer n inner) := if_pos hr
 rw [e]
 by_cases h1 : n = 1
 ·rw [foV_one he h1]
  subst h1
  exact ⟨((rowsL_one V.nums outer inner (by rw [hl]; simp)).2).symm, hok, hn, .inl rfl⟩
 ·rw [foV_num he h1]
  obtain ⟨s1, s2, s3, s4, s5, s6, s7⟩ := sqL_spec (l := outG (rowN f) (rowsL V.nums outer n inner)) (by rw [outG_len, rowsL_len]; exact hs) (outG_num (rowsL_num (VV.nums_num hok hn)))
  exact ⟨s1, s2, s3, .inr ⟨s5, s6⟩⟩
end Go.Proofs.YtbacchbcanlciaaGreatDoor

namespace Go.Proofs.YtbacchbcanlciaaGreatDoor
set_option maxRecDepth 100000
open Go.RowKit Fl
set_option linter.unusedVariables false

def rowB (t : Nat) : List Bool → Bool
 | [] => false
 | [x] => x
 | x :: y :: l => tab t x (rowB t (y :: l))
def Closed (f : Int) (t : Nat) : Prop := ∀ a b : Bool, fone f (flagW a) (flagW b) = (flagW (tab t a b), 0)
theorem rowB_cons (t : Nat) (x : Bool) {l : List Bool} (h : l ≠ []) : rowB t (x :: l) = tab t x (rowB t l) := by
 cases l with
 | nil => exact absurd rfl h
 | cons y l => rfl
theorem rowB_step (t : Nat) {l : List Bool} {i : Nat} (h : i + 1 < l.length) : rowB t (l.drop i) = tab t (sq l i) (rowB t (l.drop (i + 1))) := by
 rw [List.drop_eq_getElem_cons (show i < l.length by omega), rowB_cons t _ (by intro h2; have := congrArg List.length h2; simp at this; omega), sq_in (show i < l.length by omega)]
theorem rowN_flags {f : Int} {t : Nat} (hc : Closed f t) : ∀ l : List Bool, l ≠ [] → rowN f (l.map flagW) = (flagW (rowB t l), 0)
 | [], h => absurd rfl h
 | [x], _ => rfl
 | x :: y :: l, _ => by
  have ih := rowN_flags hc (y :: l) (by simp)
  show rowN f (flagW x :: (y :: l).map flagW) = _
  rw [rowN_cons f _ (by simp), ih, if_pos rfl, hc, nrm_ok rfl]
  rfl
theorem lineG_map {α β : Type} (g : α → β) (d : α) (l : List α) (n inner o k : Nat) : lineG (g d) (l.map g) n inner o k = (lineG d l n inner o k).map g := by
 simp [lineG]
theorem bits_sq {l : List Bool} (h : l.length ≤ 1048576) : VV.bits l = sqL (l.map flagW) := by
 have hc := VV.canon (V := VV.bits l) h trivial rfl rfl (show (0 : Int) < 1 by decide)
 exact hc

theorem sq_cut (p : List Bool) {x y k : Nat} (hk : x + k < y) : sq ((p.take y).drop x) k = sq p (x + k) := by
 unfold sq
 rw [List.getElem?_drop, List.getElem?_take_of_lt hk]
theorem cut_len (p : List Bool) {x y : Nat} (hxy : x ≤ y) (hy : y ≤ p.length) : ((p.take y).drop x).length = y - x := by simp; omega
theorem sq_line (p : List Bool) (n inner o k : Nat) {i : Nat} (h : i < n) : sq (lineG false p n inner o k) i = sq p ((o * n + i) * inner + k) := by
 unfold sq
 rw [← List.getD_eq_getElem?_getD, lineG_get false p n inner o k h, List.getD_eq_getElem?_getD]
theorem line_cut (p : List Bool) {outer n o : Nat} (hp : p.length = outer * n) (ho : o < outer) : (p.take ((o + 1) * n)).drop (o * n) = lineG false p n 1 o 0 := by
 have h1 : (o + 1) * n ≤ p.length := by rw [hp]; exact Nat.mul_le_mul_right _ (by omega)
 have h2 : (o + 1) * n = o * n + n := by rw [Nat.add_mul]; omega
 apply List.ext_getElem (by rw [cut_len p (by omega) h1, lineG_len]; omega)
 intro i hi1 hi2
 rw [lineG_len] at hi2
 rw [← sq_in hi1, sq_cut p (by omega), ← sq_in, sq_line p n 1 o 0 hi2]
 congr 1
 omega
def lowB (t : Nat) (x : Bool) : Bool := tab t x false
def settB (t : Nat) (x : Bool) : Bool := tab t x false == tab t x true
def flipB (t : Nat) (x : Bool) : Bool := tab t x false && !tab t x true
theorem tab_settle {t : Nat} {x : Bool} (h : settB t x = true) (y : Bool) : tab t x y = lowB t x := by
 unfold settB at h; unfold lowB
 cases y
 ·rfl
 ·exact (eq_of_beq h).symm
theorem tab_flip {t : Nat} {x : Bool} (h : settB t x = false) (y : Bool) : tab t x y = (y != flipB t x) := by
 unfold settB at h; unfold flipB
 cases h1 : tab t x false <;> cases h2 : tab t x true <;> rw [h1, h2] at h <;> first | (exact absurd h (by decide)) | (cases y <;> simp [h1, h2])
def flipsB (t : Nat) (r : List Bool) (a : Nat) : Bool := decide (cnt (sq (r.map (flipB t))) a % 2 = 1)
theorem sq_map {g : Bool → Bool} {r : List Bool} {k : Nat} (h : k < r.length) : sq (r.map g) k = g (sq r k) := by
 rw [sq_in (by rw [List.length_map]; exact h), sq_in h]; simp
theorem row_from (t : Nat) (r : List Bool) (at0 : Nat) (hat : at0 < r.length) (hns : ∀ k, k < at0 → settB t (sq r k) = false) :
  ∀ d a, a + d = at0 → rowB t (r.drop a) = (rowB t (r.drop at0) != decide (cnt (fun k => sq (r.map (flipB t)) (a + k)) d % 2 = 1))
 | 0, a, h => by
  have : a = at0 := by omega
  subst this
  simp [cnt]
 | d + 1, a, h => by
  have ih := row_from t r at0 hat hns d (a + 1) (by omega)
  rw [rowB_step t (show a + 1 < r.length by omega), tab_flip (hns a (by omega)), ih, cnt_cons]
  simp only [Nat.add_zero]
  simp only [sq_map (g := flipB t) (show a < r.length by omega)]
  have e : (fun k => sq (r.map (flipB t)) (a + (k + 1))) = fun k => sq (r.map (flipB t)) (a + 1 + k) := by funext k; congr 1; omega
  rw [e]
  generalize cnt (fun k => sq (r.map (flipB t)) (a + 1 + k)) d = c
  generalize rowB t (r.drop at0) = z
  cases flipB t (sq r a)
  ·rw [Bool.toNat_false, Nat.zero_add]; cases (z != decide (c % 2 = 1)) <;> rfl
  ·rw [Bool.toNat_true]
   have hc : c % 2 = 0 ∧ (1 + c) % 2 = 1 ∨ c % 2 = 1 ∧ (1 + c) % 2 = 0 := by omega
   rcases hc with ⟨h1, h2⟩ | ⟨h1, h2⟩ <;> simp only [h1, h2] <;> cases z <;> decide
theorem flagW_ofInt (b : Bool) : flagW b = floatOfInt .f64 (b.toNat : Int) := by cases b <;> decide +kernel
end Go.Proofs.YtbacchbcanlciaaGreatDoor

namespace Go.Proofs.YtbacchbcanlciaaGreatDoor
set_option maxRecDepth 100000
open Go.RowKit Fl
set_option linter.unusedVariables false

theorem foreck_calls (f : Int) (w : World) : Calls Tryz.prog 62 #[.int .i64 f] w fun e w' => e = .returned (.bool (decide (1 ≤ f ∧ f ≤ 8))) ∧ w = w' := by
 by_cases h1 : (1 : Int) ≤ f
 ·by_cases h2 : f ≤ (8 : Int)
  ·have HD := Lib.hid (decide_eq_true (show 1 ≤ f ∧ f ≤ 8 from ⟨h1, h2⟩))
   rw [HD.out]
   go_enter Tryz.func62, Tryz.ntmps62
   go_wp2
   go_ret
   exact ⟨ret_b (by first | rfl | (simp; omega)), rfl⟩
  ·have HD := Lib.hid (decide_eq_false (show ¬ (1 ≤ f ∧ f ≤ 8) from fun h => h2 h.2))
   rw [HD.out]
   go_enter Tryz.func62, Tryz.ntmps62
   go_wp2
   go_ret
   exact ⟨ret_b (by first | rfl | (simp; omega)), rfl⟩
 ·have HD := Lib.hid (decide_eq_false (show ¬ (1 ≤ f ∧ f ≤ 8) from fun h => h1 h.1))
  rw [HD.out]
  go_enter Tryz.func62, Tryz.ntmps62
  go_wp2
  go_ret
  exact ⟨ret_b (by first | rfl | (simp; omega)), rfl⟩
theorem forel_calls (f : Int) (w : World) : Calls Tryz.prog 63 #[.int .i64 f] w fun e w' => e = .returned (.bool (decide (11 ≤ f ∧ f ≤ 16))) ∧ w = w' := by
 by_cases h1 : (11 : Int) ≤ f
 ·by_cases h2 : f ≤ (16 : Int)
  ·have HD := Lib.hid (decide_eq_true (show 11 ≤ f ∧ f ≤ 16 from ⟨h1, h2⟩))
   rw [HD.out]
   go_enter Tryz.func63, Tryz.ntmps63
   go_wp2
   go_ret
   exact ⟨ret_b (by first | rfl | (simp; omega)), rfl⟩
  ·have HD := Lib.hid (decide_eq_false (show ¬ (11 ≤ f ∧ f ≤ 16) from fun h => h2 h.2))
   rw [HD.out]
   go_enter Tryz.func63, Tryz.ntmps63
   go_wp2
   go_ret
   exact ⟨ret_b (by first | rfl | (simp; omega)), rfl⟩
 ·have HD := Lib.hid (decide_eq_false (show ¬ (11 ≤ f ∧ f ≤ 16) from fun h => h1 h.1))
  rw [HD.out]
  go_enter Tryz.func63, Tryz.ntmps63
  go_wp2
  go_ret
  exact ⟨ret_b (by first | rfl | (simp; omega)), rfl⟩
theorem fojud_calls (f : Int) (w : World) : Calls Tryz.prog 64 #[.int .i64 f] w fun e w' => e = .returned (.bool (decide (21 ≤ f ∧ f ≤ 24))) ∧ w = w' := by
 by_cases h1 : (21 : Int) ≤ f
 ·by_cases h2 : f ≤ (24 : Int)
  ·have HD := Lib.hid (decide_eq_true (show 21 ≤ f ∧ f ≤ 24 from ⟨h1, h2⟩))
   rw [HD.out]
   go_enter Tryz.func64, Tryz.ntmps64
   go_wp2
   go_ret
   exact ⟨ret_b (by first | rfl | (simp; omega)), rfl⟩
  ·have HD := Lib.hid (decide_eq_false (show ¬ (21 ≤ f ∧ f ≤ 24) from fun h => h2 h.2))
   rw [HD.out]
   go_enter Tryz.func64, Tryz.ntmps64
   go_wp2
   go_ret
   exact ⟨ret_b (by first | rfl | (simp; omega)), rfl⟩
 ·have HD := Lib.hid (decide_eq_false (show ¬ (21 ≤ f ∧ f ≤ 24) from fun h => h1 h.1))
  rw [HD.out]
  go_enter Tryz.func64, Tryz.ntmps64
  go_wp2
  go_ret
  exact ⟨ret_b (by first | rfl | (simp; omega)), rfl⟩
theorem dec3 {f : Int} (h : fknown f = false) : decide (1 ≤ f ∧ f ≤ 8) = false ∧ decide (11 ≤ f ∧ f ≤ 16) = false ∧ decide (21 ≤ f ∧ f ≤ 24) = false := by
 obtain ⟨h1, h2, h3⟩ := fknown_no h
 exact ⟨decide_eq_false h1, decide_eq_false h2, decide_eq_false h3⟩
theorem foknown_calls (f : Int) (w : World) : Calls Tryz.prog 27 #[.int .i64 f] w fun e w' => e = .returned (.bool (fknown f)) ∧ w = w' := by
 by_cases hk : fknown f = true
 ·rcases fknown_cases hk with h | h | h
  ·have D1 := Lib.hid (show decide (1 ≤ f ∧ f ≤ 8) = true from decide_eq_true h)
   have D2 := Lib.hid (show decide (11 ≤ f ∧ f ≤ 16) = false from decide_eq_false (by omega))
   have D3 := Lib.hid (show decide (21 ≤ f ∧ f ≤ 24) = false from decide_eq_false (by omega))
   have HK := Lib.hid hk; rw [hk]; clear hk h
   go_enter Tryz.func27, Tryz.ntmps27
   go_wp2_with (first | ((with_reducible refine (foreck_calls _ _).mono ?_); rintro e w' ⟨rfl, rfl⟩; rw [D1.out]) | ((with_reducible refine (forel_calls _ _).mono ?_); rintro e w' ⟨rfl, rfl⟩; rw [D2.out]) | ((with_reducible refine (fojud_calls _ _).mono ?_); rintro e w' ⟨rfl, rfl⟩; rw [D3.out]))
   go_ret
   exact ⟨rfl, rfl⟩
  ·have D1 := Lib.hid (show decide (1 ≤ f ∧ f ≤ 8) = false from decide_eq_false (by omega))
   have D2 := Lib.hid (show decide (11 ≤ f ∧ f ≤ 16) = true from decide_eq_true h)
   have D3 := Lib.hid (show decide (21 ≤ f ∧ f ≤ 24) = false from decide_eq_false (by omega))
   have HK := Lib.hid hk; rw [hk]; clear hk h
   go_enter Tryz.func27, Tryz.ntmps27
   go_wp2_with (first | ((with_reducible refine (foreck_calls _ _).mono ?_); rintro e w' ⟨rfl, rfl⟩; rw [D1.out]) | ((with_reducible refine (forel_calls _ _).mono ?_); rintro e w' ⟨rfl, rfl⟩; rw [D2.out]) | ((with_reducible refine (fojud_calls _ _).mono ?_); rintro e w' ⟨rfl, rfl⟩; rw [D3.out]))
   go_ret
   exact ⟨rfl, rfl⟩
  ·have D1 := Lib.hid (show decide (1 ≤ f ∧ f ≤ 8) = false from decide_eq_false (by omega))
   have D2 := Lib.hid (show decide (11 ≤ f ∧ f ≤ 16) = false from decide_eq_false (by omega))
   have D3 := Lib.hid (show decide (21 ≤ f ∧ f ≤ 24) = true from decide_eq_true h)
   have HK := Lib.hid hk; rw [hk]; clear hk h
   go_enter Tryz.func27, Tryz.ntmps27
   go_wp2_with (first | ((with_reducible refine (foreck_calls _ _).mono ?_); rintro e w' ⟨rfl, rfl⟩; rw [D1.out]) | ((with_reducible refine (forel_calls _ _).mono ?_); rintro e w' ⟨rfl, rfl⟩; rw [D2.out]) | ((with_reducible refine (fojud_calls _ _).mono ?_); rintro e w' ⟨rfl, rfl⟩; rw [D3.out]))
   go_ret
   exact ⟨rfl, rfl⟩
 ·have hk : fknown f = false := by simpa using hk
  obtain ⟨h1, h2, h3⟩ := dec3 hk
  have D1 := Lib.hid h1; have D2 := Lib.hid h2; have D3 := Lib.hid h3; rw [hk]; clear hk h1 h2 h3
  go_enter Tryz.func27, Tryz.ntmps27
  go_wp2_with (first | ((with_reducible refine (foreck_calls _ _).mono ?_); rintro e w' ⟨rfl, rfl⟩; rw [D1.out]) | ((with_reducible refine (forel_calls _ _).mono ?_); rintro e w' ⟨rfl, rfl⟩; rw [D2.out]) | ((with_reducible refine (fojud_calls _ _).mono ?_); rintro e w' ⟨rfl, rfl⟩; rw [D3.out]))
  go_ret
  exact ⟨rfl, rfl⟩
theorem truth_is (x : Nat) (w : World) (h : Fnt x) : Calls Tryz.prog 89 #[.float .f64 x] w fun e w' => e = .returned (.tuple #[.bool (bitW x), .bool (isT x)]) ∧ w = w' := truth_calls x w h
theorem flag_is (b : Bool) (w : World) : Calls Tryz.prog 49 #[.bool b] w fun e w' => e = .returned (.float .f64 (flagW b)) ∧ w = w' := flag_calls b w
theorem fotr_calls (f : Int) (a b : Nat) (w : World) (hf : 21 ≤ f ∧ f ≤ 24) (ha : Fnt a) (hb : Fnt b) : Calls Tryz.prog 145 #[.int .i64 f, .float .f64 a, .float .f64 b] w fun e w' => e = .returned (.tuple #[.float .f64 (fone f a b).1, .int .i64 (fone f a b).2]) ∧ w = w' := by
 have HA := Lib.hid ha; have HB := Lib.hid hb
 have HG := Lib.hid (show logE f = 0 from if_pos hf)
 cases h1 : isT a <;> cases h2 : isT b
 ·have HE := Lib.hid (show fone f a b = (0, 24) from fone_l24 hf (by simp [h1, h2]))
  have H1 := Lib.hid h1; have H2 := Lib.hid h2; rw [HE.out]; clear hf ha hb h1 h2
  go_enter Tryz.func145, Tryz.ntmps145
  go_wp2_with (first | ((with_reducible refine (truth_is a _ HA.out).mono ?_); rintro e w' ⟨rfl, rfl⟩; rw [H1.out]) | ((with_reducible refine (truth_is b _ HB.out).mono ?_); rintro e w' ⟨rfl, rfl⟩; rw [H2.out]) | ((with_reducible refine (loone_calls _ _ _ _).mono ?_); rintro e w' ⟨rfl, rfl⟩; rw [HG.out]) | ((with_reducible refine (flag_is _ _).mono ?_); rintro e w' ⟨rfl, rfl⟩))
  go_ret2
  exact ⟨rfl, rfl⟩
 ·have HE := Lib.hid (show fone f a b = (0, 24) from fone_l24 hf (by simp [h1, h2]))
  have H1 := Lib.hid h1; have H2 := Lib.hid h2; rw [HE.out]; clear hf ha hb h1 h2
  go_enter Tryz.func145, Tryz.ntmps145
  go_wp2_with (first | ((with_reducible refine (truth_is a _ HA.out).mono ?_); rintro e w' ⟨rfl, rfl⟩; rw [H1.out]) | ((with_reducible refine (truth_is b _ HB.out).mono ?_); rintro e w' ⟨rfl, rfl⟩; rw [H2.out]) | ((with_reducible refine (loone_calls _ _ _ _).mono ?_); rintro e w' ⟨rfl, rfl⟩; rw [HG.out]) | ((with_reducible refine (flag_is _ _).mono ?_); rintro e w' ⟨rfl, rfl⟩))
  go_ret2
  exact ⟨rfl, rfl⟩
 ·have HE := Lib.hid (show fone f a b = (0, 24) from fone_l24 hf (by simp [h1, h2]))
  have H1 := Lib.hid h1; have H2 := Lib.hid h2; rw [HE.out]; clear hf ha hb h1 h2
  go_enter Tryz.func145, Tryz.ntmps145
  go_wp2_with (first | ((with_reducible refine (truth_is a _ HA.out).mono ?_); rintro e w' ⟨rfl, rfl⟩; rw [H1.out]) | ((with_reducible refine (truth_is b _ HB.out).mono ?_); rintro e w' ⟨rfl, rfl⟩; rw [H2.out]) | ((with_reducible refine (loone_calls _ _ _ _).mono ?_); rintro e w' ⟨rfl, rfl⟩; rw [HG.out]) | ((with_reducible refine (flag_is _ _).mono ?_); rintro e w' ⟨rfl, rfl⟩))
  go_ret2
  exact ⟨rfl, rfl⟩
 ·have HE := Lib.hid (show fone f a b = (flagW (logB f (bitW a) (bitW b)), 0) from fone_l hf h1 h2)
  have H1 := Lib.hid h1; have H2 := Lib.hid h2; rw [HE.out]; clear hf ha hb h1 h2
  go_enter Tryz.func145, Tryz.ntmps145
  go_wp2_with (first | ((with_reducible refine (truth_is a _ HA.out).mono ?_); rintro e w' ⟨rfl, rfl⟩; rw [H1.out]) | ((with_reducible refine (truth_is b _ HB.out).mono ?_); rintro e w' ⟨rfl, rfl⟩; rw [H2.out]) | ((with_reducible refine (loone_calls _ _ _ _).mono ?_); rintro e w' ⟨rfl, rfl⟩; rw [HG.out]) | ((with_reducible refine (flag_is _ _).mono ?_); rintro e w' ⟨rfl, rfl⟩))
  go_ret2
  exact ⟨rfl, rfl⟩
set_option maxHeartbeats 4000000 in
theorem foone_calls (f : Int) (a b : Nat) (w : World) (ha : Num a) (hb : Num b) : Calls Tryz.prog 113 #[.int .i64 f, .float .f64 a, .float .f64 b] w (Pwd (fone f a b) w) := by
 have HA := Lib.hid ha; have HB := Lib.hid hb; have FA := Lib.hid ha.1; have FB := Lib.hid hb.1
 by_cases hk : fknown f = true
 ·rcases fknown_cases hk with h | h | h
  ·have D1 := Lib.hid (show decide (1 ≤ f ∧ f ≤ 8) = true from decide_eq_true h)
   have D2 := Lib.hid (show decide (11 ≤ f ∧ f ≤ 16) = false from decide_eq_false (by omega))
   have D3 := Lib.hid (show decide (21 ≤ f ∧ f ≤ 24) = false from decide_eq_false (by omega))
   have HE := Lib.hid (fone_a a b h)
   rw [HE.out]; clear hk h ha hb
   go_enter Tryz.func113, Tryz.ntmps113
   go_wp2_with (first | (first | ((with_reducible refine (foreck_calls _ _).mono ?_); rintro e w' ⟨rfl, rfl⟩; rw [D1.out]) | ((with_reducible refine (forel_calls _ _).mono ?_); rintro e w' ⟨rfl, rfl⟩; rw [D2.out]) | ((with_reducible refine (fojud_calls _ _).mono ?_); rintro e w' ⟨rfl, rfl⟩; rw [D3.out])) | ((with_reducible refine (aone_calls _ _ _ _ HA.out HB.out).mono ?_); rintro e w' ⟨rfl, m, rfl⟩))
   go_ret2
   exact ⟨rfl, m, rfl⟩
  ·have D1 := Lib.hid (show decide (1 ≤ f ∧ f ≤ 8) = false from decide_eq_false (by omega))
   have D2 := Lib.hid (show decide (11 ≤ f ∧ f ≤ 16) = true from decide_eq_true h)
   have D3 := Lib.hid (show decide (21 ≤ f ∧ f ≤ 24) = false from decide_eq_false (by omega))
   have HE := Lib.hid (fone_r a b h)
   have HG := Lib.hid (show relE f = 0 from if_pos h)
   rw [HE.out]; clear hk h ha hb
   go_enter Tryz.func113, Tryz.ntmps113
   go_wp2_with (first | (first | ((with_reducible refine (foreck_calls _ _).mono ?_); rintro e w' ⟨rfl, rfl⟩; rw [D1.out]) | ((with_reducible refine (forel_calls _ _).mono ?_); rintro e w' ⟨rfl, rfl⟩; rw [D2.out]) | ((with_reducible refine (fojud_calls _ _).mono ?_); rintro e w' ⟨rfl, rfl⟩; rw [D3.out])) | ((with_reducible refine (reone_calls _ _ _ _ FA.out FB.out).mono ?_); rintro e w' ⟨rfl, rfl⟩; rw [HG.out]) | ((with_reducible refine (flag_is _ _).mono ?_); rintro e w' ⟨rfl, rfl⟩))
   go_ret2
   exact ⟨rfl, 0, rfl⟩
  ·have D1 := Lib.hid (show decide (1 ≤ f ∧ f ≤ 8) = false from decide_eq_false (by omega))
   have D2 := Lib.hid (show decide (11 ≤ f ∧ f ≤ 16) = false from decide_eq_false (by omega))
   have D3 := Lib.hid (show decide (21 ≤ f ∧ f ≤ 24) = true from decide_eq_true h)
   have HF := Lib.hid h; clear hk h ha hb
   go_enter Tryz.func113, Tryz.ntmps113
   go_wp2_with (first | (first | ((with_reducible refine (foreck_calls _ _).mono ?_); rintro e w' ⟨rfl, rfl⟩; rw [D1.out]) | ((with_reducible refine (forel_calls _ _).mono ?_); rintro e w' ⟨rfl, rfl⟩; rw [D2.out]) | ((with_reducible refine (fojud_calls _ _).mono ?_); rintro e w' ⟨rfl, rfl⟩; rw [D3.out])) | ((with_reducible refine (fotr_calls _ _ _ _ HF.out FA.out FB.out).mono ?_); rintro e w' ⟨rfl, rfl⟩))
   go_ret2
   exact ⟨rfl, 0, rfl⟩
 ·have hk : fknown f = false := by simpa using hk
  obtain ⟨h1, h2, h3⟩ := dec3 hk
  have D1 := Lib.hid h1; have D2 := Lib.hid h2; have D3 := Lib.hid h3
  rw [fone_no a b hk]
  clear hk h1 h2 h3 ha hb
  go_enter Tryz.func113, Tryz.ntmps113
  go_wp2_with (first | ((with_reducible refine (foreck_calls _ _).mono ?_); rintro e w' ⟨rfl, rfl⟩; rw [D1.out]) | ((with_reducible refine (forel_calls _ _).mono ?_); rintro e w' ⟨rfl, rfl⟩; rw [D2.out]) | ((with_reducible refine (fojud_calls _ _).mono ?_); rintro e w' ⟨rfl, rfl⟩; rw [D3.out]))
  go_ret2
  exact ⟨rfl, 0, rfl⟩
theorem foall_calls (c n : Int) (w : World) : Calls Tryz.prog 43 #[.int .i64 c, .int .i64 n] w fun e w' => e = .returned (.bool (decide (c = 0 ∨ (c = 1 ∧ n = 1)))) ∧ w = w' := by
 by_cases h0 : c = 0
 ·have HD := Lib.hid (decide_eq_true (show c = 0 ∨ (c = 1 ∧ n = 1) from .inl h0))
  have hb : (c == 0) = true := by simp [h0]
  rw [HD.out]; clear h0
  go_enter Tryz.func43, Tryz.ntmps43
  go_wp2
  go_ret
  exact ⟨ret_b (by first | rfl | simp), rfl⟩
 ·have hb : (c == 0) = false := by simp [h0]
  by_cases h1 : c = 1
  ·have hb1 : (c == 1) = true := by simp [h1]
   by_cases h2 : n = 1
   ·have HD := Lib.hid (decide_eq_true (show c = 0 ∨ (c = 1 ∧ n = 1) from .inr ⟨h1, h2⟩))
    have hb2 : (n == 1) = true := by simp [h2]
    rw [HD.out]; clear h0 h1 h2
    go_enter Tryz.func43, Tryz.ntmps43
    go_wp2
    go_ret
    exact ⟨ret_b (by first | rfl | simp), rfl⟩
   ·have HD := Lib.hid (decide_eq_false (show ¬ (c = 0 ∨ (c = 1 ∧ n = 1)) by omega))
    have hb2 : (n == 1) = false := by simp [h2]
    rw [HD.out]; clear h0 h1 h2
    go_enter Tryz.func43, Tryz.ntmps43
    go_wp2
    go_ret
    exact ⟨ret_b (by first | rfl | simp), rfl⟩
  ·have HD := Lib.hid (decide_eq_false (show ¬ (c = 0 ∨ (c = 1 ∧ n = 1)) by omega))
   have hb1 : (c == 1) = false := by simp [h1]
   rw [HD.out]; clear h0 h1
   go_enter Tryz.func43, Tryz.ntmps43
   go_wp2
   go_ret
   exact ⟨ret_b (by first | rfl | simp), rfl⟩
theorem fparts (f : Int) : (f < 1) ∨ (1 ≤ f ∧ f ≤ 8) ∨ (8 < f ∧ f < 11) ∨ (11 ≤ f ∧ f ≤ 16) ∨ (16 < f ∧ f < 21) ∨ (21 ≤ f ∧ f ≤ 24) ∨ (24 < f) := by omega
theorem rfknown_calls (f : Int) (w : World) : Calls Tryz.prog 21 #[.int .i64 f] w fun e w' => e = .returned (.bool (fknown f)) ∧ w = w' := by
 rcases fparts f with h | h | h | h | h | h | h
 ·have HD := Lib.hid (show fknown f = false by simp [fknown]; omega)
  rw [HD.out]
  have h0 : ¬ 1 ≤ f := by omega
  have h1 : f ≤ 8 := by omega
  have h2 : ¬ 11 ≤ f := by omega
  have h3 : f ≤ 16 := by omega
  have h4 : ¬ 21 ≤ f := by omega
  have h5 : f ≤ 24 := by omega
  clear h
  go_enter Tryz.func21, Tryz.ntmps21
  go_wp2
  go_ret
  exact ⟨ret_b (by first | rfl | (simp; done) | (simp; omega)), rfl⟩
 ·have HD := Lib.hid (show fknown f = true by simp [fknown]; omega)
  rw [HD.out]
  have h0 : 1 ≤ f := by omega
  have h1 : f ≤ 8 := by omega
  have h2 : ¬ 11 ≤ f := by omega
  have h3 : f ≤ 16 := by omega
  have h4 : ¬ 21 ≤ f := by omega
  have h5 : f ≤ 24 := by omega
  clear h
  go_enter Tryz.func21, Tryz.ntmps21
  go_wp2
  go_ret
  exact ⟨ret_b (by first | rfl | (simp; done) | (simp; omega)), rfl⟩
 ·have HD := Lib.hid (show fknown f = false by simp [fknown]; omega)
  rw [HD.out]
  have h0 : 1 ≤ f := by omega
  have h1 : ¬ f ≤ 8 := by omega
  have h2 : ¬ 11 ≤ f := by omega
  have h3 : f ≤ 16 := by omega
  have h4 : ¬ 21 ≤ f := by omega
  have h5 : f ≤ 24 := by omega
  clear h
  go_enter Tryz.func21, Tryz.ntmps21
  go_wp2
  go_ret
  exact ⟨ret_b (by first | rfl | (simp; done) | (simp; omega)), rfl⟩
 ·have HD := Lib.hid (show fknown f = true by simp [fknown]; omega)
  rw [HD.out]
  have h0 : 1 ≤ f := by omega
  have h1 : ¬ f ≤ 8 := by omega
  have h2 : 11 ≤ f := by omega
  have h3 : f ≤ 16 := by omega
  have h4 : ¬ 21 ≤ f := by omega
  have h5 : f ≤ 24 := by omega
  clear h
  go_enter Tryz.func21, Tryz.ntmps21
  go_wp2
  go_ret
  exact ⟨ret_b (by first | rfl | (simp; done) | (simp; omega)), rfl⟩
 ·have HD := Lib.hid (show fknown f = false by simp [fknown]; omega)
  rw [HD.out]
  have h0 : 1 ≤ f := by omega
  have h1 : ¬ f ≤ 8 := by omega
  have h2 : 11 ≤ f := by omega
  have h3 : ¬ f ≤ 16 := by omega
  have h4 : ¬ 21 ≤ f := by omega
  have h5 : f ≤ 24 := by omega
  clear h
  go_enter Tryz.func21, Tryz.ntmps21
  go_wp2
  go_ret
  exact ⟨ret_b (by first | rfl | (simp; done) | (simp; omega)), rfl⟩
 ·have HD := Lib.hid (show fknown f = true by simp [fknown]; omega)
  rw [HD.out]
  have h0 : 1 ≤ f := by omega
  have h1 : ¬ f ≤ 8 := by omega
  have h2 : 11 ≤ f := by omega
  have h3 : ¬ f ≤ 16 := by omega
  have h4 : 21 ≤ f := by omega
  have h5 : f ≤ 24 := by omega
  clear h
  go_enter Tryz.func21, Tryz.ntmps21
  go_wp2
  go_ret
  exact ⟨ret_b (by first | rfl | (simp; done) | (simp; omega)), rfl⟩
 ·have HD := Lib.hid (show fknown f = false by simp [fknown]; omega)
  rw [HD.out]
  have h0 : 1 ≤ f := by omega
  have h1 : ¬ f ≤ 8 := by omega
  have h2 : 11 ≤ f := by omega
  have h3 : ¬ f ≤ 16 := by omega
  have h4 : 21 ≤ f := by omega
  have h5 : ¬ f ≤ 24 := by omega
  clear h
  go_enter Tryz.func21, Tryz.ntmps21
  go_wp2
  go_ret
  exact ⟨ret_b (by first | rfl | (simp; done) | (simp; omega)), rfl⟩
theorem rfflag_calls (b : Bool) (w : World) : Calls Tryz.prog 107 #[.bool b] w fun e w' => e = .returned (.float .f64 (flagW b)) ∧ w = w' := by
 cases b
 all_goals
  go_enter Tryz.func107, Tryz.ntmps107
  go_wp2
  go_ret
  exact ⟨rfl, rfl⟩
end Go.Proofs.YtbacchbcanlciaaGreatDoor

namespace Go.Proofs.YtbacchbcanlciaaGreatDoor
set_option maxRecDepth 100000
open Go.RowKit Fl
set_option linter.unusedVariables false

set_option maxHeartbeats 16000000 in
theorem rfone_calls (f : Int) (a b : Nat) (w : World) (ha : Num a) (hb : Num b) : Calls Tryz.prog 73 #[.int .i64 f, .float .f64 a, .float .f64 b] w (Pwd (fone f a b) w) := by
 have HA := Lib.hid ha; have HB := Lib.hid hb; have FA := Lib.hid ha.1; have FB := Lib.hid hb.1
 by_cases hk : fknown f = true
 ·have HK := Lib.hid hk
  rcases fknown_cases hk with h | h | h
  ·have HE := Lib.hid (fone_a a b h)
   have h8 : f ≤ 8 := h.2
   rw [HE.out]; clear hk h ha hb
   go_enter Tryz.func73, Tryz.ntmps73
   go_wp2_with (first | ((with_reducible refine (rfknown_calls _ _).mono ?_); rintro e w' ⟨rfl, rfl⟩; rw [HK.out]) | ((with_reducible refine (raone_calls _ _ _ _ HA.out HB.out).mono ?_); rintro e w' ⟨rfl, m, rfl⟩))
   go_ret2
   exact ⟨rfl, m, rfl⟩
  ·have HE := Lib.hid (fone_r a b h)
   have HG := Lib.hid (show relE f = 0 from if_pos h)
   have h8 : ¬ f ≤ 8 := by omega
   have h16 : f ≤ 16 := h.2
   rw [HE.out]; clear hk h ha hb
   go_enter Tryz.func73, Tryz.ntmps73
   go_wp2_with (first | ((with_reducible refine (rfknown_calls _ _).mono ?_); rintro e w' ⟨rfl, rfl⟩; rw [HK.out]) | ((with_reducible refine (rrone_calls _ _ _ _ FA.out FB.out).mono ?_); rintro e w' ⟨rfl, rfl⟩) | ((with_reducible refine (rfflag_calls _ _).mono ?_); rintro e w' ⟨rfl, rfl⟩))
   go_ret2
   exact ⟨rfl, 0, rfl⟩
  ·have h8 : ¬ f ≤ 8 := by omega
   have h16 : ¬ f ≤ 16 := by omega
   have HF := Lib.hid h
   rcases tr_parts ha.1 with ⟨h1, ⟨k1, o1, q1⟩ | ⟨k1, o1, q1⟩⟩ | ⟨h1, ⟨o1, q1⟩ | ⟨o1, q1⟩ | ⟨o1, q1⟩⟩
   ·rcases tr_parts hb.1 with ⟨h2, ⟨k2, o2, q2⟩ | ⟨k2, o2, q2⟩⟩ | ⟨h2, ⟨o2, q2⟩ | ⟨o2, q2⟩ | ⟨o2, q2⟩⟩
    ·have K3 := Lib.hid (show logB f true true = logB f (bitW a) (bitW b) by rw [k1, k2])
     have HE := Lib.hid (fone_l h h1 h2)
     rw [HE.out]; clear hk h ha hb h1 h2 k1 k2
     go_enter Tryz.func73, Tryz.ntmps73
     go_wp2_with (first | ((with_reducible refine (rfknown_calls _ _).mono ?_); rintro e w' ⟨rfl, rfl⟩; rw [HK.out]) | ((with_reducible refine (rlone_calls _ _ _ _).mono ?_); rintro e w' ⟨rfl, rfl⟩; rw [K3.out]) | ((with_reducible refine (rfflag_calls _ _).mono ?_); rintro e w' ⟨rfl, rfl⟩))
     go_ret2
     exact ⟨rfl, 0, rfl⟩
    ·have K3 := Lib.hid (show logB f true false = logB f (bitW a) (bitW b) by rw [k1, k2])
     have HE := Lib.hid (fone_l h h1 h2)
     rw [HE.out]; clear hk h ha hb h1 h2 k1 k2
     go_enter Tryz.func73, Tryz.ntmps73
     go_wp2_with (first | ((with_reducible refine (rfknown_calls _ _).mono ?_); rintro e w' ⟨rfl, rfl⟩; rw [HK.out]) | ((with_reducible refine (rlone_calls _ _ _ _).mono ?_); rintro e w' ⟨rfl, rfl⟩; rw [K3.out]) | ((with_reducible refine (rfflag_calls _ _).mono ?_); rintro e w' ⟨rfl, rfl⟩))
     go_ret2
     exact ⟨rfl, 0, rfl⟩
    ·have HE := Lib.hid (show fone f a b = (0, 24) from fone_l24 h (by simp [h1, h2]))
     rw [HE.out]; clear hk h ha hb h1 h2 k1
     go_enter Tryz.func73, Tryz.ntmps73
     go_wp2_with ((with_reducible refine (rfknown_calls _ _).mono ?_); rintro e w' ⟨rfl, rfl⟩; rw [HK.out])
     go_ret2
     exact ⟨rfl, 0, rfl⟩
    ·have HE := Lib.hid (show fone f a b = (0, 24) from fone_l24 h (by simp [h1, h2]))
     rw [HE.out]; clear hk h ha hb h1 h2 k1
     go_enter Tryz.func73, Tryz.ntmps73
     go_wp2_with ((with_reducible refine (rfknown_calls _ _).mono ?_); rintro e w' ⟨rfl, rfl⟩; rw [HK.out])
     go_ret2
     exact ⟨rfl, 0, rfl⟩
    ·have HE := Lib.hid (show fone f a b = (0, 24) from fone_l24 h (by simp [h1, h2]))
     rw [HE.out]; clear hk h ha hb h1 h2 k1
     go_enter Tryz.func73, Tryz.ntmps73
     go_wp2_with ((with_reducible refine (rfknown_calls _ _).mono ?_); rintro e w' ⟨rfl, rfl⟩; rw [HK.out])
     go_ret2
     exact ⟨rfl, 0, rfl⟩
   ·rcases tr_parts hb.1 with ⟨h2, ⟨k2, o2, q2⟩ | ⟨k2, o2, q2⟩⟩ | ⟨h2, ⟨o2, q2⟩ | ⟨o2, q2⟩ | ⟨o2, q2⟩⟩
    ·have K3 := Lib.hid (show logB f false true = logB f (bitW a) (bitW b) by rw [k1, k2])
     have HE := Lib.hid (fone_l h h1 h2)
     rw [HE.out]; clear hk h ha hb h1 h2 k1 k2
     go_enter Tryz.func73, Tryz.ntmps73
     go_wp2_with (first | ((with_reducible refine (rfknown_calls _ _).mono ?_); rintro e w' ⟨rfl, rfl⟩; rw [HK.out]) | ((with_reducible refine (rlone_calls _ _ _ _).mono ?_); rintro e w' ⟨rfl, rfl⟩; rw [K3.out]) | ((with_reducible refine (rfflag_calls _ _).mono ?_); rintro e w' ⟨rfl, rfl⟩))
     go_ret2
     exact ⟨rfl, 0, rfl⟩
    ·have K3 := Lib.hid (show logB f false false = logB f (bitW a) (bitW b) by rw [k1, k2])
     have HE := Lib.hid (fone_l h h1 h2)
     rw [HE.out]; clear hk h ha hb h1 h2 k1 k2
     go_enter Tryz.func73, Tryz.ntmps73
     go_wp2_with (first | ((with_reducible refine (rfknown_calls _ _).mono ?_); rintro e w' ⟨rfl, rfl⟩; rw [HK.out]) | ((with_reducible refine (rlone_calls _ _ _ _).mono ?_); rintro e w' ⟨rfl, rfl⟩; rw [K3.out]) | ((with_reducible refine (rfflag_calls _ _).mono ?_); rintro e w' ⟨rfl, rfl⟩))
     go_ret2
     exact ⟨rfl, 0, rfl⟩
    ·have HE := Lib.hid (show fone f a b = (0, 24) from fone_l24 h (by simp [h1, h2]))
     rw [HE.out]; clear hk h ha hb h1 h2 k1
     go_enter Tryz.func73, Tryz.ntmps73
     go_wp2_with ((with_reducible refine (rfknown_calls _ _).mono ?_); rintro e w' ⟨rfl, rfl⟩; rw [HK.out])
     go_ret2
     exact ⟨rfl, 0, rfl⟩
    ·have HE := Lib.hid (show fone f a b = (0, 24) from fone_l24 h (by simp [h1, h2]))
     rw [HE.out]; clear hk h ha hb h1 h2 k1
     go_enter Tryz.func73, Tryz.ntmps73
     go_wp2_with ((with_reducible refine (rfknown_calls _ _).mono ?_); rintro e w' ⟨rfl, rfl⟩; rw [HK.out])
     go_ret2
     exact ⟨rfl, 0, rfl⟩
    ·have HE := Lib.hid (show fone f a b = (0, 24) from fone_l24 h (by simp [h1, h2]))
     rw [HE.out]; clear hk h ha hb h1 h2 k1
     go_enter Tryz.func73, Tryz.ntmps73
     go_wp2_with ((with_reducible refine (rfknown_calls _ _).mono ?_); rintro e w' ⟨rfl, rfl⟩; rw [HK.out])
     go_ret2
     exact ⟨rfl, 0, rfl⟩
   ·have HE := Lib.hid (show fone f a b = (0, 24) from fone_l24 h (by simp [h1]))
    rw [HE.out]; clear hk h ha hb h1
    go_enter Tryz.func73, Tryz.ntmps73
    go_wp2_with ((with_reducible refine (rfknown_calls _ _).mono ?_); rintro e w' ⟨rfl, rfl⟩; rw [HK.out])
    go_ret2
    exact ⟨rfl, 0, rfl⟩
   ·have HE := Lib.hid (show fone f a b = (0, 24) from fone_l24 h (by simp [h1]))
    rw [HE.out]; clear hk h ha hb h1
    go_enter Tryz.func73, Tryz.ntmps73
    go_wp2_with ((with_reducible refine (rfknown_calls _ _).mono ?_); rintro e w' ⟨rfl, rfl⟩; rw [HK.out])
    go_ret2
    exact ⟨rfl, 0, rfl⟩
   ·have HE := Lib.hid (show fone f a b = (0, 24) from fone_l24 h (by simp [h1]))
    rw [HE.out]; clear hk h ha hb h1
    go_enter Tryz.func73, Tryz.ntmps73
    go_wp2_with ((with_reducible refine (rfknown_calls _ _).mono ?_); rintro e w' ⟨rfl, rfl⟩; rw [HK.out])
    go_ret2
    exact ⟨rfl, 0, rfl⟩
 ·have hk : fknown f = false := by simpa using hk
  have HK := Lib.hid hk
  rw [fone_no a b hk]
  clear hk ha hb
  go_enter Tryz.func73, Tryz.ntmps73
  go_wp2_with ((with_reducible refine (rfknown_calls _ _).mono ?_); rintro e w' ⟨rfl, rfl⟩; rw [HK.out])
  go_ret2
  exact ⟨rfl, 0, rfl⟩
theorem fstart_cases (f : Int) : f = 1 ∨ f = 2 ∨ f = 3 ∨ f = 4 ∨ f = 5 ∨ f = 6 ∨ f = 7 ∨ f = 8 ∨ f = 11 ∨ f = 12 ∨ f = 13 ∨ f = 14 ∨ f = 15 ∨ f = 16 ∨ f = 21 ∨ f = 22 ∨ (f ≠ 1 ∧ f ≠ 2 ∧ f ≠ 3 ∧ f ≠ 4 ∧ f ≠ 5 ∧ f ≠ 6 ∧ f ≠ 7 ∧ f ≠ 8 ∧ f ≠ 11 ∧ f ≠ 12 ∧ f ≠ 13 ∧ f ≠ 14 ∧ f ≠ 15 ∧ f ≠ 16 ∧ f ≠ 21 ∧ f ≠ 22) := by omega
theorem fostart_calls (f : Int) (w : World) : Calls Tryz.prog 76 #[.int .i64 f] w fun e w' => e = .returned (.tuple #[.float .f64 (fstart f).1, .bool (fstart f).2]) ∧ w = w' := by
 rcases fstart_cases f with rfl | rfl | rfl | rfl | rfl | rfl | rfl | rfl | rfl | rfl | rfl | rfl | rfl | rfl | rfl | rfl | ⟨n1, n2, n3, n4, n5, n6, n7, n8, n11, n12, n13, n14, n15, n16, n21, n22⟩
 ·go_enter Tryz.func76, Tryz.ntmps76
  go_wp2
  go_ret2
  exact ⟨rfl, rfl⟩
 ·go_enter Tryz.func76, Tryz.ntmps76
  go_wp2
  go_ret2
  exact ⟨rfl, rfl⟩
 ·go_enter Tryz.func76, Tryz.ntmps76
  go_wp2
  go_ret2
  exact ⟨rfl, rfl⟩
 ·go_enter Tryz.func76, Tryz.ntmps76
  go_wp2
  go_ret2
  exact ⟨rfl, rfl⟩
 ·go_enter Tryz.func76, Tryz.ntmps76
  go_wp2
  go_ret2
  exact ⟨rfl, rfl⟩
 ·go_enter Tryz.func76, Tryz.ntmps76
  go_wp2
  go_ret2
  exact ⟨rfl, rfl⟩
 ·go_enter Tryz.func76, Tryz.ntmps76
  go_wp2
  go_ret2
  exact ⟨rfl, rfl⟩
 ·go_enter Tryz.func76, Tryz.ntmps76
  go_wp2
  go_ret2
  exact ⟨rfl, rfl⟩
 ·go_enter Tryz.func76, Tryz.ntmps76
  go_wp2
  go_ret2
  exact ⟨rfl, rfl⟩
 ·go_enter Tryz.func76, Tryz.ntmps76
  go_wp2
  go_ret2
  exact ⟨rfl, rfl⟩
 ·go_enter Tryz.func76, Tryz.ntmps76
  go_wp2
  go_ret2
  exact ⟨rfl, rfl⟩
 ·go_enter Tryz.func76, Tryz.ntmps76
  go_wp2
  go_ret2
  exact ⟨rfl, rfl⟩
 ·go_enter Tryz.func76, Tryz.ntmps76
  go_wp2
  go_ret2
  exact ⟨rfl, rfl⟩
 ·go_enter Tryz.func76, Tryz.ntmps76
  go_wp2
  go_ret2
  exact ⟨rfl, rfl⟩
 ·go_enter Tryz.func76, Tryz.ntmps76
  go_wp2
  go_ret2
  exact ⟨rfl, rfl⟩
 ·go_enter Tryz.func76, Tryz.ntmps76
  go_wp2
  go_ret2
  exact ⟨rfl, rfl⟩
 ·have HE := Lib.hid (show fstart f = (0, false) by unfold fstart; rw [if_neg (by omega), if_neg (by omega), if_neg (by omega), if_neg (by omega)])
  rw [HE.out]
  have m1 : (f == 1) = false := by rw [beq_eq_false_iff_ne]; exact n1
  have m2 : (f == 2) = false := by rw [beq_eq_false_iff_ne]; exact n2
  have m3 : (f == 3) = false := by rw [beq_eq_false_iff_ne]; exact n3
  have m4 : (f == 4) = false := by rw [beq_eq_false_iff_ne]; exact n4
  have m5 : (f == 5) = false := by rw [beq_eq_false_iff_ne]; exact n5
  have m6 : (f == 6) = false := by rw [beq_eq_false_iff_ne]; exact n6
  have m7 : (f == 7) = false := by rw [beq_eq_false_iff_ne]; exact n7
  have m8 : (f == 8) = false := by rw [beq_eq_false_iff_ne]; exact n8
  have m11 : (f == 11) = false := by rw [beq_eq_false_iff_ne]; exact n11
  have m12 : (f == 12) = false := by rw [beq_eq_false_iff_ne]; exact n12
  have m13 : (f == 13) = false := by rw [beq_eq_false_iff_ne]; exact n13
  have m14 : (f == 14) = false := by rw [beq_eq_false_iff_ne]; exact n14
  have m15 : (f == 15) = false := by rw [beq_eq_false_iff_ne]; exact n15
  have m16 : (f == 16) = false := by rw [beq_eq_false_iff_ne]; exact n16
  have m21 : (f == 21) = false := by rw [beq_eq_false_iff_ne]; exact n21
  have m22 : (f == 22) = false := by rw [beq_eq_false_iff_ne]; exact n22
  clear n1 n2 n3 n4 n5 n6 n7 n8 n11 n12 n13 n14 n15 n16 n21 n22
  go_enter Tryz.func76, Tryz.ntmps76
  go_wp2
  go_ret2
  exact ⟨rfl, rfl⟩
end Go.Proofs.YtbacchbcanlciaaGreatDoor

namespace Go.Proofs.YtbacchbcanlciaaGreatDoor
set_option maxRecDepth 100000
open Go.RowKit Fl
set_option linter.unusedVariables false

theorem tb_low {t k j : Nat} (h : j < k) : (t ||| 2 ^ k).testBit j = t.testBit j := by
 rw [Nat.testBit_or, Nat.testBit_two_pow]
 have : decide (k = j) = false := decide_eq_false (by omega)
 rw [this, Bool.or_false]
theorem tb_at {t k : Nat} : (t ||| 2 ^ k).testBit k = true := by
 rw [Nat.testBit_or, Nat.testBit_two_pow]; simp
theorem isT_flagW {x : Nat} (hx : Num x) (h : isT x = true) : x = flagW (bitW x) := by
 have hp := pw_pos 1074
 have h := h
 simp only [isT, Bool.or_eq_true, decide_eq_true_eq] at h
 refine V_inj hx (flagW_num _) ?_
 rw [V_flagW]
 unfold bitW
 rcases h with h | h
 ·rw [decide_eq_false (by rw [h]; omega)]; simpa using h
 ·rw [decide_eq_true h]; simpa using h
theorem closed_of {f : Int} {t : Nat} (h : ∀ j, j < 4 → fone f (flagW (decide (j / 2 = 1))) (flagW (decide (j % 2 = 1))) = (flagW (t.testBit j), 0)) : Closed f t := by
 intro a b
 cases a <;> cases b
 ·exact h 0 (by omega)
 ·exact h 1 (by omega)
 ·exact h 2 (by omega)
 ·exact h 3 (by omega)
theorem tb_high {t k : Nat} (h : t < 2 ^ k) : t.testBit k = false := Nat.testBit_lt_two_pow h
set_option maxHeartbeats 4000000 in
theorem fotable_calls (f : Int) (w : World) :
  Calls Tryz.prog 78 #[.int .i64 f] w fun e w' => ∃ (t : Nat) (c : Bool), e = .returned (.tuple #[.int .u8 (t : Int), .bool c]) ∧ (c = true → t < 256 ∧ Closed f t) ∧ Below w.heap.size w w' := by
 go_enter Tryz.func78, Tryz.ntmps78
 go_wp2
 go_loopw [4, 10] (fun t i wr => ∃ k t0 : Nat, k ≤ 4 ∧ i = .int .i64 k ∧ t = .int .u8 t0 ∧ t0 < 2 ^ k ∧ (∀ j, j < k → fone f (flagW (decide (j / 2 = 1))) (flagW (decide (j % 2 = 1))) = (flagW (t0.testBit j), 0)) ∧ Below w.heap.size w wr) (fun _ i _ => 4 - (intOf i).toNat)
 case atStart => exact ⟨0, 0, by omega, rfl, rfl, by decide, fun j hj => by omega, Below.refl _ _⟩
 case round =>
  obtain ⟨k, t0, hk, rfl, rfl, ht, hall, hB⟩ := hrel
  have HT := Lib.hid ht; have HA := Lib.hid hall; have HB := Lib.hid hB; clear ht hall hB
  by_cases hlt : k < 4
  ·obtain ⟨a, ha⟩ : ∃ a, decide (k / 2 = 1) = a := ⟨_, rfl⟩
   obtain ⟨b, hb⟩ : ∃ b, decide (k % 2 = 1) = b := ⟨_, rfl⟩
   have HAB := Lib.hid (And.intro ha hb)
   have F1 := Lib.hid (show floatOfInt .f64 ((k : Int) / 2) = flagW a by
    rw [flagW_ofInt, ← ha]; congr 1
    by_cases h : k / 2 = 1
    ·rw [decide_eq_true h]; simp; omega
    ·rw [decide_eq_false h]; simp; omega)
   have F2 := Lib.hid (show floatOfInt .f64 ((k : Int) % 2) = flagW b by
    rw [flagW_ofInt, ← hb]; congr 1
    by_cases h : k % 2 = 1
    ·rw [decide_eq_true h]; simp; omega
    ·rw [decide_eq_false h]; simp; omega)
   have NA := Lib.hid (flagW_num a)
   have NB := Lib.hid (flagW_num b)
   have HK := Lib.hid hlt; clear ha hb
   go_wp2_with fail
   rw [F1.out, F2.out]
   refine (foone_calls f (flagW a) (flagW b) _ NA.out NB.out).mono ?_
   rintro e W9 ⟨rfl, m, hm⟩
   obtain ⟨p, hp⟩ : ∃ p, fone f (flagW a) (flagW b) = p := ⟨_, rfl⟩
   have HP := Lib.hid hp
   have HPN := Lib.hid (show Num p.1 by rw [← hp]; exact fone_num NA.out NB.out)
   have HPF := Lib.hid HPN.out.1
   have HB9 := Lib.hid (show Below w.heap.size w W9 by rw [hm]; exact Below.drewN' HB.out m)
   rw [hp]; clear hp hm
   obtain ⟨er, her⟩ : ∃ er, p.2 = er := ⟨_, rfl⟩
   have HER := Lib.hid her; rw [her]; clear her
   by_cases h0 : er = 0
   ·subst h0
    cases ht : isT p.1
    ·have HTT := Lib.hid ht; clear ht
     go_wp2_with ((with_reducible refine (truth_is p.1 _ HPF.out).mono ?_); rintro e w' ⟨rfl, rfl⟩; rw [HTT.out])
     go_ret2
     exact ⟨0, false, rfl, (fun h => nomatch h), HB9.out⟩
    ·have HTT := Lib.hid ht
     cases hbw : bitW p.1
     ·have HBW := Lib.hid hbw
      have HN := Lib.hid (show ∀ j, j < k + 1 → fone f (flagW (decide (j / 2 = 1))) (flagW (decide (j % 2 = 1))) = (flagW (t0.testBit j), 0) from fun j hj => by
       by_cases h9 : j = k
       ·subst h9
        rw [HAB.out.1, HAB.out.2, HP.out, tb_high HT.out, ← hbw]
        exact Prod.ext (isT_flagW HPN.out ht) HER.out
       ·exact HA.out j (by omega))
      clear ht hbw
      go_wp2_with ((with_reducible refine (truth_is p.1 _ HPF.out).mono ?_); rintro e w' ⟨rfl, rfl⟩; rw [HTT.out, HBW.out])
      go_roundw
      case rel => exact ⟨k + 1, t0, by omega, by go_num, rfl, by have := HT.out; rw [Nat.pow_succ]; omega, HN.out, HB9.out⟩
      case measure => simp [intOf]; omega
     ·have HBW := Lib.hid hbw
      have HN := Lib.hid (show ∀ j, j < k + 1 → fone f (flagW (decide (j / 2 = 1))) (flagW (decide (j % 2 = 1))) = (flagW ((t0 ||| 2 ^ k).testBit j), 0) from fun j hj => by
       by_cases h9 : j = k
       ·subst h9
        rw [HAB.out.1, HAB.out.2, HP.out, tb_at, ← hbw]
        exact Prod.ext (isT_flagW HPN.out ht) HER.out
       ·rw [tb_low (by omega)]; exact HA.out j (by omega))
      have HOR := Lib.hid (show bits BinOp.or IntKind.u8 (t0 : Int) (2 ^ k % 256 : Int) = ((t0 ||| 2 ^ k : Nat) : Int) by
       have h2 : (2 : Nat) ^ k ≤ 2 ^ 3 := Nat.pow_le_pow_right (by decide) (by omega)
       have h1 := HT.out
       have e : (2 ^ k % 256 : Int) = ((2 ^ k : Nat) : Int) := by
        have : ((2 ^ k : Nat) : Int) = (2 : Int) ^ k := by simp
        omega
       rw [e]
       exact u8_or_nat _ _ (by omega) (by omega))
      clear ht hbw
      go_wp2_with ((with_reducible refine (truth_is p.1 _ HPF.out).mono ?_); rintro e w' ⟨rfl, rfl⟩; rw [HTT.out, HBW.out])
      rw [HOR.out]
      go_roundw
      case rel => exact ⟨k + 1, t0 ||| 2 ^ k, by omega, by go_num, rfl, Nat.or_lt_two_pow (by have := HT.out; rw [Nat.pow_succ]; omega) (Nat.pow_lt_pow_right (by decide) (by omega)), HN.out, HB9.out⟩
      case measure => simp [intOf]; omega
   ·have hne : (er != 0) = true := by simp [h0]
    obtain ⟨tt, htt⟩ : ∃ tt, isT p.1 = tt := ⟨_, rfl⟩
    have HTT := Lib.hid htt; clear h0 htt
    go_wp2_with ((with_reducible refine (truth_is p.1 _ HPF.out).mono ?_); rintro e w' ⟨rfl, rfl⟩; rw [HTT.out])
    go_ret2
    exact ⟨0, false, rfl, (fun h => nomatch h), HB9.out⟩
  ·have hk4 : k = 4 := by omega
   subst hk4
   go_wp2
   go_ret2
   exact ⟨t0, true, rfl, fun _ => ⟨by have := HT.out; omega, closed_of HA.out⟩, HB.out⟩
end Go.Proofs.YtbacchbcanlciaaGreatDoor

namespace Go.Proofs.YtbacchbcanlciaaGreatDoor
set_option maxRecDepth 100000
open Go.RowKit Fl
set_option linter.unusedVariables false

noncomputable def twE (f : Int) (A B : VV) : Int := if 1 ≤ f ∧ f ≤ 8 then apE f A B else if 11 ≤ f ∧ f ≤ 16 then reE f A B else loE f A B
noncomputable def twV (f : Int) (A B : VV) : VV := if 1 ≤ f ∧ f ≤ 8 then apV f A B else if 11 ≤ f ∧ f ≤ 16 then reV f A B else loV f A B
theorem tw_a {f : Int} (h : 1 ≤ f ∧ f ≤ 8) (A B : VV) : twE f A B = apE f A B ∧ twV f A B = apV f A B := ⟨if_pos h, if_pos h⟩
theorem tw_r {f : Int} (h : 11 ≤ f ∧ f ≤ 16) (A B : VV) : twE f A B = reE f A B ∧ twV f A B = reV f A B := by
 have h2 : ¬ (1 ≤ f ∧ f ≤ 8) := by omega
 unfold twE twV; rw [if_neg h2, if_neg h2, if_pos h, if_pos h]; exact ⟨rfl, rfl⟩
theorem tw_l {f : Int} (h1 : ¬ (1 ≤ f ∧ f ≤ 8)) (h2 : ¬ (11 ≤ f ∧ f ≤ 16)) (A B : VV) : twE f A B = loE f A B ∧ twV f A B = loV f A B := by
 unfold twE twV; rw [if_neg h1, if_neg h1, if_neg h2, if_neg h2]; exact ⟨rfl, rfl⟩
theorem reV_bits (f : Int) (A B : VV) : reV f A B = .none ∨ ∃ l, reV f A B = .bits l := by
 unfold reV; split
 ·exact .inr ⟨_, rfl⟩
 ·exact .inl rfl
theorem loV_bits (f : Int) (A B : VV) : loV f A B = .none ∨ ∃ l, loV f A B = .bits l := by
 unfold loV; split
 ·exact .inr ⟨_, rfl⟩
 ·exact .inl rfl
theorem IsV.bn_set {w : World} {ok : Nat → Prop} {u : Value} {V : VV} (h : IsV w ok u V) (hV : V = .none ∨ ∃ l, V = .bits l) {p : Addr} (hp : w.cell? p = some .nilIface) (x : Value) : IsV (w.setCell p x) (fun _ => True) u V := by
 rcases hV with rfl | ⟨l, rfl⟩
 ·cases h; exact .none
 ·exact h.bits_set hp (.inl rfl) x
set_option maxHeartbeats 8000000 in
theorem fotwo_calls {okA okB : Nat → Prop} (f : Int) (uA uB : Value) (A B : VV) (w : World) (hA : IsV w okA uA A) (hB' : IsV w okB uB B) (oA : A.ok) (oB : B.ok) (nA : A.nm) (nB : B.nm) (hT : TabAt w) :
  Calls Tryz.prog 93 #[.int .i64 f, .agg #[uA], .agg #[uB]] w fun e w' => ∃ u, e = .returned (.tuple #[.agg #[u], .int .i64 (twE f A B)]) ∧ IsV w' (fun _ => True) u (twV f A B) ∧ Below w.heap.size w w' := by
 have hsa := hA.store
 have hsb := hB'.store
 obtain ⟨W1, hW1⟩ : ∃ W1, W1 = ((w.alloc (.cells #[uA] 25)).alloc (.cells #[uB] 25)).alloc (.cells #[.nilIface] 25) := ⟨_, rfl⟩
 have HB := Lib.hid (show Below w.heap.size w W1 by rw [hW1]; exact ((below_new _ _).alloc (by simp) _).alloc (by simp; omega) _)
 have HA := Lib.hid (show At1 W1 w.heap.size uA by rw [hW1]; exact ((At1.new w _ _).below (below_new _ _)).below ((below_new _ _).mono (by simp)))
 have HB2 := Lib.hid (show At1 W1 (w.heap.size + 1) uB by rw [hW1]; have := (At1.new (w.alloc (.cells #[uA] 25)) uB 25).below (below_new _ (.cells #[.nilIface] 25)); simpa using this)
 have HR := Lib.hid (show At1 W1 (w.heap.size + 1 + 1) .nilIface by rw [hW1]; have := At1.new ((w.alloc (.cells #[uA] 25)).alloc (.cells #[uB] 25)) .nilIface 25; simpa using this)
 have HU := Lib.hid (show IsV W1 okA uA A from hA.grow HB.out)
 have HU2 := Lib.hid (show IsV W1 okB uB B from hB'.grow HB.out)
 have HT := Lib.hid (show TabAt W1 from fun j hj => keep_below HB.out _ _ (hT j hj))
 have HOA := Lib.hid oA; have HOB := Lib.hid oB; have HNA := Lib.hid nA; have HNB := Lib.hid nB
 have HWS := Lib.hid (show W1.heap.size = w.heap.size + 3 by rw [hW1]; simp)
 have HW1 := Lib.hid (Below.refl W1.heap.size W1)
 have hfold := hW1.symm
 clear hA hB' hT oA oB nA nB hW1
 by_cases h1 : 1 ≤ f ∧ f ≤ 8
 ·have D1 := Lib.hid (show decide (1 ≤ f ∧ f ≤ 8) = true from decide_eq_true h1)
  have D2 := Lib.hid (show decide (11 ≤ f ∧ f ≤ 16) = false from decide_eq_false (by omega))
  have HEQ := Lib.hid (tw_a h1 A B)
  clear h1; have cHA0 := HA.out.2.1; have cHB20 := HB2.out.2.1; have cHR0 := HR.out.2.1; have zHR0 := HR.out.2.2 0
  go_enter Tryz.func93, Tryz.ntmps93
  go_wp2_with (first | ((with_reducible refine (foreck_calls _ _).mono ?_); rintro e w' ⟨rfl, rfl⟩; rw [D1.out]) | ((with_reducible refine (forel_calls _ _).mono ?_); rintro e w' ⟨rfl, rfl⟩; rw [D2.out]))
  clear hfold; have HWQ := Lib.hid HW1.out.size
  refine (arapply_calls f _ _ A B _ HU.out HU2.out HOA.out HOB.out HNA.out HNB.out HT.out).mono ?_
  rintro e W11 ⟨uq, rfl, huq, hB⟩
  clear cHA0 cHB20 cHR0 zHR0; replace HB := cb hB HB; replace HW1 := cb hB HW1; replace HT := HT.go hB; replace HU := HU.go hB; replace HU2 := HU2.go hB; replace HA := HA.go hB; replace HB2 := HB2.go hB; replace HR := HR.go hB
  rw [← HEQ.out.1]
  rw [← HEQ.out.2] at huq
  have HQ := Lib.hid huq; have hsq := huq.store; clear huq; clear hB; have cHA0 := HA.out.2.1; have cHB20 := HB2.out.2.1; have cHR0 := HR.out.2.1; have zHR0 := HR.out.2.2 0
  go_wp2_with fail
  refine bodyPost_ret (v := .tuple #[.agg #[uq], .int .i64 (twE f A B)]) (by simp [results, Tryz.results93, go_sem, cHR0]) rfl ⟨uq, rfl, ?_, HB.out.setCell (by show w.heap.size ≤ w.heap.size + 1 + 1; omega) _⟩
  exact (HQ.out.keep (Kept.setCell _ _ _ (by have := HWS.out; have := HWQ.out; simp; omega)) (fun _ _ h => h)).any
 by_cases h2 : 11 ≤ f ∧ f ≤ 16
 ·have D1 := Lib.hid (show decide (1 ≤ f ∧ f ≤ 8) = false from decide_eq_false h1)
  have D2 := Lib.hid (show decide (11 ≤ f ∧ f ≤ 16) = true from decide_eq_true h2)
  have HEQ := Lib.hid (tw_r h2 A B)
  clear h1 h2; have cHA0 := HA.out.2.1; have cHB20 := HB2.out.2.1; have cHR0 := HR.out.2.1; have zHR0 := HR.out.2.2 0
  go_enter Tryz.func93, Tryz.ntmps93
  go_wp2_with (first | ((with_reducible refine (foreck_calls _ _).mono ?_); rintro e w' ⟨rfl, rfl⟩; rw [D1.out]) | ((with_reducible refine (forel_calls _ _).mono ?_); rintro e w' ⟨rfl, rfl⟩; rw [D2.out]))
  clear hfold; have HWQ := Lib.hid HW1.out.size
  refine (reapply_calls f _ _ A B _ HU.out HU2.out HOA.out HOB.out HNA.out HNB.out HT.out).mono ?_
  rintro e W11 ⟨uq, rfl, huq, hB⟩
  clear cHA0 cHB20 cHR0 zHR0; replace HB := cb hB HB; replace HW1 := cb hB HW1; replace HT := HT.go hB; replace HU := HU.go hB; replace HU2 := HU2.go hB; replace HA := HA.go hB; replace HB2 := HB2.go hB; replace HR := HR.go hB
  rw [← HEQ.out.1]
  rw [← HEQ.out.2] at huq
  have HQ := Lib.hid huq; have hsq := huq.store; clear huq; clear hB; have cHA0 := HA.out.2.1; have cHB20 := HB2.out.2.1; have cHR0 := HR.out.2.1; have zHR0 := HR.out.2.2 0
  go_wp2_with fail
  refine bodyPost_ret (v := .tuple #[.agg #[uq], .int .i64 (twE f A B)]) (by simp [results, Tryz.results93, go_sem, cHR0]) rfl ⟨uq, rfl, ?_, HB.out.setCell (by show w.heap.size ≤ w.heap.size + 1 + 1; omega) _⟩
  exact HQ.out.bn_set (by rw [HEQ.out.2]; exact reV_bits f A B) HR.out.2.1 _
 have D1 := Lib.hid (show decide (1 ≤ f ∧ f ≤ 8) = false from decide_eq_false h1)
 have D2 := Lib.hid (show decide (11 ≤ f ∧ f ≤ 16) = false from decide_eq_false h2)
 have HEQ := Lib.hid (tw_l h1 h2 A B)
 clear h1 h2; have cHA0 := HA.out.2.1; have cHB20 := HB2.out.2.1; have cHR0 := HR.out.2.1; have zHR0 := HR.out.2.2 0
 go_enter Tryz.func93, Tryz.ntmps93
 go_wp2_with (first | ((with_reducible refine (foreck_calls _ _).mono ?_); rintro e w' ⟨rfl, rfl⟩; rw [D1.out]) | ((with_reducible refine (forel_calls _ _).mono ?_); rintro e w' ⟨rfl, rfl⟩; rw [D2.out]))
 clear hfold; have HWQ := Lib.hid HW1.out.size
 refine (loapply_calls f _ _ A B _ HU.out HU2.out HOA.out HOB.out HNA.out HNB.out HT.out).mono ?_
 rintro e W11 ⟨uq, rfl, huq, hB⟩
 clear cHA0 cHB20 cHR0 zHR0; replace HB := cb hB HB; replace HW1 := cb hB HW1; replace HT := HT.go hB; replace HU := HU.go hB; replace HU2 := HU2.go hB; replace HA := HA.go hB; replace HB2 := HB2.go hB; replace HR := HR.go hB
 rw [← HEQ.out.1]
 rw [← HEQ.out.2] at huq
 have HQ := Lib.hid huq; have hsq := huq.store; clear huq; clear hB; have cHA0 := HA.out.2.1; have cHB20 := HB2.out.2.1; have cHR0 := HR.out.2.1; have zHR0 := HR.out.2.2 0
 go_wp2_with fail
 refine bodyPost_ret (v := .tuple #[.agg #[uq], .int .i64 (twE f A B)]) (by simp [results, Tryz.results93, go_sem, cHR0]) rfl ⟨uq, rfl, ?_, HB.out.setCell (by show w.heap.size ≤ w.heap.size + 1 + 1; omega) _⟩
 exact HQ.out.bn_set (by rw [HEQ.out.2]; exact loV_bits f A B) HR.out.2.1 _
end Go.Proofs.YtbacchbcanlciaaGreatDoor

namespace Go.Proofs.YtbacchbcanlciaaGreatDoor
set_option maxRecDepth 100000
open Go.RowKit Fl
set_option linter.unusedVariables false

set_option maxHeartbeats 4000000 in
theorem fosized_calls (outer n inner : Nat) (w : World) (h : outer * n * inner ≤ 1048576) (hn : n ≤ 1048576) (hi : inner ≤ 1048576) (ho : outer ≤ 1048576) (hoi : outer * inner ≤ 1048576) :
  Calls Tryz.prog 44 #[.int .i64 ((outer * n * inner : Nat) : Int), .int .i64 (outer : Int), .int .i64 (n : Int), .int .i64 (inner : Int)] w fun e w' => e = .returned (.bool true) ∧ w = w' := by
 obtain ⟨D, hD⟩ : ∃ D, outer * inner = D := ⟨_, rfl⟩
 obtain ⟨B, hB⟩ : ∃ B, outer * n = B := ⟨_, rfl⟩
 obtain ⟨C, hC⟩ : ∃ C, B * inner = C := ⟨_, rfl⟩
 have hb : B ≤ 1099511627776 := by rw [← hB]; exact Nat.mul_le_mul ho hn
 rw [hB, hC] at h ⊢
 rw [hD] at hoi
 have q1 : IntKind.i64.wrap ((outer : Int) * (inner : Int)) = (D : Int) := by rw [← Int.natCast_mul, hD]; exact IntWalk.i64_in _ (by omega)
 have q2 : IntKind.i64.wrap ((outer : Int) * (n : Int)) = (B : Int) := by rw [← Int.natCast_mul, hB]; exact IntWalk.i64_in _ (by omega)
 have q3 : IntKind.i64.wrap ((B : Int) * (inner : Int)) = (C : Int) := by rw [← Int.natCast_mul, hC]; exact IntWalk.i64_in _ (by omega)
 clear hD hB hC
 go_enter Tryz.func44, Tryz.ntmps44
 go_wp2
 all_goals
  go_ret
  exact ⟨rfl, rfl⟩
end Go.Proofs.YtbacchbcanlciaaGreatDoor

namespace Go.Proofs.YtbacchbcanlciaaGreatDoor
set_option maxRecDepth 100000
open Go.RowKit Fl
set_option linter.unusedVariables false

theorem zip_rep (t : Nat) (p : List Bool) (b : Bool) : List.zipWith (tab t) p (List.replicate p.length b) = p.map fun x => tab t x b := by
 apply List.ext_getElem (by simp)
 intro i h1 h2
 simp
theorem zip_sett (t : Nat) (p : List Bool) : List.zipWith (tab 9) (p.map fun x => tab t x false) (p.map fun x => tab t x true) = p.map (settB t) := by
 apply List.ext_getElem (by simp)
 intro i h1 h2
 simp only [List.getElem_zipWith, List.getElem_map, settB]
 cases tab t _ false <;> cases tab t _ true <;> decide
theorem zip_flip (t : Nat) (p : List Bool) : List.zipWith (tab 4) (p.map fun x => tab t x false) (p.map fun x => tab t x true) = p.map (flipB t) := by
 apply List.ext_getElem (by simp)
 intro i h1 h2
 simp only [List.getElem_zipWith, List.getElem_map, flipB]
 cases tab t _ false <;> cases tab t _ true <;> decide
end Go.Proofs.YtbacchbcanlciaaGreatDoor

namespace Go.Proofs.YtbacchbcanlciaaGreatDoor
set_option maxRecDepth 100000
open Go.RowKit Fl
set_option linter.unusedVariables false

end Go.Proofs.YtbacchbcanlciaaGreatDoor

namespace Go.Proofs.YtbacchbcanlciaaGreatDoor
set_option maxRecDepth 100000
open Go.RowKit Fl
set_option linter.unusedVariables false

end Go.Proofs.YtbacchbcanlciaaGreatDoor

namespace Go.Proofs.YtbacchbcanlciaaGreatDoor
set_option maxRecDepth 100000
open Go.RowKit Fl
set_option linter.unusedVariables false

def TriedF (f : Int) (P : List (List Nat)) (w : World) (e : Ending) (w' : World) : Prop :=
 ∃ u r, e = .returned (.tuple #[.agg #[u], .bool r]) ∧ ((r = true ∧ errG (rowN f) P = 0 ∧ IsV w' (fun b => w.heap.size ≤ b) u (sqL (outG (rowN f) P))) ∨ (r = false ∧ u = .nilIface)) ∧ Below w.heap.size w w'
end Go.Proofs.YtbacchbcanlciaaGreatDoor

namespace Go.Proofs.YtbacchbcanlciaaGreatDoor
set_option maxRecDepth 100000
open Go.RowKit Fl
set_option linter.unusedVariables false

theorem start_seven {f : Int} (k : Nat) (hk : k < 7) : (([1, 2, 7, 11, 15, 16, 22] : List Int).getD k 0 = f → fstart f = (0, true)) ∧ (([3, 4, 8, 12, 13, 14, 21] : List Int).getD k 0 = f → fstart f = (4607182418800017408, true)) := by
 have : k = 0 ∨ k = 1 ∨ k = 2 ∨ k = 3 ∨ k = 4 ∨ k = 5 ∨ k = 6 := by omega
 rcases this with rfl | rfl | rfl | rfl | rfl | rfl | rfl <;> exact ⟨fun h => by subst h; rfl, fun h => by subst h; rfl⟩
theorem start_rest {f : Int} (h : ∀ j, j < 7 → ([1, 2, 7, 11, 15, 16, 22] : List Int).getD j 0 ≠ f ∧ ([3, 4, 8, 12, 13, 14, 21] : List Int).getD j 0 ≠ f) : fstart f = if f = 5 then (18442240474082181119, true) else if f = 6 then (9218868437227405311, true) else (0, false) := by
 have h0 := h 0 (by omega); have h1 := h 1 (by omega); have h2 := h 2 (by omega); have h3 := h 3 (by omega)
 have h4 := h 4 (by omega); have h5 := h 5 (by omega); have h6 := h 6 (by omega)
 simp only [List.getD_cons_zero, List.getD_cons_succ] at h0 h1 h2 h3 h4 h5 h6
 unfold fstart
 rw [if_neg (by omega), if_neg (by omega)]
theorem ret_start {p : Nat × Bool} {a : Nat} {b : Bool} (h : p = (a, b)) : Ending.returned (.tuple #[.float .f64 a, .bool b]) = .returned (.tuple #[.float .f64 p.1, .bool p.2]) := by rw [h]
set_option maxHeartbeats 4000000 in
theorem rfstart_calls (f : Int) (w : World) : Calls Tryz.prog 72 #[.int .i64 f] w fun e w' => e = .returned (.tuple #[.float .f64 (fstart f).1, .bool (fstart f).2]) ∧ Below w.heap.size w w' := by
 obtain ⟨W0, hW0⟩ : ∃ W0, W0 = w.alloc (.cells #[.int .i64 1, .int .i64 2, .int .i64 7, .int .i64 11, .int .i64 15, .int .i64 16, .int .i64 22] 3) := ⟨_, rfl⟩
 obtain ⟨W1, hW1⟩ : ∃ W1, W1 = W0.alloc (.cells #[.int .i64 3, .int .i64 4, .int .i64 8, .int .i64 12, .int .i64 13, .int .i64 14, .int .i64 21] 3) := ⟨_, rfl⟩
 have HB0 : Below w.heap.size w W0 := by rw [hW0]; exact below_new _ _
 have HB1 : Below W0.heap.size W0 W1 := by rw [hW1]; exact below_new _ _
 have hsz : W0.heap.size = w.heap.size + 1 := by rw [hW0]; simp
 have HB := Lib.hid (HB0.trans (HB1.mono HB0.size))
 have HZ := Lib.hid (show Slc W1 (fun _ => True) (.slice (some ⟨w.heap.size, 0, none⟩) 7 7) ([1, 2, 7, 11, 15, 16, 22] : List Int).length (([1, 2, 7, 11, 15, 16, 22] : List Int).map (Value.int .i64)) by
  refine Slc.below (w := W0) ?_ HB1
  rw [hW0]; exact (Slc.owned (World.ownsRow_lit (base := 0) (e := 3) (size := 1) w #[.int .i64 1, .int .i64 2, .int .i64 7, .int .i64 11, .int .i64 15, .int .i64 16, .int .i64 22] 7 (Nat.zero_le _) (by unfold maxLen; omega) rfl)).keep (Kept.refl _ _) (fun _ _ _ => trivial))
 have HO := Lib.hid (show Slc W1 (fun _ => True) (.slice (some ⟨w.heap.size + 1, 0, none⟩) 7 7) ([3, 4, 8, 12, 13, 14, 21] : List Int).length (([3, 4, 8, 12, 13, 14, 21] : List Int).map (Value.int .i64)) by
  rw [hW1, ← hsz]; exact (Slc.owned (World.ownsRow_lit (base := 0) (e := 3) (size := 1) W0 #[.int .i64 3, .int .i64 4, .int .i64 8, .int .i64 12, .int .i64 13, .int .i64 14, .int .i64 21] 7 (Nat.zero_le _) (by unfold maxLen; omega) rfl)).keep (Kept.refl _ _) (fun _ _ _ => trivial))
 have hfold : (w.alloc (.cells #[.int .i64 1, .int .i64 2, .int .i64 7, .int .i64 11, .int .i64 15, .int .i64 16, .int .i64 22] 3)).alloc (.cells #[.int .i64 3, .int .i64 4, .int .i64 8, .int .i64 12, .int .i64 13, .int .i64 14, .int .i64 21] 3) = W1 := by rw [hW1, hW0]
 clear hW1 HB1 HB0; clear hW0 hsz
 go_enter Tryz.func72, Tryz.ntmps72
 go_wp2_with fail
 clear hfold; clear W0
 go_loopw [6] (fun i wr => ∃ k : Nat, k ≤ 7 ∧ i = .int .i64 k ∧ (∀ j, j < k → ([1, 2, 7, 11, 15, 16, 22] : List Int).getD j 0 ≠ f ∧ ([3, 4, 8, 12, 13, 14, 21] : List Int).getD j 0 ≠ f) ∧ wr = W1) (fun i _ => 7 - (intOf i).toNat)
 case atStart => exact ⟨0, by omega, rfl, fun j hj => by omega, rfl⟩
 case round =>
  obtain ⟨k, hk, rfl, hno, hw⟩ := hrel
  have HN := Lib.hid hno; clear hno
  subst hw
  by_cases hlt : k < 7
  ·obtain ⟨b1, o1, c1, x, e1, hx, hcx⟩ := Slc.at_map (Value.int .i64) HZ.out k hlt
   cases e1
   obtain ⟨b2, o2, c2, y, e2, hy, hcy⟩ := Slc.at_map (Value.int .i64) HO.out k hlt
   cases e2
   rw [Nat.zero_add] at hcx hcy
   have HX := Lib.hid (show ([1, 2, 7, 11, 15, 16, 22] : List Int).getD k 0 = x by rw [List.getD_eq_getElem?_getD, hx]; rfl)
   have HY := Lib.hid (show ([3, 4, 8, 12, 13, 14, 21] : List Int).getD k 0 = y by rw [List.getD_eq_getElem?_getD, hy]; rfl)
   have HS := Lib.hid (start_seven (f := f) k hlt)
   clear hx hy
   by_cases hxf : x = f
   ·have HE := Lib.hid (HS.out.1 (HX.out.trans hxf))
    have hb : (x == f) = true := by simp [hxf]
    clear hxf
    go_wp2_with fail
    go_ret2
    exact ⟨ret_start HE.out, HB.out⟩
   ·have hb : (x == f) = false := by simp [hxf]
    by_cases hyf : y = f
    ·have HE := Lib.hid (HS.out.2 (HY.out.trans hyf))
     have hb2 : (y == f) = true := by simp [hyf]
     clear hxf hyf
     go_wp2_with fail
     go_ret2
     exact ⟨ret_start HE.out, HB.out⟩
    ·have hb2 : (y == f) = false := by simp [hyf]
     have HN2 := Lib.hid (show ∀ j, j < k + 1 → ([1, 2, 7, 11, 15, 16, 22] : List Int).getD j 0 ≠ f ∧ ([3, 4, 8, 12, 13, 14, 21] : List Int).getD j 0 ≠ f from fun j hj => by
      by_cases h9 : j = k
      ·subst h9; exact ⟨by rw [HX.out]; exact hxf, by rw [HY.out]; exact hyf⟩
      ·exact HN.out j (by omega))
     clear hxf hyf
     go_wp2_with fail
     go_roundw
     case rel => exact ⟨k + 1, by omega, by go_num, HN2.out, trivial⟩
     case measure => simp [intOf]; omega
  ·have hk7 : k = 7 := by omega
   subst hk7
   have HR := Lib.hid (start_rest HN.out)
   by_cases h5 : f = 5
   ·have HE := Lib.hid (show fstart f = (18442240474082181119, true) by rw [HR.out, if_pos h5])
    have hb : (f == 5) = true := by simp [h5]
    clear h5
    go_wp2_with fail
    go_ret2
    exact ⟨ret_start HE.out, HB.out⟩
   ·have hb : (f == 5) = false := by simp [h5]
    by_cases h6 : f = 6
    ·have HE := Lib.hid (show fstart f = (9218868437227405311, true) by rw [HR.out, if_neg h5, if_pos h6])
     have hb2 : (f == 6) = true := by simp [h6]
     clear h5 h6
     go_wp2_with fail
     go_ret2
     exact ⟨ret_start HE.out, HB.out⟩
    ·have HE := Lib.hid (show fstart f = (0, false) by rw [HR.out, if_neg h5, if_neg h6])
     have hb2 : (f == 6) = false := by simp [h6]
     clear h5 h6
     go_wp2_with fail
     go_ret2
     exact ⟨ret_start HE.out, HB.out⟩
end Go.Proofs.YtbacchbcanlciaaGreatDoor

namespace Go.Proofs.YtbacchbcanlciaaGreatDoor
set_option maxRecDepth 100000
open Go.RowKit Fl
set_option linter.unusedVariables false

theorem Slc.dropm {α : Type} (g : α → Value) {w : World} {ok : Nat → Prop} {b off : Nat} {cap : Nat} {s : List α} (h : Slc w ok (.slice (some ⟨b, off, none⟩) s.length cap) s.length (s.map g)) (k : Nat) (hk : k ≤ s.length) : Slc w ok (.slice (some ⟨b, off + k, none⟩) (s.length - k) (cap - k)) (s.drop k).length ((s.drop k).map g) := by
 obtain ⟨⟨h1, ao1, cap1, e1, h3⟩, ao2, cap2, e2, h4, h5⟩ := h
 cases e1; cases e2
 rw [List.length_drop]
 refine ⟨⟨by rw [List.length_map, List.length_drop], _, _, rfl, fun i hi => ?_⟩, _, _, rfl, by omega, by omega⟩
 rw [List.length_map, List.length_drop] at hi
 obtain ⟨b', off', e, hb, hc⟩ := h3 (k + i) (by rw [List.length_map]; omega)
 cases e
 refine ⟨b, off + k, rfl, hb, ?_⟩
 rw [show off + k + i = off + (k + i) by omega, hc]
 simp
theorem pwd_ret {p : Nat × Int} {a : Nat} {e : Int} (h : p = (a, e)) : Ending.returned (.tuple #[.float .f64 a, .int .i64 e]) = .returned (.tuple #[.float .f64 p.1, .int .i64 p.2]) := by rw [h]
set_option maxHeartbeats 4000000 in
theorem foalong_calls {ok : Nat → Prop} (f : Int) (v : Value) (l r : List Nat) (n step : Nat) (w : World) (hv : Slc w ok v l.length (f64s l)) (hn : 0 < n) (hnm : n ≤ 1048576) (hsm : step ≤ 1048576) (hlm : l.length ≤ 1048576) (hin : (n - 1) * step < l.length) (hr : r.length = n) (hrl : ∀ i, i < n → r.getD i 0 = l.getD (i * step) 0) (hN : ∀ x ∈ l, Num x) :
  Calls Tryz.prog 84 #[.int .i64 f, v, .int .i64 (n : Int), .int .i64 (step : Int)] w (Pwd (rowN f r) w) := by
 have hat : ∀ i, i < n → ∃ b off cap, v = .slice (some ⟨b, off, none⟩) l.length cap ∧ w.cell? ⟨b, off + i * step, none⟩ = some (.float .f64 (r.getD i 0)) ∧ Num (r.getD i 0) ∧ i * step < l.length := fun i hi => by
  have h1 : i * step ≤ (n - 1) * step := Nat.mul_le_mul_right _ (by omega)
  obtain ⟨b, off, cap, x, e, hx, hc⟩ := Slc.at_map (Value.float .f64) hv (i * step) (by omega)
  have hx2 : r.getD i 0 = x := by rw [hrl i hi, List.getD_eq_getElem?_getD, hx]; rfl
  exact ⟨b, off, cap, e, by rw [hx2]; exact hc, by rw [hx2]; exact hN x (List.mem_of_getElem? hx), by omega⟩
 obtain ⟨b, off, cap, rfl, hc0, hn0, hl0⟩ := hat (n - 1) (by omega)
 have HAT := Lib.hid (show ∀ i, i < n → w.cell? ⟨b, off + i * step, none⟩ = some (.float .f64 (r.getD i 0)) ∧ Num (r.getD i 0) ∧ i * step < l.length from fun i hi => by
  obtain ⟨b', off', cap', e, h1, h2, h3⟩ := hat i hi
  cases e
  exact ⟨h1, h2, h3⟩)
 have HR := Lib.hid hr
 have HRN := Lib.hid (show ∀ y ∈ r, Num y from fun y hy => by
  obtain ⟨i, hi, e⟩ := List.getElem_of_mem hy
  have h2 := (HAT.out i (by omega)).2.1
  rw [List.getD_eq_getElem?_getD, List.getElem?_eq_getElem hi, e] at h2
  exact h2)
 obtain ⟨m, hm⟩ : ∃ m, n = m + 1 := ⟨n - 1, by omega⟩
 have hnm1 : n - 1 = m := by omega
 rw [hnm1] at hc0 hl0
 have HNM := Lib.hid hm
 obtain ⟨q, hq⟩ : ∃ q, m * step = q := ⟨_, rfl⟩
 rw [hq] at hc0 hl0
 have hm1 : ((n : Int) - 1) = (m : Int) := by omega
 have hm2 : ((n : Int) - 2) = (m : Int) - 1 := by omega
 have hq1 : IntKind.i64.wrap ((m : Int) * (step : Int)) = (q : Int) := by
  rw [← Int.natCast_mul, hq]; exact IntWalk.i64_in _ (by omega)
 have hlast := rowN_last f (l := r) (by omega)
 rw [hr, hnm1] at hlast
 have HL := Lib.hid hlast; have HN := Lib.hid hnm; have HS := Lib.hid hsm; have HLM := Lib.hid hlm; clear hlast hv hrl hN hat hr hin hlm hn hn0 hq hm hnm1
 go_enter Tryz.func84, Tryz.ntmps84
 go_wp2
 go_loopw [10, 11] (fun z i wr => ∃ k : Nat, k ≤ m ∧ i = .int .i64 ((k : Int) - 1) ∧ z = .float .f64 (rowN f (r.drop k)).1 ∧ (rowN f (r.drop k)).2 = 0 ∧ ∃ j, wr = w.drewN j) (fun _ i _ => (intOf i + 1).toNat)
 case atStart => exact ⟨m, Nat.le_refl _, congrArg (Value.int .i64) (by omega), by rw [HL.out, List.getD_eq_getElem?_getD], by rw [HL.out], 0, rfl⟩
 case round =>
  obtain ⟨k, hk, rfl, rfl, hz, j, hw⟩ := hrel
  have HW := Lib.hid hw; have HZ := Lib.hid hz
  have HBW := Lib.hid (show Below w.heap.size w wr by rw [hw]; exact Below.drewN' (Below.refl _ _) j)
  clear hw hz; have hnm := HN.out; have hsm := HS.out; have hlm := HLM.out
  cases k with
  | zero =>
   have e0 : (((0 : Nat) : Int) - 1) = -1 := rfl
   rw [e0]
   rw [List.drop_zero]
   rw [List.drop_zero] at HZ
   go_wp2
   go_ret2
   exact ⟨pwd_ret (Prod.ext rfl HZ.out), j, HW.out⟩
  | succ i =>
   have e1 : (((i + 1 : Nat) : Int) - 1) = (i : Int) := by omega
   obtain ⟨hc, hx, hlt⟩ := HAT.out i (by have := HNM.out; omega)
   have hc := keep_below HBW.out _ _ hc
   obtain ⟨x, hx0⟩ : ∃ x, r.getD i 0 = x := ⟨_, rfl⟩
   obtain ⟨q, hq⟩ : ∃ q, i * step = q := ⟨_, rfl⟩
   obtain ⟨z, hz⟩ : ∃ z, (rowN f (r.drop (i + 1))).1 = z := ⟨_, rfl⟩
   rw [hx0] at hc hx
   rw [hq] at hc hlt
   have HX := Lib.hid hx
   have HZN := Lib.hid (show Num z by rw [← hz]; exact rowN_num fun y hy => HRN.out y (List.mem_of_mem_drop hy))
   have HST := Lib.hid (show rowN f (r.drop i) = nrm (fone f x z) by rw [rowN_step f (l := r) (by have := HR.out; have := HNM.out; omega), if_pos HZ.out, hx0, hz])
   have hq1 : IntKind.i64.wrap ((i : Int) * (step : Int)) = (q : Int) := by
    rw [← Int.natCast_mul, hq]; exact IntWalk.i64_in _ (by omega)
   have HZ0 := Lib.hid hz
   rw [e1, hz]
   clear hx0 hq hz hx
   go_wp2_with fail
   refine (foone_calls f x z _ HX.out HZN.out).mono ?_
   rintro e W9 ⟨rfl, j2, hj⟩
   have HJ := Lib.hid (show W9 = w.drewN (j + j2) by rw [hj, HW.out]; simp [World.drewN, Nat.add_assoc])
   clear hj
   by_cases h0 : (fone f x z).2 = 0
   ·have H0 := Lib.hid h0; rw [h0]; clear h0
    go_wp2
    go_roundw
    case rel => exact ⟨i, by omega, by go_num, by rw [HST.out, nrm_ok H0.out], by rw [HST.out, nrm_ok H0.out], _, HJ.out⟩
    case measure => simp [intOf]
   ·obtain ⟨er, her⟩ : ∃ er, (fone f x z).2 = er := ⟨_, rfl⟩
    have HRB := Lib.hid (show rowN f r = (0, er) by
     have h9 : rowN f (r.drop i) = (0, er) := by rw [HST.out, nrm_bad h0, her]
     rw [rowN_bad f i (by have := HR.out; have := HNM.out; omega) (by rw [h9, ← her]; exact h0), h9])
    have hne : (er != 0) = true := by rw [← her]; simp [h0]
    rw [her]; clear h0 her
    go_wp2
    go_ret2
    exact ⟨pwd_ret HRB.out, _, HJ.out⟩
set_option maxHeartbeats 4000000 in
theorem rfrow_calls {ok : Nat → Prop} (f : Int) (v : Value) (l : List Nat) (w : World) (hv : Slc w ok v l.length (f64s l)) (hlm : l.length ≤ 1048576) (hN : ∀ x ∈ l, Num x) :
  Calls Tryz.prog 37 #[.int .i64 f, v] w fun e w' => e = .returned (.tuple #[.float .f64 (rowN f l).1, .int .i64 (rowN f l).2]) ∧ Below w.heap.size w w' := by
 have HRN := Lib.hid hN; have HLM := Lib.hid hlm
 by_cases h0 : l.length = 0
 ·obtain ⟨ao, cap, rfl, _⟩ := hv.opened
  have hl : l = [] := List.length_eq_zero_iff.1 h0
  subst hl
  clear hv h0 hN hlm
  obtain ⟨s, hs⟩ : ∃ s, fstart f = s := ⟨_, rfl⟩
  have HS := Lib.hid hs
  cases h2 : s.2
  ·have HR := Lib.hid (show rowN f [] = (0, 24) by unfold rowN; rw [hs, h2]; rfl)
   have HS2 := Lib.hid h2; clear hs h2
   go_enter Tryz.func37, Tryz.ntmps37
   go_wp2_with ((with_reducible refine (rfstart_calls _ _).mono ?_); rintro e w' ⟨rfl, hB⟩; rw [HS.out, HS2.out])
   go_ret2
   exact ⟨pwd_ret HR.out, hB⟩
  ·have HR := Lib.hid (show rowN f [] = (s.1, 0) by unfold rowN; rw [hs, h2]; rfl)
   have HS2 := Lib.hid h2; clear hs h2
   go_enter Tryz.func37, Tryz.ntmps37
   go_wp2_with ((with_reducible refine (rfstart_calls _ _).mono ?_); rintro e w' ⟨rfl, hB⟩; rw [HS.out, HS2.out])
   go_ret2
   exact ⟨pwd_ret HR.out, hB⟩
 ·obtain ⟨n, hn⟩ : ∃ n, l.length = n := ⟨_, rfl⟩
  obtain ⟨m, hm⟩ : ∃ m, n = m + 1 := ⟨n - 1, by omega⟩
  obtain ⟨b, off, cap, x, e0, hx0, hc0⟩ := Slc.at_map (Value.float .f64) hv m (by omega)
  subst e0
  have HV := Lib.hid hv
  have hlast := rowN_last f (l := l) (by omega)
  have hnm1 : l.length - 1 = m := by omega
  rw [hnm1] at hlast
  have HL := Lib.hid (show rowN f (l.drop m) = (x, 0) by rw [hlast, List.getD_eq_getElem?_getD, hx0]; rfl)
  have HNM := Lib.hid hm; have HN := Lib.hid hn
  have hm1 : ((n : Int) - 1) = (m : Int) := by omega
  have hm2 : ((n : Int) - 2) = (m : Int) - 1 := by omega
  have hb0 : ((n : Int) == 0) = false := by rw [beq_eq_false_iff_ne]; omega
  have hmn : m < n := by omega
  have hnle : n ≤ 1048576 := by omega
  rw [hn] at HV ⊢
  clear hv h0 hN hx0 hlast hnm1 hm hlm hn
  go_enter Tryz.func37, Tryz.ntmps37
  go_wp2_with fail
  go_loopw [8, 9] (fun z i wr => ∃ k : Nat, k ≤ m ∧ i = .int .i64 ((k : Int) - 1) ∧ z = .float .f64 (rowN f (l.drop k)).1 ∧ (rowN f (l.drop k)).2 = 0 ∧ Below w.heap.size w wr) (fun _ i _ => (intOf i + 1).toNat)
  case atStart => exact ⟨m, Nat.le_refl _, congrArg (Value.int .i64) (by omega), by rw [HL.out], by rw [HL.out], Below.refl _ _⟩
  case round =>
   obtain ⟨k, hk, rfl, rfl, hz, hw⟩ := hrel
   have HZ := Lib.hid hz; have HBW := Lib.hid hw; clear hw hz
   cases k with
   | zero =>
    have e0 : (((0 : Nat) : Int) - 1) = -1 := rfl
    rw [e0]
    rw [List.drop_zero]
    rw [List.drop_zero] at HZ
    go_wp2
    go_ret2
    exact ⟨pwd_ret (Prod.ext rfl HZ.out), HBW.out⟩
   | succ i =>
    have e1 : (((i + 1 : Nat) : Int) - 1) = (i : Int) := by omega
    have hin : i < n := by omega
    obtain ⟨b', off', cap', y, e2, hy, hc⟩ := Slc.at_map (Value.float .f64) (l := l) (show Slc w ok _ l.length (l.map _) by rw [HN.out]; exact HV.out) i (by rw [HN.out]; exact hin)
    cases e2
    have hc := keep_below HBW.out _ _ hc
    obtain ⟨z, hz⟩ : ∃ z, (rowN f (l.drop (i + 1))).1 = z := ⟨_, rfl⟩
    have HX := Lib.hid (HRN.out y (List.mem_of_getElem? hy))
    have HZN := Lib.hid (show Num z by rw [← hz]; exact rowN_num fun y hy => HRN.out y (List.mem_of_mem_drop hy))
    have HST := Lib.hid (show rowN f (l.drop i) = nrm (fone f y z) by rw [rowN_step f (l := l) (by have := HN.out; have := HNM.out; omega), if_pos HZ.out, hz, List.getD_eq_getElem?_getD, hy]; rfl)
    have HIL := Lib.hid (show i < l.length by rw [HN.out]; exact hin)
    rw [e1, hz]
    clear hz hy
    go_wp2_with fail
    refine (rfone_calls f y z _ HX.out HZN.out).mono ?_
    rintro e W9 ⟨rfl, j2, hj⟩
    have HJ := Lib.hid (show Below w.heap.size w W9 by rw [hj]; exact Below.drewN' HBW.out j2)
    clear hj
    by_cases h0 : (fone f y z).2 = 0
    ·have H0 := Lib.hid h0; rw [h0]; clear h0
     go_wp2
     go_roundw
     case rel => exact ⟨i, by omega, by go_num, by rw [HST.out, nrm_ok H0.out], by rw [HST.out, nrm_ok H0.out], HJ.out⟩
     case measure => simp [intOf]
    ·obtain ⟨er, her⟩ : ∃ er, (fone f y z).2 = er := ⟨_, rfl⟩
     have HRB := Lib.hid (show rowN f l = (0, er) by
      have h9 : rowN f (l.drop i) = (0, er) := by rw [HST.out, nrm_bad h0, her]
      rw [rowN_bad f i HIL.out (by rw [h9, ← her]; exact h0), h9])
     have hne : (er != 0) = true := by rw [← her]; simp [h0]
     rw [her]; clear h0 her
     go_wp2
     go_ret2
     exact ⟨pwd_ret HRB.out, HJ.out⟩
end Go.Proofs.YtbacchbcanlciaaGreatDoor

namespace Go.Proofs.YtbacchbcanlciaaGreatDoor
set_option maxRecDepth 100000
open Go.RowKit
set_option linter.unusedVariables false

theorem bmul64_calls (c : Nat) (hc : c ≤ 1048576) (w : World) : Calls Tryz.prog 142 #[.int .u64 1, .int .u64 (c : Int)] w fun e w' => e = .returned (.tuple #[.int .u64 0, .int .u64 (c : Int)]) ∧ w = w' := by
  have a1 : bits BinOp.and IntKind.u64 1 4294967295 = 1 := by decide +kernel
  have a2 : bits BinOp.and IntKind.u64 (c : Int) 4294967295 = (c : Int) := by
    have h := u64_and_nat c 4294967295 (by omega) (by decide)
    have e : c &&& 4294967295 = c := by
      have := Nat.and_two_pow_sub_one_eq_mod c 32
      rw [show (2 : Nat) ^ 32 - 1 = 4294967295 by decide] at this
      rw [this]; exact Nat.mod_eq_of_lt (by omega)
    rw [e] at h
    exact h
  have a3 : ((c : Int) / 4294967296) = 0 := by omega
  go_enter Tryz.func142, Tryz.ntmps142
  go_wp2
  go_ret2
  exact ⟨rfl, rfl⟩
theorem bmul_calls (c : Nat) (hc : c ≤ 1048576) (w : World) : Calls Tryz.prog 112 #[.int .u64 1, .int .u64 (c : Int)] w fun e w' => e = .returned (.tuple #[.int .u64 0, .int .u64 (c : Int)]) ∧ w = w' := by
  have HC := Lib.hid hc
  go_enter Tryz.func112, Tryz.ntmps112
  go_wp2_with ((with_reducible refine (bmul64_calls c HC.out _).mono ?_); rintro e w' ⟨rfl, rfl⟩)
  go_ret2
  exact ⟨rfl, rfl⟩
def repF (x c n : Nat) : List Value := List.replicate n (.float .f64 x) ++ List.replicate (c - n) (.float .f64 0)
theorem repF_len (x c n : Nat) (h : n ≤ c) : (repF x c n).length = c := by simp [repF]; omega
theorem repF_full (x c : Nat) : repF x c c = List.replicate c (.float .f64 x) := by simp [repF]
theorem repF_zero (x c : Nat) : repF x c 0 = List.replicate c (.float .f64 0) := by simp [repF]
theorem repF_splice (x c n k : Nat) (h : n + k ≤ c) : splice (repF x c n) n (List.replicate k (.float .f64 x)) = repF x c (n + k) := by
  unfold splice repF
  rw [List.take_left' (by simp), List.length_replicate, ← List.append_assoc, List.replicate_append_replicate, List.drop_append, List.drop_eq_nil_of_le (by simp), List.nil_append, List.drop_replicate]
  congr 2
  simp; omega
theorem repF_get (x c n : Nat) {j : Nat} (hj : j < n) : (repF x c n)[j]? = some (.float .f64 x) := by
  unfold repF
  rw [List.getElem?_append_left (by simpa using hj), List.getElem?_replicate, if_pos hj]
theorem lt_heap {w : World} {g : Nat} {o : Obj} (h : w.heap[g]? = some o) : g < w.heap.size := (Array.getElem?_eq_some_iff.1 h).1
theorem row_cell {w : World} {g j : Nat} {l : List Value} {t : TypeId} {u : Value} (h : w.heap[g]? = some (.cells l.toArray t (0, 0))) (hj : l[j]? = some u) : w.cell? ⟨g, j, none⟩ = some u := by
  simp [World.cell?, h, hj]
theorem add_cell {w : World} {b off j : Nat} {u : Value} (h : w.cell? ⟨b, off + j, none⟩ = some u) : w.cell? ((⟨b, off, none⟩ : Addr).add j) = some u := by
  by_cases h0 : j = 0
  · subst h0; simpa [Addr.add] using h
  · simpa [Addr.add, h0] using h
set_option maxHeartbeats 4000000 in
theorem srepeat_calls {ok : Nat → Prop} (v : Value) (x c : Nat) (w : World) (hv : Slc w ok v 1 [.float .f64 x]) (hc : c ≤ 1048576) :
    Calls Tryz.prog 77 #[v, .int .i64 (c : Int)] w fun e w' => ∃ v', e = .returned v' ∧ Slc w' (fun b => w.heap.size ≤ b) v' c (List.replicate c (.float .f64 x)) ∧ Below w.heap.size w w' := by
  obtain ⟨ao, cap, rfl, h1, h2, h3, h4⟩ := hv.opened
  obtain ⟨b, off, rfl, hok, hx⟩ := h4 0 (by simp)
  simp only [Nat.add_zero, List.getElem_cons_zero] at hx
  have HX := Lib.hid hx; have HC := Lib.hid hc
  have hmk := run_mkF1 c (by omega) w
  obtain ⟨i0, hi, hz0, hz1, hz2⟩ := info_parts info_f64
  have HSZ := Lib.hid (show (Tryz.prog.info? 42).map (·.size) = some 1 by rw [hi]; simp [hz1])
  clear hi hz0 hz1 hz2
  obtain ⟨W0, hW0⟩ : ∃ W0, W0 = w.alloc (.cells (zerosV (.float .f64 0) c) 42) := ⟨_, rfl⟩
  have HB0 := Lib.hid (show Below w.heap.size w W0 by rw [hW0]; exact below_new _ _)
  have HG0 := Lib.hid (show W0.heap[w.heap.size]? = some (.cells (repF x c 0).toArray 42 (0, 0)) by
    have e : zerosV (.float .f64 0) c = (List.replicate c (Value.float .f64 0)).toArray := Array.toList_inj.1 (by rw [zerosV, toList_madeCells_one]; simp)
    rw [hW0, repF_zero, e]
    simp only [World.alloc, Array.getElem?_push_size])
  have HX0 := Lib.hid (keep_below HB0.out _ _ HX.out)
  obtain ⟨k, hk⟩ : ∃ k, Nat.min 1 c = k := ⟨_, rfl⟩
  have hkc : k ≤ c := by rw [← hk]; exact Nat.min_le_right _ _
  have HK1 := Lib.hid (show k ≤ 1 by rw [← hk]; exact Nat.min_le_left _ _)
  have HKC := Lib.hid (show 0 < c → 0 < k by intro h; rw [← hk]; show 0 < min 1 c; omega)
  obtain ⟨cs, hcs⟩ : ∃ cs : List Value, List.replicate k (.float .f64 x) = cs := ⟨_, rfl⟩
  have HCL := Lib.hid (show cs.length = Nat.min 1 c by rw [← hcs, List.length_replicate, hk])
  have HCE := Lib.hid (show cs.length = k by rw [← hcs, List.length_replicate])
  have HCQ := Lib.hid (show ∀ (j : Nat) (u : Value), cs[j]? = some u → W0.cell? ⟨b, off + j, none⟩ = some u by
    intro j u hj
    obtain ⟨h9, h8⟩ := List.getElem?_eq_some_iff.1 hj
    have hj0 : j = 0 := by rw [← hcs, List.length_replicate] at h9; have := HK1.out; omega
    subst hj0
    have : u = .float .f64 x := by rw [← h8]; simp [← hcs]
    rw [this]
    exact HX0.out)
  have HCF := Lib.hid (show 0 + cs.length ≤ (repF x c 0).length by rw [HCE.out, repF_len x c 0 (by omega)]; omega)
  have HC1 := Lib.hid (show ∀ u ∈ cs, u.oneCell' = true by rw [← hcs]; intro u hu; rw [(List.mem_replicate.1 hu).2]; rfl)
  have HSP := Lib.hid (show splice (repF x c 0) 0 cs = repF x c k by rw [← hcs]; have := repF_splice x c 0 k (by omega); rwa [Nat.zero_add] at this)
  clear hv h1 h2 h3 h4 hok hx hcs hk
  have hfold := hW0.symm
  clear hW0
  go_enter Tryz.func77, Tryz.ntmps77
  go_wp2_with (first | ((with_reducible refine (bmul_calls c HC.out _).mono ?_); rintro e w' ⟨rfl, rfl⟩) | ((with_reducible show wpList _ _ _ ({ dst := some 33, op := _, type := _, pos := _, after := _, guard := _ } :: _) _ _); go_must (refine wpList_copy_splice rfl (.tmp 31) (.tmp 32) 22 22 rfl 42 Tryz.underlying22 HSZ.out _ _ c c 1 cap rfl rfl w.heap.size 0 (repF x c 0) 42 HG0.out cs HCL.out (fun _ => ⟨rfl, _, rfl, fun j u hj => add_cell (HCQ.out j u hj)⟩) HCF.out HC1.out w.heap.size w HB0.out (Nat.le_refl _) ?_)))
  intro w2 HG2 hB2
  rw [HCE.out]
  rw [HSP.out] at HG2
  have HB2 := Lib.hid hB2; clear hB2 hfold hmk; clear HX0 HCQ HCF HC1 HCL HCE
  go_wp2
  go_loopw [8] (fun nn wr => ∃ n : Nat, n ≤ c ∧ (0 < c → 0 < n) ∧ nn = .int .i64 n ∧ Hid (wr.heap[w.heap.size]? = some (.cells (repF x c n).toArray 42 (0, 0))) ∧ Below w.heap.size w wr) (fun nn _ => c - (intOf nn).toNat)
  case atStart => exact ⟨k, hkc, HKC.out, rfl, HG2, HB2.out⟩
  case round =>
    obtain ⟨n, hn, hpos, rfl, HG, hB⟩ := hrel
    have HB := Lib.hid hB; have HP := Lib.hid hpos; clear hB hpos
    by_cases hlt : n < c
    · obtain ⟨q, hq⟩ : ∃ q, Nat.min n (c - n) = q := ⟨_, rfl⟩
      have hn0 : 0 < n := HP.out (by omega)
      have hq0 : 0 < q := by rw [← hq]; show 0 < min n (c - n); omega
      have hqc : n + q ≤ c := by have : q ≤ c - n := by rw [← hq]; exact Nat.min_le_right _ _
                                 omega
      obtain ⟨cs2, hcs⟩ : ∃ cs2 : List Value, List.replicate q (.float .f64 x) = cs2 := ⟨_, rfl⟩
      have HCE := Lib.hid (show cs2.length = q by rw [← hcs, List.length_replicate])
      have HCQ := Lib.hid (show ∀ (j : Nat) (u : Value), cs2[j]? = some u → wr.cell? ⟨w.heap.size, 0 + j, none⟩ = some u by
        intro j u hj
        obtain ⟨h9, h8⟩ := List.getElem?_eq_some_iff.1 hj
        have hjq : j < q := by rw [← hcs, List.length_replicate] at h9; exact h9
        have : u = .float .f64 x := by rw [← h8]; simp [← hcs]
        rw [this, Nat.zero_add]
        exact row_cell HG.out (repF_get x c n (by have : q ≤ n := (by rw [← hq]; exact Nat.min_le_left _ _); omega)))
      have HS0 := Lib.hid (show wr.cell? ⟨w.heap.size, 0, none⟩ = some (.float .f64 x) from row_cell HG.out (repF_get x c n hn0))
      have HC1 := Lib.hid (show ∀ u ∈ cs2, u.oneCell' = true by rw [← hcs]; intro u hu; rw [(List.mem_replicate.1 hu).2]; rfl)
      have HSP := Lib.hid (show splice (repF x c n) n cs2 = repF x c (n + q) by rw [← hcs]; exact repF_splice x c n q hqc)
      have HHQ := Lib.hid hq
      obtain ⟨e, he⟩ : ∃ e, c - n = e := ⟨_, rfl⟩
      have HQE := Lib.hid (show cs2.length = Nat.min n e by rw [HCE.out, ← he, hq])
      have HCF := Lib.hid (show n + cs2.length ≤ (repF x c n).length by rw [HCE.out, repF_len x c n hn]; exact hqc)
      clear hcs hq
      go_wp2_with fail
      --TREE
      have hcn : (c = n) = False := eq_false (by omega)
      have HGO := Lib.hid HG.out; have HBW := Lib.hid HB.out
      obtain ⟨W11, hWD, hB⟩ := drwn wr
      replace HS0 := Lib.hid (keep_below hB _ _ HS0.out)
      replace HB := cb hB HB
      replace HG := Lib.hid ((hB.block _ (lt_heap HG.out)).trans HG.out)
      replace HCQ := Lib.hid (fun j u hj => keep_below hB _ _ (HCQ.out j u hj))
      clear hB
      refine rgn (S := fun w' => w'.cell? ⟨w.heap.size, 0, none⟩ = some (.float .f64 x)) hWD HS0.out (fun hHeld => ?_)
      clear hWD; apply tk 0; apply tk 1; apply tk 2; apply tk 3; apply tk 4; apply tk 5; apply tk 6
      apply rdy 7; intro K hK; clear hHeld
      refine step_copy_splice rfl (.tmp 41) (.tmp 44) 22 22 rfl 42 Tryz.underlying22 HSZ.out (some ⟨w.heap.size, n, none⟩) (some ⟨w.heap.size, 0, none⟩) e e n c rfl rfl w.heap.size n (repF x c n) 42 HG.out cs2 HQE.out (fun _ => ⟨rfl, _, rfl, fun j u hj => add_cell (HCQ.out j u hj)⟩) HCF.out HC1.out w.heap.size w HB.out (Nat.le_refl _) ?_
      intro w4 HG4 hB4
      rw [HSP.out] at HG4
      rw [HCE.out]; have HB4 := Lib.hid hB4
      have HS4 := Lib.hid (show w4.cell? ⟨w.heap.size, 0, none⟩ = some (.float .f64 x) from row_cell HG4.out (repF_get x c (n + q) (by omega)))
      clear hB4
      refine hK.out _ _ HS4.out (fun hHeld => ?_)
      clear hK K; apply tk 8; apply tk 9
      refine wpAnyH_done (by kernel_rfl) ?_ _
      clear hHeld
      have hw : IntKind.i64.wrap ((n : Int) + (q : Int)) = ((n + q : Nat) : Int) := by rw [IntWalk.i64_in _ (by omega)]; omega
      go_wp2
      go_roundw
      case rel => exact ⟨n + q, hqc, fun _ => by omega, congrArg (Value.int .i64) (by rw [IntWalk.i64_in _ (by omega)]; omega), HG4, HB4.out⟩
      case measure => simp [intOf]; omega
      --END
    · have hnc : n = c := by omega
      have HL := Lib.hid (show Slc wr (fun b => w.heap.size ≤ b) (.slice (some ⟨w.heap.size, 0, none⟩) c c) c (List.replicate c (.float .f64 x)) by
        rw [hnc, repF_full] at HG
        refine ⟨⟨by simp, _, _, rfl, fun i hi => ⟨_, _, rfl, Nat.le_refl _, ?_⟩⟩, _, _, rfl, Nat.le_refl _, by have := HC.out; unfold maxLen; omega⟩
        rw [Nat.zero_add]
        exact row_cell HG.out (List.getElem?_eq_getElem hi))
      clear hnc
      go_wp2
      go_ret
      exact ⟨_, rfl, HL.out, HB.out⟩
end Go.Proofs.YtbacchbcanlciaaGreatDoor

namespace Go.Proofs.YtbacchbcanlciaaGreatDoor
set_option maxRecDepth 100000
open Go.RowKit Fl
set_option linter.unusedVariables false

set_option maxHeartbeats 4000000 in
theorem fonone_calls (f : Int) (rows : Nat) (w : World) (hr : rows ≤ 1048576) (hT : TabAt w) :
  Calls Tryz.prog 45 #[.int .i64 f, .int .i64 (rows : Int)] w fun e w' => ∃ u, e = .returned (.tuple #[.agg #[u], .int .i64 (if (fstart f).2 = true then 0 else 24)]) ∧ IsV w' (fun b => w.heap.size ≤ b) u (if (fstart f).2 = true then sqL (List.replicate rows (fstart f).1) else .none) ∧ Below w.heap.size w w' := by
 have HRM := Lib.hid hr
 obtain ⟨s, hs⟩ : ∃ s, fstart f = s := ⟨_, rfl⟩
 have HS := Lib.hid hs; rw [hs]
 have HSN := Lib.hid (show Num s.1 by rw [← hs]; exact fstart_num f)
 obtain ⟨W1, hW1⟩ : ∃ W1, W1 = w.alloc (.cells #[.nilIface] 25) := ⟨_, rfl⟩
 have HB := Lib.hid (show Below w.heap.size w W1 by rw [hW1]; exact below_new _ _)
 have HR := Lib.hid (show At1 W1 w.heap.size .nilIface by rw [hW1]; exact At1.new w _ _)
 have HT := Lib.hid (show TabAt W1 from fun j hj => keep_below HB.out _ _ (hT j hj))
 have HWS := Lib.hid (show W1.heap.size = w.heap.size + 1 by rw [hW1]; simp)
 have HW1 := Lib.hid (Below.refl W1.heap.size W1)
 have hfold := hW1.symm
 clear hW1 hT hs hr
 cases h2 : s.2
 ·have HS2 := Lib.hid h2; have cHR0 := HR.out.2.1; have zHR0 := HR.out.2.2 0
  have HE := Lib.hid (show (if s.2 = true then (0 : Int) else 24) = 24 by rw [HS2.out]; rfl)
  have HV := Lib.hid (show (if s.2 = true then sqL (List.replicate rows s.1) else VV.none) = VV.none by rw [HS2.out]; rfl)
  clear h2
  go_enter Tryz.func45, Tryz.ntmps45
  go_wp2_with ((with_reducible refine (fostart_calls _ _).mono ?_); rintro e w' ⟨rfl, rfl⟩; rw [HS.out, HS2.out])
  refine bodyPost_ret (v := .tuple #[.agg #[.nilIface], .int .i64 24]) (by simp [results, Tryz.results45, go_sem, cHR0]) rfl ⟨.nilIface, rfl, .none, HB.out.setCell (Nat.le_refl _) _⟩
 ·have HS2 := Lib.hid h2
  have HF := Lib.hid (fun x (hx : x ∈ List.replicate rows s.1) => (show Num x by rw [(List.mem_replicate.1 hx).2]; exact HSN.out))
  clear h2; have cHR0 := HR.out.2.1; have zHR0 := HR.out.2.2 0
  go_enter Tryz.func45, Tryz.ntmps45
  go_wp2_with ((with_reducible refine (fostart_calls _ _).mono ?_); rintro e w' ⟨rfl, rfl⟩; rw [HS.out, HS2.out])
  clear hfold
  obtain ⟨W11, hWn⟩ : ∃ xw9, W1.alloc (.cells #[.float .f64 s.1] 42) = xw9 := ⟨_, rfl⟩
  have hB : Below W1.heap.size W1 W11 := by rw [← hWn]; exact below_new _ _
  have hNB : Slc W11 (fun _ => True) (.slice (some ⟨W1.heap.size, 0, none⟩) 1 1) 1 ([.float .f64 s.1]) := by
   rw [← hWn]; exact (Slc.owned (World.ownsRow_lit (base := 0) (e := 42) (size := 1) W1 #[.float .f64 s.1] 1 (Nat.zero_le _) (by unfold maxLen; omega) rfl)).keep (Kept.refl _ _) (fun _ _ _ => trivial)
  rw [hWn]; clear hWn; clear cHR0 zHR0; replace HB := cb hB HB; replace HT := HT.go hB; replace HW1 := cb hB HW1; replace HR := HR.go hB; have HX := Lib.hid hNB; clear hNB hB
  refine (srepeat_calls _ s.1 rows _ HX.out HRM.out).mono ?_
  rintro e W12 ⟨vr, rfl, hvr, hB⟩
  replace HB := cb hB HB; replace HT := HT.go hB; replace HW1 := cb hB HW1; replace HR := HR.go hB; replace HX := HX.go hB
  have HRP := Lib.hid (show Slc W12 (fun _ => True) vr (List.replicate rows s.1).length (f64s (List.replicate rows s.1)) by
   rw [List.length_replicate]; unfold f64s; rw [List.map_replicate]; exact hvr.any)
  clear hvr; clear hB; have cHR0 := HR.out.2.1; have zHR0 := HR.out.2.2 0
  go_wp2_with fail
  have hO := HW1.out.size
  refine (numbers_yes _ (List.replicate rows s.1) _ HRP.out (by rw [List.length_replicate]; exact HRM.out) (fun x hx => (HF.out x hx).1) HT.out).mono ?_
  rintro e W13 ⟨uq, rfl, huq, hB⟩
  clear cHR0 zHR0; replace HB := cb hB HB; replace HT := HT.go hB; replace HW1 := cb hB HW1; replace HR := HR.go hB; replace HX := HX.go hB; replace HRP := HRP.go hB
  rw [map_ze HF.out] at huq
  have HQ := Lib.hid (show IsV W13 (fun b => w.heap.size + 1 ≤ b) uq (sqL (List.replicate rows s.1)) from huq.wide (fun b _ (h : W12.heap.size ≤ b) => by have := HWS.out; omega))
  have hsq := huq.store; clear huq hO; clear hB
  obtain ⟨W14, hWn, hB, hNB⟩ := ahd1 W13 (uq) 25
  replace HB := cb hB HB; replace HT := HT.go hB; replace HW1 := cb hB HW1; replace HR := HR.go hB; replace HX := HX.go hB; replace HRP := HRP.go hB; replace HQ := HQ.go hB; have HQV := Lib.hid hNB; clear hNB hB; have cHR0 := HR.out.2.1; have zHR0 := HR.out.2.2 0; have cHQV0 := HQV.out.2.1
  go_wp2_with fail
  clear hWn
  refine bodyPost_ret (v := .tuple #[.agg #[uq], .int .i64 0]) (by simp [results, Tryz.results45, go_sem, cHR0]) rfl ⟨uq, rfl, ?_, HB.out.setCell (Nat.le_refl _) _⟩
  exact HQ.out.keep (Kept.setCell _ _ _ (by simp)) (fun b _ (h : w.heap.size + 1 ≤ b) => by omega)
end Go.Proofs.YtbacchbcanlciaaGreatDoor

namespace Go.Proofs.YtbacchbcanlciaaGreatDoor
set_option maxRecDepth 100000
open Go.RowKit Fl
set_option linter.unusedVariables false

set_option maxHeartbeats 8000000 in
theorem fonumbers_calls {ok : Nat → Prop} (f : Int) (v : Value) (l : List Nat) (outer n inner : Nat) (w : World) (hv : Slc w ok v l.length (f64s l)) (hl : l.length = outer * n * inner) (hlm : l.length ≤ 1048576) (hN : ∀ x ∈ l, Num x) (hn : 0 < n) (hnm : n ≤ 1048576) (him : inner ≤ 1048576) (hom : outer ≤ 1048576) (hoi : outer * inner ≤ 1048576) (hT : TabAt w) :
  Calls Tryz.prog 47 #[.int .i64 f, v, .int .i64 (outer : Int), .int .i64 (n : Int), .int .i64 (inner : Int)] w fun e w' => ∃ u, e = .returned (.tuple #[.agg #[u], .int .i64 (errG (rowN f) (rowsL l outer n inner))]) ∧ IsV w' (fun b => w.heap.size ≤ b) u (if errG (rowN f) (rowsL l outer n inner) = 0 then sqL (outG (rowN f) (rowsL l outer n inner)) else .none) ∧ Below w.heap.size w w' := by
 obtain ⟨P, hP⟩ : ∃ P, rowsL l outer n inner = P := ⟨_, rfl⟩
 obtain ⟨E, hEE⟩ : ∃ E : Int, E = errG (rowN f) P := ⟨_, rfl⟩
 obtain ⟨R, hRR⟩ : ∃ R : VV, R = (if errG (rowN f) P = 0 then sqL (outG (rowN f) P) else .none) := ⟨_, rfl⟩
 rw [hP, ← hRR, ← hEE]
 have HRR := Lib.hid hRR; have HEE := Lib.hid hEE; have HV := Lib.hid hv
 have HPL := Lib.hid (show P.length = outer * inner by rw [← hP, rowsL_len])
 have HPG := Lib.hid (show ∀ o k, o < outer → k < inner → P[o * inner + k]? = some (lineG 0 l n inner o k) by intro o k ho hk; rw [← hP]; exact rowsL_get ho hk)
 have HPN := Lib.hid (show ∀ r ∈ P, Num (rowN f r).1 by rw [← hP]; exact rowsL_num hN)
 have HLL := Lib.hid (And.intro hl hlm)
 have HNM := Lib.hid hN; have HIM := Lib.hid him; have HNN := Lib.hid hnm; have HN0 := Lib.hid hn; have HOM := Lib.hid hom
 obtain ⟨D, hD⟩ : ∃ D, outer * inner = D := ⟨_, rfl⟩
 rw [hD] at hoi HPL
 have qD : IntKind.i64.wrap ((outer : Int) * (inner : Int)) = (D : Int) := by rw [← Int.natCast_mul, hD]; exact IntWalk.i64_in _ (by omega)
 have HDE := Lib.hid hD; have HDM := Lib.hid hoi
 obtain ⟨i0, hi, hz0, hz1, hz2⟩ := info_parts info_f64
 have HI0 := Lib.hid (And.intro hi (And.intro hz0 (And.intro hz1 hz2)))
 have HDY := Lib.hid (show i0.bytes * D ≤ 281474976710656 by rw [hz2]; omega)
 have HDX := Lib.hid (show D ≤ maxLen by unfold maxLen; omega)
 obtain ⟨ao, cap, rfl, _⟩ := hv.opened
 have hst := run_store_float
 obtain ⟨W1, hW1⟩ : ∃ W1, W1 = w.alloc (.cells #[.nilIface] 25) := ⟨_, rfl⟩
 have HB := Lib.hid (show Below w.heap.size w W1 by rw [hW1]; exact below_new _ _)
 have HR := Lib.hid (show At1 W1 w.heap.size .nilIface by rw [hW1]; exact At1.new w _ _)
 have HT := Lib.hid (show TabAt W1 from fun j hj => keep_below HB.out _ _ (hT j hj))
 have HWS := Lib.hid (show W1.heap.size = w.heap.size + 1 by rw [hW1]; simp)
 replace HV := Lib.hid (HV.out.below HB.out)
 obtain ⟨bk, hbk⟩ : ∃ bk, W1.heap.size = bk := ⟨_, rfl⟩
 have HBK := Lib.hid hbk
 have hfold := hW1.symm
 clear hW1 hT hv hl hlm hN hn hnm him hom hoi hP hEE hRR hD hi hz0 hz1 hz2 hbk; have cHR0 := HR.out.2.1; have zHR0 := HR.out.2.2 0
 go_enter Tryz.func47, Tryz.ntmps47
 go_wp2_with ((with_reducible refine wpList_make_own _ rfl _ _ 22 rfl bk 42 i0 (.float .f64 0) 1 Tryz.underlying22 HI0.out.1 HI0.out.2.1 HI0.out.2.2.1 .i64 .i64 _ D rfl rfl rfl HDY.out HDX.out (Nat.le_of_eq HBK.out.symm) ?_))
 clear hfold
 intro W2 hown hgr
 have HO := Lib.hid hown
 have hB : Below W1.heap.size W1 W2 := (Below.refl _ _).grown hgr (Nat.le_refl _) (fun k hk => by cases hk)
 have HK := Lib.hid hB; clear hown hgr hB qD cHR0 zHR0
 go_wp2_with fail
 go_loopw [12, 24] (fun v i wr => ∃ o A : Nat, o ≤ outer ∧ i = .int .i64 o ∧ A = o * inner ∧ errG (rowN f) P = errG (rowN f) (P.drop A) ∧ wr.ownsRow bk 42 1 v A (f64s (outG (rowN f) (P.take A))) ∧ Below W1.heap.size W1 wr) (fun _ i _ => outer - (intOf i).toNat)
 case atStart => exact ⟨0, 0, by omega, rfl, (Nat.zero_mul _).symm, rfl, HO.out, HK.out⟩
 case round =>
  obtain ⟨o, A, ho, rfl, hA, herr, hown, hB⟩ := hrel
  have HO := Lib.hid hown; have HK := Lib.hid hB; have HE := Lib.hid herr; have HA := Lib.hid hA; clear hown hB herr hA
  by_cases hlo : o < outer
  ·have HLO := Lib.hid hlo
   go_wp2_with fail
   go_loopw [12, 28] (fun v i wr => ∃ k q : Nat, k ≤ inner ∧ i = .int .i64 k ∧ q = A + k ∧ errG (rowN f) P = errG (rowN f) (P.drop q) ∧ wr.ownsRow bk 42 1 v q (f64s (outG (rowN f) (P.take q))) ∧ Below W1.heap.size W1 wr) (fun _ i _ => inner - (intOf i).toNat)
   case atStart => exact ⟨0, A, by omega, rfl, rfl, HE.out, HO.out, HK.out⟩
   case round =>
    obtain ⟨k, q, hk, rfl, hq, herr, hown, hB⟩ := hrel
    have HO := Lib.hid hown; have HK := Lib.hid hB; have HE := Lib.hid herr; have HQ := Lib.hid hq; clear hown hB herr hq
    by_cases hlt : k < inner
    ·have HPQ := Lib.hid (show P[q]? = some (lineG 0 l n inner o k) by rw [HQ.out, HA.out]; exact HPG.out o k HLO.out hlt)
     have HVW := Lib.hid (HV.out.below HK.out)
     have HRW := Lib.hid (HR.out.below HK.out)
     have hlm := HLL.out.2; have hn0 := HN0.out
     obtain ⟨r, hr⟩ : ∃ r, lineG 0 l n inner o k = r := ⟨_, rfl⟩
     have HRN := Lib.hid (show r.length = n by rw [← hr, lineG_len])
     obtain ⟨X, hX⟩ : ∃ X, o * n = X := ⟨_, rfl⟩
     obtain ⟨Y, hY⟩ : ∃ Y, X * inner = Y := ⟨_, rfl⟩
     obtain ⟨Z, hZ⟩ : ∃ Z, Y + k = Z := ⟨_, rfl⟩
     have hpl := place_lt (o := o) (i := n - 1) (k := k) HLO.out (show n - 1 < n by omega) hlt
     rw [← HLL.out.1, hX, Nat.add_mul, hY] at hpl
     have hXm : X ≤ Y := by rw [← hY]; exact Nat.le_mul_of_pos_right _ (by omega)
     have hZl : Z < l.length := by omega
     have HIN := Lib.hid (show (n - 1) * inner < (l.drop Z).length by rw [List.length_drop]; omega)
     have HRD := Lib.hid (show ∀ i, i < n → r.getD i 0 = (l.drop Z).getD (i * inner) 0 from fun i hi => by
      rw [← hr, lineG_get 0 l n inner o k hi, hX, Nat.add_mul, hY]
      simp only [List.getD_eq_getElem?_getD, List.getElem?_drop]
      rw [show Y + i * inner + k = Z + i * inner by omega])
     rw [hr] at HPQ
     obtain ⟨y, hy⟩ : ∃ y, rowN f r = y := ⟨_, rfl⟩
     have HY := Lib.hid hy
     have HES := Lib.hid (show errG (rowN f) (P.drop q) = if y.2 = 0 then errG (rowN f) (P.drop (q + 1)) else y.2 by rw [← hy]; exact errG_step HPQ.out)
     have HTK := Lib.hid (show outG (rowN f) (P.take (q + 1)) = outG (rowN f) (P.take q) ++ [y.1] by rw [← hy]; exact outG_take HPQ.out)
     obtain ⟨b, off, cap', x9, e9, hx9, hc9⟩ := Slc.at_map (Value.float .f64) HVW.out Z hZl
     cases e9
     have hcap := HVW.out.2
     obtain ⟨ao8, cap8, e8, hcap1, hcap2⟩ := hcap
     cases e8
     have hcz : (cap = Z) = False := eq_false (by omega)
     have HVD := Lib.hid (Slc.dropm (Value.float .f64) HVW.out Z (by omega))
     have HDN := Lib.hid (show ∀ x ∈ l.drop Z, Num x from fun x hx => HNM.out x (List.mem_of_mem_drop hx))
     have HDL := Lib.hid (show (l.drop Z).length ≤ 1048576 by rw [List.length_drop]; omega)
     have q1 : IntKind.i64.wrap ((o : Int) * (n : Int)) = (X : Int) := by rw [← Int.natCast_mul, hX]; exact IntWalk.i64_in _ (by omega)
     have q2 : IntKind.i64.wrap ((X : Int) * (inner : Int)) = (Y : Int) := by rw [← Int.natCast_mul, hY]; exact IntWalk.i64_in _ (by omega)
     have q3 : IntKind.i64.wrap ((Y : Int) + (k : Int)) = (Z : Int) := by rw [← Int.natCast_add, hZ]; exact IntWalk.i64_in _ (by omega)
     clear hr hy hX hY hZ hpl hXm hx9 hc9
     go_wp2_with fail
     refine (foalong_calls f _ (l.drop Z) r n inner _ HVD.out hn0 HNN.out HIM.out HDL.out HIN.out HRN.out HRD.out HDN.out).mono ?_
     rintro e W9 ⟨rfl, mm, hm⟩
     rw [HY.out]
     have HO9 := Lib.hid (show W9.ownsRow bk 42 1 _ q (f64s (outG (rowN f) (P.take q))) by rw [hm]; exact HO.out.drewN' mm)
     have HK9 := Lib.hid (show Below W1.heap.size W1 W9 by rw [hm]; exact Below.drewN' HK.out mm)
     have HB9 := Lib.hid (HB.out.trans (HK9.out.mono HB.out.size))
     have HRW9 := Lib.hid (HR.out.below HK9.out)
     have HSW := Lib.hid HK9.out.size; clear hm; have cHR0 := HRW9.out.2.1; have zHR0 := HRW9.out.2.2 0
     by_cases h0 : y.2 = 0
     ·have HE2 := Lib.hid (show errG (rowN f) P = errG (rowN f) (P.drop (q + 1)) by rw [HE.out, HES.out, if_pos h0])
      have HQM := Lib.hid (show q + 1 ≤ 1048576 by
       obtain ⟨h9, _⟩ := List.getElem?_eq_some_iff.1 HPQ.out
       have := HPL.out; have := HDM.out; omega)
      have HM1 : Hid (q + 1 ≤ maxLen) := Lib.hid (by have := HQM.out; unfold maxLen; omega)
      have HBQ := Lib.hid (show bk ≤ W9.heap.size by have := HSW.out; have := HBK.out; omega)
      rw [h0]; clear h0
      go_wp2_with (at_builtin; refine wpList_append_own _ rfl _ _ 22 rfl bk 42 i0 (.float .f64 0) 1 8 Tryz.underlying22 HI0.out.1 HI0.out.2.1 HI0.out.2.2.1 HI0.out.2.2.2 rfl (by decide) _ _ _ rfl (HO9.out.alloc _) ⟨W9.heap.size, 0, none⟩ 1 1 [.float .f64 y.1] rfl rfl ?c1 ?c2 HM1.out ?c4 ?c5 ?_)
      case c1 =>
       intro j u hj
       match j, hj with
       | 0, hj => simp at hj; subst hj; simp [Addr.add]
      case c2 => intro u hu; simp at hu; subst hu; rfl
      case c4 => have := HQM.out; omega
      case c5 => have := HBQ.out; simp <;> omega
      intro v' w3 hown' hgrow _
      have HO3 := Lib.hid hown'
      have HK3 := Lib.hid (grown_below (HK9.out.alloc HSW.out _) (HO9.out.alloc _) (Nat.le_of_eq HBK.out) (by have := HSW.out; simp <;> omega) hgrow)
      clear hown' hgrow cHR0 zHR0
      have him := HIM.out
      go_wp2
      go_roundw
      case rel =>
       refine ⟨k + 1, q + 1, by omega, by go_num, by have := HQ.out; omega, HE2.out, ?_, HK3.out⟩
       have := HO3.out
       rw [HTK.out]
       simpa [f64s] using this
      case measure => simp [intOf]; omega
     ·obtain ⟨er, her⟩ : ∃ er, y.2 = er := ⟨_, rfl⟩
      have HE2 := Lib.hid (show errG (rowN f) P = er by rw [HE.out, HES.out, if_neg h0, her])
      have hne : (er != 0) = true := by rw [← her]; simp [h0]
      have HNE := Lib.hid (show er ≠ 0 by rw [← her]; exact h0)
      rw [her]; clear h0 her
      go_wp2
      refine bodyPost_ret (v := .tuple #[.agg #[.nilIface], .int .i64 er]) (by simp [results, Tryz.results47, go_sem, cHR0]) rfl ⟨.nilIface, ?_, ?_, HB9.out.setCell (Nat.le_refl _) _⟩
      ·rw [HEE.out, HE2.out]
      ·rw [HRR.out, HE2.out, if_neg HNE.out]; exact .none
    ·have hki : k = inner := by omega
     have HQ2 := Lib.hid (show q = (o + 1) * inner by rw [HQ.out, hki, HA.out, Nat.add_mul, Nat.one_mul])
     clear hki; have hom := HOM.out
     go_wp2
     go_roundw
     case rel => exact ⟨o + 1, q, by omega, by go_num, HQ2.out, HE.out, HO.out, HK.out⟩
     case measure => simp [intOf]; omega
  ·have hoo : o = outer := by omega
   have HAL := Lib.hid (show A = P.length by rw [HPL.out, HA.out, hoo, HDE.out])
   have HE2 := Lib.hid (show errG (rowN f) P = 0 by rw [HE.out, HAL.out, List.drop_length]; rfl)
   obtain ⟨L, hL⟩ : ∃ L, outG (rowN f) P = L := ⟨_, rfl⟩
   have HLL2 := Lib.hid (show L.length = P.length by rw [← hL, outG_len])
   have HLN := Lib.hid (show ∀ x ∈ L, Num x by rw [← hL]; exact outG_num HPN.out)
   have HRE := Lib.hid (show R = sqL L by rw [HRR.out, if_pos HE2.out, hL])
   have HLS := Lib.hid (show Slc wr (fun b => bk ≤ b) u12 L.length (f64s L) by
    have := Slc.owned HO.out
    rw [HAL.out, List.take_length, hL] at this
    rw [HLL2.out]; exact this)
   have HLM := Lib.hid (show L.length ≤ 1048576 by rw [HLL2.out, HPL.out]; exact HDM.out)
   clear hoo hL
   obtain ⟨ax, cx, rfl, _⟩ := HLS.out.opened
   have HB2 := Lib.hid (HB.out.trans (HK.out.mono HB.out.size))
   have HRW := Lib.hid (HR.out.below HK.out)
   have HTW := Lib.hid (show TabAt wr from fun j hj => keep_below HK.out _ _ (HT.out j hj))
   have HSW := Lib.hid HK.out.size
   go_wp2_with fail
   refine (numbers_yes _ L _ HLS.out HLM.out (fun x hx => (HLN.out x hx).1) HTW.out).mono ?_
   rintro e W11 ⟨uq, rfl, huq, hB⟩
   replace HB2 := cb hB HB2; replace HRW := HRW.go hB
   rw [map_ze HLN.out] at huq
   have HQ := Lib.hid (show IsV W11 (fun b => w.heap.size + 1 ≤ b) uq (sqL L) from huq.wide (fun b _ (h : wr.heap.size ≤ b) => by have := HWS.out; have := HSW.out; omega))
   have hsq := huq.store; clear huq; clear hB
   obtain ⟨W12, hWn, hB, hNB⟩ := ahd1 W11 (uq) 25
   replace HB2 := cb hB HB2; replace HRW := HRW.go hB; replace HQ := HQ.go hB; have HQV := Lib.hid hNB; clear hNB hB; have cHRW0 := HRW.out.2.1; have zHRW0 := HRW.out.2.2 0; have cHQV0 := HQV.out.2.1
   go_wp2_with fail
   clear hWn
   refine bodyPost_ret (v := .tuple #[.agg #[uq], .int .i64 0]) (by simp [results, Tryz.results47, go_sem, cHRW0]) rfl ⟨uq, ?_, ?_, HB2.out.setCell (Nat.le_refl _) _⟩
   ·rw [HEE.out, HE2.out]
   ·rw [HRE.out]
    exact HQ.out.keep (Kept.setCell _ _ _ (by simp)) (fun b _ (h : w.heap.size + 1 ≤ b) => by omega)
end Go.Proofs.YtbacchbcanlciaaGreatDoor

namespace Go.Proofs.YtbacchbcanlciaaGreatDoor
set_option maxRecDepth 100000
open Go.RowKit Fl
set_option linter.unusedVariables false

end Go.Proofs.YtbacchbcanlciaaGreatDoor

namespace Go.Proofs.YtbacchbcanlciaaGreatDoor
set_option maxRecDepth 100000
open Go.RowKit Fl
set_option linter.unusedVariables false

theorem lineG_take {α : Type} (d : α) (l : List α) (n inner o k : Nat) {i : Nat} (h : i < n) : (lineG d l n inner o k).take (i + 1) = (lineG d l n inner o k).take i ++ [l.getD ((o * n + i) * inner + k) d] := by
 have h1 : i < (lineG d l n inner o k).length := by rw [lineG_len]; exact h
 rw [List.take_succ_eq_append_getElem h1]
 congr 2
 simp [lineG]
set_option maxHeartbeats 4000000 in
theorem rfline_calls {ok : Nat → Prop} (v : Value) (l : List Nat) (outer n inner o k : Nat) (w : World) (hv : Slc w ok v l.length (f64s l)) (hl : l.length = outer * n * inner) (hlm : l.length ≤ 1048576) (ho : o < outer) (hk : k < inner) (hnm : n ≤ 1048576) (him : inner ≤ 1048576) (hom : outer ≤ 1048576) :
  Calls Tryz.prog 36 #[v, .int .i64 (outer : Int), .int .i64 (n : Int), .int .i64 (inner : Int), .int .i64 (o : Int), .int .i64 (k : Int)] w fun e w' => ∃ v', e = .returned v' ∧ Slc w' (fun b => w.heap.size ≤ b) v' n (f64s (lineG 0 l n inner o k)) ∧ Below w.heap.size w w' := by
 obtain ⟨R, hR⟩ : ∃ R, lineG 0 l n inner o k = R := ⟨_, rfl⟩
 have HRL := Lib.hid (show R.length = n by rw [← hR, lineG_len])
 have HTK := Lib.hid (show ∀ i, i < n → R.take (i + 1) = R.take i ++ [l.getD ((o * n + i) * inner + k) 0] from fun i hi => by rw [← hR]; exact lineG_take 0 l n inner o k hi)
 rw [hR]; clear hR
 obtain ⟨i0, hi, hz0, hz1, hz2⟩ := info_parts info_f64
 have HI0 := Lib.hid (And.intro hi (And.intro hz0 (And.intro hz1 hz2)))
 clear hi hz0 hz1 hz2
 obtain ⟨ao, cap, rfl, _⟩ := hv.opened
 have HV := Lib.hid hv
 have hst := run_store_float
 have HPL := Lib.hid (show ∀ i, i < n → (o * n + i) * inner + k < l.length from fun i hi => by rw [hl]; exact place_lt ho hi hk)
 have HLM := Lib.hid hlm; have HKI := Lib.hid hk; clear hv hl hlm ho
 go_enter Tryz.func36, Tryz.ntmps36
 go_wp2_with fail
 go_loopw [13, 14] (fun v i wr => ∃ j : Nat, j ≤ n ∧ i = .int .i64 j ∧ wr.ownsRow w.heap.size 42 1 v j (f64s (R.take j)) ∧ Below w.heap.size w wr) (fun _ i _ => n - (intOf i).toNat)
 case atStart => exact ⟨0, by omega, rfl, World.ownsRow_nil _ _ _ _, Below.refl _ _⟩
 case round =>
  obtain ⟨j, hj, rfl, hown, hB⟩ := hrel
  have HO := Lib.hid hown; have HB := Lib.hid hB; clear hown hB
  by_cases hlt : j < n
  ·have hd := HPL.out j hlt
   have hlm := HLM.out
   obtain ⟨A, hA⟩ : ∃ A, o * n = A := ⟨_, rfl⟩
   rw [hA] at hd
   obtain ⟨B, hBB⟩ : ∃ B, A + j = B := ⟨_, rfl⟩
   rw [hBB] at hd
   obtain ⟨C, hC⟩ : ∃ C, B * inner = C := ⟨_, rfl⟩
   have hBC : B ≤ C := by rw [← hC]; exact Nat.le_mul_of_pos_right _ (by omega)
   rw [hC] at hd
   obtain ⟨D, hD⟩ : ∃ D, C + k = D := ⟨_, rfl⟩
   rw [hD] at hd
   obtain ⟨b, off, cap', x, e0, hx, hcx⟩ := Slc.at_map (Value.float .f64) HV.out D hd
   cases e0
   have hcx := keep_below HB.out _ _ hcx
   have q1 : IntKind.i64.wrap ((o : Int) * (n : Int)) = (A : Int) := by rw [← Int.natCast_mul, hA]; exact IntWalk.i64_in _ (by omega)
   have q2 : IntKind.i64.wrap ((A : Int) + (j : Int)) = (B : Int) := by rw [← Int.natCast_add, hBB]; exact IntWalk.i64_in _ (by omega)
   have q3 : IntKind.i64.wrap ((B : Int) * (inner : Int)) = (C : Int) := by rw [← Int.natCast_mul, hC]; exact IntWalk.i64_in _ (by omega)
   have q4 : IntKind.i64.wrap ((C : Int) + (k : Int)) = (D : Int) := by rw [← Int.natCast_add, hD]; exact IntWalk.i64_in _ (by omega)
   have HT := Lib.hid (show R.take (j + 1) = R.take j ++ [x] by rw [HTK.out j hlt, hA, hBB, hC, hD, List.getD_eq_getElem?_getD, hx]; rfl)
   have HM1 : Hid (j + 1 ≤ maxLen) := Lib.hid (by unfold maxLen; omega)
   have HSW := Lib.hid HB.out.size; clear hA hBB hC hD hx hBC
   go_wp2_with (at_builtin; refine wpList_append_own _ rfl _ _ 22 rfl w.heap.size 42 i0 (.float .f64 0) 1 8 Tryz.underlying22 HI0.out.1 HI0.out.2.1 HI0.out.2.2.1 HI0.out.2.2.2 rfl (by decide) _ _ _ rfl (HO.out.alloc _) ⟨wr.heap.size, 0, none⟩ 1 1 [.float .f64 x] rfl rfl ?c1 ?c2 HM1.out ?c4 ?c5 ?_)
   case c1 =>
    intro j u hj
    match j, hj with
    | 0, hj => simp at hj; subst hj; simp [Addr.add]
   case c2 => intro u hu; simp at hu; subst hu; rfl
   case c4 => omega
   case c5 => have := HSW.out; simp <;> omega
   intro v' w3 hown' hgrow _
   have HO3 := Lib.hid hown'
   have HB3 := Lib.hid (grown_below (HB.out.alloc HSW.out _) (HO.out.alloc _) (Nat.le_refl _) (by have := HSW.out; simp <;> omega) hgrow)
   clear hown' hgrow
   go_wp2
   go_roundw
   case rel =>
    refine ⟨j + 1, by omega, by go_num, ?_, HB3.out⟩
    have := HO3.out
    rw [HT.out]
    simpa [f64s] using this
   case measure => simp [intOf]; omega
  ·have hjn : j = n := by omega
   have HL := Lib.hid (show Slc wr (fun b => w.heap.size ≤ b) _ n (f64s R) by
    have := Slc.owned HO.out
    rw [hjn, ← HRL.out, List.take_length, HRL.out] at this
    exact this)
   clear hjn
   go_wp2
   go_ret
   exact ⟨_, rfl, HL.out, HB.out⟩
end Go.Proofs.YtbacchbcanlciaaGreatDoor

namespace Go.Proofs.YtbacchbcanlciaaGreatDoor
set_option maxRecDepth 100000
open Go.RowKit Fl
set_option linter.unusedVariables false

theorem rfL_bad {f : Int} {l : List Nat} {outer n inner : Nat} (h : rfE f l outer n inner ≠ 0) : rfL f l outer n inner = [] := if_neg h
end Go.Proofs.YtbacchbcanlciaaGreatDoor

namespace Go.Proofs.YtbacchbcanlciaaGreatDoor
set_option maxRecDepth 100000
open Go.RowKit Fl
set_option linter.unusedVariables false

end Go.Proofs.YtbacchbcanlciaaGreatDoor

namespace Go.Proofs.YtbacchbcanlciaaGreatDoor
set_option maxRecDepth 100000
open Go.RowKit Fl
set_option linter.unusedVariables false

theorem Slc.takem {α : Type} (g : α → Value) {w : World} {ok : Nat → Prop} {ao : Option Addr} {cap : Nat} {s : List α} (h : Slc w ok (.slice ao s.length cap) s.length (s.map g)) (k : Nat) (hk : k ≤ s.length) : Slc w ok (.slice ao k cap) (s.take k).length ((s.take k).map g) := by
 obtain ⟨⟨h1, ao1, cap1, e1, h3⟩, ao2, cap2, e2, h4, h5⟩ := h
 cases e1; cases e2
 have hl : (s.take k).length = k := by rw [List.length_take]; omega
 rw [hl]
 refine ⟨⟨by rw [List.length_map, hl], _, _, rfl, fun i hi => ?_⟩, _, _, rfl, by omega, h5⟩
 rw [List.length_map, hl] at hi
 obtain ⟨b', off', e, hb, hc⟩ := h3 i (by rw [List.length_map]; omega)
 refine ⟨b', off', e, hb, ?_⟩
 rw [hc]
 simp
theorem fo_meet {f : Int} {V : VV} {t : List Nat} {outer n inner : Nat} (hV : KepK t V) (hl : t.length = outer * n * inner) (hs : outer * inner ≤ 1048576) :
  foE f V outer n inner = rfE f t outer n inner ∧ (rfE f t outer n inner ≠ 0 → foV f V outer n inner = .none) ∧ (rfE f t outer n inner = 0 → (foV f V outer n inner).nums = rfL f t outer n inner ∧ (foV f V outer n inner).ok ∧ (foV f V outer n inner).nm ∧ 0 < (foV f V outer n inner).kind ∧ (n ≠ 1 → (foV f V outer n inner).kind = (foV f V outer n inner).least) ∧ (∀ x ∈ rfL f t outer n inner, Num x) ∧ (rfL f t outer n inner).length ≤ 2000000) := by
 obtain ⟨⟨h1, h2, h3, h4, h5⟩, h6⟩ := hV
 have hl2 : V.nums.length = outer * n * inner := by rw [h4, hl]
 have e : foE f V outer n inner = rfE f t outer n inner := by rw [fold_meet h3 hl2, h4]
 refine ⟨e, fun h => foV_bad (by rw [e]; exact h), fun h => ?_⟩
 obtain ⟨a1, a2, a3, a4⟩ := fold_meetV h1 h2 h3 hl2 hs (e.trans h)
 rw [h4] at a1
 refine ⟨a1, a2, a3, ?_, ?_, ?_, ?_⟩
 ·rcases a4 with a4 | a4
  ·rw [foV_one (e.trans h) a4]; omega
  ·exact a4.1
 ·intro h9; rcases a4 with a4 | a4
  ·exact absurd a4 h9
  ·exact a4.2
 ·rw [← a1]; exact VV.nums_num a2 a3
 ·rw [← a1]; have := VV.ok_len a2; have := VV.nums_lenle (V := foV f V outer n inner); omega
end Go.Proofs.YtbacchbcanlciaaGreatDoor

namespace Go.Proofs.YtbacchbcanlciaaGreatDoor
set_option maxRecDepth 100000
open Go.RowKit Fl
set_option linter.unusedVariables false

theorem fo_nums {f : Int} {V : VV} {t : List Nat} {outer n inner : Nat} (hV : KepK t V) (hl : t.length = outer * n * inner) (hs : outer * inner ≤ 1048576) :
  foE f V outer n inner = rfE f t outer n inner ∧ (foV f V outer n inner).nums = rfL f t outer n inner ∧ (foV f V outer n inner).ok ∧ (∀ x ∈ rfL f t outer n inner, Num x) ∧ (rfL f t outer n inner).length ≤ 2000000 := by
 obtain ⟨e, h1, h2⟩ := fo_meet (f := f) hV hl hs
 refine ⟨e, ?_⟩
 by_cases h : rfE f t outer n inner = 0
 ·obtain ⟨a, b, _, _, _, c, d⟩ := h2 h; exact ⟨a, b, c, d⟩
 ·rw [h1 h, rfL_bad h]
  exact ⟨rfl, trivial, (fun x hx => nomatch hx), by simp⟩
theorem flags_num (l : List Bool) : ∀ x ∈ l.map flagW, Num x := fun x hx => by
 obtain ⟨b, _, rfl⟩ := List.mem_map.1 hx; exact flagW_num b
theorem wf_u8f {a : Int} (h : (Lit.int .u8 a).wf = true) : 0 ≤ a ∧ a ≤ 255 := by
 have hm : IntKind.u8.min = 0 ∧ IntKind.u8.max = 255 := by decide
 simp only [Lit.wf, decide_eq_true_eq, Bool.and_eq_true] at h
 rw [hm.1, hm.2] at h; exact h
theorem At1.put1G {w : World} {b : Nat} {u : Value} (h : At1 w b u) (x : Value) : At1 (w.setCell ⟨b, 0, none⟩ x) b x :=
 ⟨by simpa using h.1, World.cell?_setCell_same _ _ _ h.2.1, fun o => by simpa using h.2.2 o⟩
end Go.Proofs.YtbacchbcanlciaaGreatDoor

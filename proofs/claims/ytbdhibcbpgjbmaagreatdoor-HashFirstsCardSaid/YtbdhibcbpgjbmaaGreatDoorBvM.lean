/- Words of booleans: plain mathematics, no program. -/
import Derived.Lib.BitFns
import Derived.Lib.TrailingZeros
namespace Go.Proofs.YtbdhibcbpgjbmaaGreatDoor
set_option maxRecDepth 100000

/-! ## Booleans packed -/
def packL : List Bool → Nat
  | [] => 0
  | b :: l => b.toNat + 2 * packL l
theorem packL_lt : ∀ l : List Bool, packL l < 2 ^ l.length
  | [] => by simp [packL]
  | b :: l => by
    have := packL_lt l
    have hb : b.toNat ≤ 1 := by cases b <;> simp
    rw [packL, List.length_cons, Nat.pow_succ]; omega
theorem testBit_cons (b : Bool) (m : Nat) : ∀ j, (b.toNat + 2 * m).testBit j = if j = 0 then b else m.testBit (j - 1)
  | 0 => by
    rw [Nat.testBit_zero, if_pos rfl]
    have : (b.toNat + 2 * m) % 2 = b.toNat := by cases b <;> simp <;> omega
    rw [this]; cases b <;> rfl
  | j + 1 => by
    rw [Nat.testBit_succ]
    have : (b.toNat + 2 * m) / 2 = m := by cases b <;> simp; omega
    rw [this]; simp
theorem testBit_packL : ∀ (l : List Bool) (j : Nat), (packL l).testBit j = l[j]?.getD false
  | [], j => by simp [packL]
  | b :: l, 0 => by rw [packL, testBit_cons]; simp
  | b :: l, j + 1 => by rw [packL, testBit_cons, if_neg (by omega)]; simp [testBit_packL l j]

/-- Word i of a sequence of booleans. -/
def bw (F : Nat → Bool) (i : Nat) : Nat := packL ((List.range 64).map fun j => F (64 * i + j))
theorem bw_lt (F : Nat → Bool) (i : Nat) : bw F i < 18446744073709551616 := by
  have := packL_lt ((List.range 64).map fun j => F (64 * i + j))
  rw [List.length_map, List.length_range] at this; exact this
theorem testBit_bw (F : Nat → Bool) (i j : Nat) : (bw F i).testBit j = (decide (j < 64) && F (64 * i + j)) := by
  rw [bw, testBit_packL]
  by_cases h : j < 64 <;> simp [h]
theorem bw_ext (F : Nat → Bool) (i n : Nat) (hn : n < 18446744073709551616) (h : ∀ j, j < 64 → n.testBit j = F (64 * i + j)) : n = bw F i := by
  apply Nat.eq_of_testBit_eq
  intro j
  rw [testBit_bw]
  by_cases hj : j < 64
  · simp [hj, h j hj]
  · rw [Nat.testBit_lt_two_pow (Nat.lt_of_lt_of_le (m := 2 ^ 64) hn (Nat.pow_le_pow_right (by omega) (by omega)))]; simp [hj]
theorem bw_congr {F G : Nat → Bool} {i : Nat} (h : ∀ j, j < 64 → F (64 * i + j) = G (64 * i + j)) : bw F i = bw G i :=
  bw_ext G i _ (bw_lt F i) fun j hj => by rw [testBit_bw, h j hj]; simp [hj]

/-- Boolean k of a list; false, where there is none. -/
def sq (l : List Bool) (k : Nat) : Bool := l[k]?.getD false
theorem sq_out {l : List Bool} {k : Nat} (h : l.length ≤ k) : sq l k = false := by simp [sq, h]
theorem sq_in {l : List Bool} {k : Nat} (h : k < l.length) : sq l k = l[k] := by simp [sq, h]

/-- W words of a sequence. -/
def bws (F : Nat → Bool) (W : Nat) : List Nat := (List.range W).map (bw F)
theorem bws_len (F : Nat → Bool) (W : Nat) : (bws F W).length = W := by simp [bws]
theorem bws_get (F : Nat → Bool) (W i : Nat) (h : i < (bws F W).length) : (bws F W)[i] = bw F i := by simp [bws]
/-- The words of a list. -/
def words (l : List Bool) : List Nat := bws (sq l) ((l.length + 63) / 64)
theorem words_len (l : List Bool) : (words l).length = (l.length + 63) / 64 := bws_len _ _

/-! ## Words filled one by one -/
def part (f : Nat → Nat) (W k : Nat) : List Nat := (List.range W).map fun i => if i < k then f i else 0
theorem part_len (f : Nat → Nat) (W k : Nat) : (part f W k).length = W := by simp [part]
theorem part_get (f : Nat → Nat) (W k i : Nat) (h : i < (part f W k).length) : (part f W k)[i] = if i < k then f i else 0 := by simp [part]
theorem part_zero (f : Nat → Nat) (W : Nat) : part f W 0 = List.replicate W 0 := by
  apply List.ext_getElem (by simp [part]); intro i h1 h2; simp [part]
theorem part_set (f : Nat → Nat) (W k : Nat) : (part f W k).set k (f k) = part f W (k + 1) := by
  apply List.ext_getElem (by simp [part])
  intro i h1 h2
  rw [List.getElem_set]
  simp only [part_get]
  by_cases e : k = i
  · subst e; rw [if_pos rfl, if_pos (by omega)]
  · rw [if_neg e]
    by_cases h : i < k
    · rw [if_pos h, if_pos (by omega)]
    · rw [if_neg h, if_neg (by omega)]
theorem part_full (f : Nat → Nat) (W : Nat) : part f W W = (List.range W).map f := by
  apply List.ext_getElem (by simp [part]); intro i h1 h2
  have : i < W := by simpa [part] using h1
  simp [part, this]

/-! ## Cutting the last word -/
def trimmed (n : Nat) (ws : List Nat) : List Nat := if n % 64 = 0 then ws else ws.set (ws.length - 1) (ws[ws.length - 1]?.getD 0 &&& (2 ^ (n % 64) - 1))
theorem trimmed_len (n : Nat) (ws : List Nat) : (trimmed n ws).length = ws.length := by unfold trimmed; split <;> simp
theorem trimmed_bws (G : Nat → Bool) (l : List Bool) (h : ∀ k, k < l.length → G k = sq l k) : trimmed l.length (bws G ((l.length + 63) / 64)) = words l := by
  apply List.ext_getElem (by rw [trimmed_len, bws_len, words_len])
  intro i h1 h2
  rw [words_len] at h2
  have hr : (words l)[i]'(by rw [words_len]; exact h2) = bw (sq l) i := bws_get _ _ _ _
  rw [hr]
  have hfull : 64 * i + 64 ≤ l.length → bw G i = bw (sq l) i := fun hle => bw_congr fun j hj => h _ (by omega)
  unfold trimmed
  by_cases hz : l.length % 64 = 0
  · simp only [hz, if_true, bws_get]
    exact hfull (by omega)
  · simp only [hz, if_false, List.getElem_set, bws_len, bws_get]
    by_cases e : (l.length + 63) / 64 - 1 = i
    · rw [if_pos e, e, List.getElem?_eq_getElem (by rw [bws_len]; exact h2), bws_get]
      simp only [Option.getD_some]
      apply bw_ext
      · exact Nat.lt_of_le_of_lt Nat.and_le_left (bw_lt _ _)
      · intro j hj
        rw [Nat.testBit_and, testBit_bw, Nat.testBit_two_pow_sub_one]
        by_cases hjl : j < l.length % 64
        · simp [hj, hjl, h (64 * i + j) (by omega)]
        · simp [hj, hjl, sq_out (l := l) (k := 64 * i + j) (by omega)]
    · rw [if_neg e]
      exact hfull (by omega)

/-- Two lists of one length are alike where their words are. -/
theorem words_inj {x y : List Bool} (hl : x.length = y.length) (h : words x = words y) : x = y := by
  apply List.ext_getElem hl
  intro k h1 h2
  have hk : k / 64 < (words x).length := by rw [words_len]; omega
  have hk' : k / 64 < (words y).length := by rw [words_len]; omega
  have hw : bw (sq x) (k / 64) = bw (sq y) (k / 64) := by
    have e1 : (words x)[k / 64]'hk = bw (sq x) (k / 64) := bws_get _ _ _ _
    have e2 : (words y)[k / 64]'hk' = bw (sq y) (k / 64) := bws_get _ _ _ _
    have e3 : (words x)[k / 64]? = (words y)[k / 64]? := congrArg (fun z : List Nat => z[k / 64]?) h
    rw [List.getElem?_eq_getElem hk, List.getElem?_eq_getElem hk'] at e3
    exact e1.symm.trans ((Option.some.inj e3).trans e2)
  have ht := congrArg (fun m => Nat.testBit m (k % 64)) hw
  simp only [testBit_bw, show 64 * (k / 64) + k % 64 = k by omega, show k % 64 < 64 by omega, decide_true, Bool.true_and] at ht
  rwa [sq_in h1, sq_in h2] at ht

/-! ## Filling a word bit by bit -/
theorem bw_hit (l : List Bool) (k i : Nat) (hk : k < l.length) (hb : l[k] = true) : bw (sq (l.take (k + 1))) i = if i = k / 64 then bw (sq (l.take k)) i ||| 2 ^ (k % 64) else bw (sq (l.take k)) i := by
  have hs : ∀ m, sq (l.take (k + 1)) m = (sq (l.take k) m || decide (m = k)) := by
    intro m
    simp only [sq, List.getElem?_take]
    by_cases h1 : m < k
    · rw [if_pos (by omega), if_pos h1]; simp [show m ≠ k by omega]
    · by_cases h2 : m = k
      · subst h2; simp [hk, hb]
      · rw [if_neg (by omega), if_neg h1]; simp [h2]
  by_cases e : i = k / 64
  · rw [if_pos e]
    symm
    apply bw_ext
    · exact Nat.or_lt_two_pow (n := 64) (bw_lt _ _) (Nat.pow_lt_pow_right (by decide) (Nat.mod_lt _ (by decide)))
    · intro j hj
      rw [Nat.testBit_or, testBit_bw, hs, Nat.testBit_two_pow]
      simp only [hj, decide_true, Bool.true_and]
      congr 1
      rw [decide_eq_decide]; omega
  · rw [if_neg e]
    apply bw_congr
    intro j hj
    rw [hs, decide_eq_false (by omega), Bool.or_false]
theorem bw_miss (l : List Bool) (k i : Nat) (hk : k < l.length) (hb : l[k] = false) : bw (sq (l.take (k + 1))) i = bw (sq (l.take k)) i := by
  apply bw_congr
  intro j hj
  generalize 64 * i + j = m
  simp only [sq, List.getElem?_take]
  by_cases h1 : m < k
  · rw [if_pos (by omega), if_pos h1]
  · by_cases h2 : m = k
    · subst h2; simp [hk, hb]
    · rw [if_neg (by omega), if_neg h1]
theorem bws_hit (l : List Bool) (W k : Nat) (hk : k < l.length) (hb : l[k] = true) : (bws (sq (l.take k)) W).set (k / 64) (bw (sq (l.take k)) (k / 64) ||| 2 ^ (k % 64)) = bws (sq (l.take (k + 1))) W := by
  apply List.ext_getElem (by simp [bws])
  intro i h1 h2
  rw [List.getElem_set]
  simp only [bws_get, bw_hit l k i hk hb]
  by_cases e : k / 64 = i
  · rw [if_pos e, if_pos e.symm, e]
  · rw [if_neg e, if_neg (fun h => e h.symm)]
theorem bws_miss (l : List Bool) (W k : Nat) (hk : k < l.length) (hb : l[k] = false) : bws (sq (l.take k)) W = bws (sq (l.take (k + 1))) W := by
  apply List.ext_getElem (by simp [bws])
  intro i h1 h2
  simp only [bws_get, bw_miss l k i hk hb]

/-! ## Negation, tables -/
theorem testBit_compl (x j : Nat) (hx : x < 18446744073709551616) : (18446744073709551615 - x).testBit j = (decide (j < 64) && !x.testBit j) := by
  have := Nat.testBit_two_pow_sub_succ (n := 64) (x := x) hx j
  rwa [show 2 ^ 64 - (x + 1) = 18446744073709551615 - x by omega] at this
theorem testBit_ones (j : Nat) : (18446744073709551615 : Nat).testBit j = decide (j < 64) := by
  have := Nat.testBit_two_pow_sub_one 64 j
  exact this
theorem bw_not (F : Nat → Bool) (i : Nat) : 18446744073709551615 - bw F i = bw (fun k => !F k) i := by
  apply bw_ext
  · omega
  · intro j hj
    rw [testBit_compl _ _ (bw_lt _ _), testBit_bw]; simp [hj]
def rowOf (b : Bool) : Nat := if b then 18446744073709551615 else 0
theorem rowOf_lt (b : Bool) : rowOf b < 18446744073709551616 := by cases b <;> simp [rowOf]
theorem testBit_rowOf (b : Bool) (j : Nat) : (rowOf b).testBit j = (decide (j < 64) && b) := by
  cases b
  · simp [rowOf]
  · simp [rowOf, testBit_ones]
/-- What a table tells of two booleans. -/
def tab (t : Nat) (x y : Bool) : Bool := t.testBit (2 * x.toNat + y.toNat)
theorem bw_tab (t : Nat) (F G : Nat → Bool) (i : Nat) :
    (rowOf (t.testBit 0) &&& (18446744073709551615 - bw F i) &&& (18446744073709551615 - bw G i)) ||| (rowOf (t.testBit 1) &&& (18446744073709551615 - bw F i) &&& bw G i) |||
      (rowOf (t.testBit 2) &&& bw F i &&& (18446744073709551615 - bw G i)) ||| (rowOf (t.testBit 3) &&& bw F i &&& bw G i) = bw (fun k => tab t (F k) (G k)) i := by
  apply bw_ext
  · have a (x y : Nat) (h : x < 2 ^ 64) : x &&& y < 2 ^ 64 := Nat.lt_of_le_of_lt Nat.and_le_left h
    exact Nat.or_lt_two_pow (n := 64) (Nat.or_lt_two_pow (Nat.or_lt_two_pow (a _ _ (a _ _ (rowOf_lt _))) (a _ _ (a _ _ (rowOf_lt _)))) (a _ _ (a _ _ (rowOf_lt _)))) (a _ _ (a _ _ (rowOf_lt _)))
  · intro j hj
    simp only [Nat.testBit_or, Nat.testBit_and, testBit_rowOf, testBit_compl _ _ (bw_lt _ _), testBit_bw, hj, decide_true, Bool.true_and, tab]
    cases F (64 * i + j) <;> cases G (64 * i + j) <;> simp

/-! ## Parity, fill -/
def pfx (F : Nat → Bool) : Nat → Bool
  | 0 => false
  | n + 1 => pfx F n ^^ F n
theorem pfx_add (F : Nat → Bool) (a : Nat) : ∀ m, pfx F (a + m) = (pfx F a ^^ pfx (fun t => F (a + t)) m)
  | 0 => by simp [pfx]
  | m + 1 => by rw [← Nat.add_assoc, pfx, pfx_add F a m, pfx, Bool.xor_assoc]
theorem pfx_congr {F G : Nat → Bool} : ∀ n, (∀ k, k < n → F k = G k) → pfx F n = pfx G n
  | 0, _ => rfl
  | n + 1, h => by rw [pfx, pfx, pfx_congr n fun k hk => h k (by omega), h n (by omega)]
/-- One doubling: each bit takes in the one s below. -/
def dbl (w s : Nat) : Nat := w ^^^ (w * 2 ^ s % 18446744073709551616)
theorem testBit_shl (w s j : Nat) : (w * 2 ^ s % 18446744073709551616).testBit j = (decide (j < 64) && (decide (s ≤ j) && w.testBit (j - s))) := by
  have h1 := Nat.testBit_mod_two_pow (w * 2 ^ s) 64 j
  rw [show (18446744073709551616 : Nat) = 2 ^ 64 from rfl, h1, Nat.mul_comm, Nat.testBit_two_pow_mul]
theorem dbl_lt (w s : Nat) (h : w < 18446744073709551616) : dbl w s < 18446744073709551616 :=
  Nat.xor_lt_two_pow (n := 64) h (Nat.mod_lt _ (by decide))
theorem dbl_step (F : Nat → Bool) (w s : Nat) (h : ∀ j, j < 64 → w.testBit j = (pfx F (j + 1) ^^ pfx F (j + 1 - s))) :
    ∀ j, j < 64 → (dbl w s).testBit j = (pfx F (j + 1) ^^ pfx F (j + 1 - 2 * s)) := by
  intro j hj
  rw [dbl, Nat.testBit_xor, testBit_shl, h j hj]
  by_cases hs : s ≤ j
  · rw [h (j - s) (by omega)]
    simp only [hj, hs, decide_true, Bool.true_and, show j - s + 1 = j + 1 - s by omega, show j + 1 - s - s = j + 1 - 2 * s by omega]
    cases pfx F (j + 1) <;> cases pfx F (j + 1 - s) <;> cases pfx F (j + 1 - 2 * s) <;> rfl
  · simp only [hs, decide_false, Bool.false_and, Bool.and_false, Bool.xor_false]
    rw [show j + 1 - s = 0 ∨ j + 1 - s = 0 by omega |>.elim id id, show j + 1 - 2 * s = 0 by omega]
def sixfold (w : Nat) : Nat := dbl (dbl (dbl (dbl (dbl (dbl w 1) 2) 4) 8) 16) 32
theorem sixfold_lt (w : Nat) (h : w < 18446744073709551616) : sixfold w < 18446744073709551616 :=
  dbl_lt _ _ (dbl_lt _ _ (dbl_lt _ _ (dbl_lt _ _ (dbl_lt _ _ (dbl_lt _ _ h)))))
theorem testBit_sixfold (w j : Nat) (hj : j < 64) : (sixfold w).testBit j = pfx w.testBit (j + 1) := by
  have h0 : ∀ j, j < 64 → w.testBit j = (pfx w.testBit (j + 1) ^^ pfx w.testBit (j + 1 - 1)) := by
    intro j _; rw [Nat.add_sub_cancel, pfx]; cases pfx w.testBit j <;> cases w.testBit j <;> rfl
  have h := dbl_step _ _ 32 (dbl_step _ _ 16 (dbl_step _ _ 8 (dbl_step _ _ 4 (dbl_step _ _ 2 (dbl_step _ _ 1 h0))))) j hj
  rw [show j + 1 - 2 * 32 = 0 by omega] at h
  simpa [sixfold, pfx] using h
theorem bw_parity (F : Nat → Bool) (i : Nat) : sixfold (bw F i) ^^^ rowOf (pfx F (64 * i)) = bw (fun k => pfx F (k + 1)) i := by
  apply bw_ext
  · exact Nat.xor_lt_two_pow (n := 64) (sixfold_lt _ (bw_lt _ _)) (rowOf_lt _)
  · intro j hj
    rw [Nat.testBit_xor, testBit_sixfold _ _ hj, testBit_rowOf, show 64 * i + j + 1 = 64 * i + (j + 1) by omega, pfx_add F (64 * i) (j + 1)]
    simp only [hj, decide_true, Bool.true_and]
    rw [Bool.xor_comm]
    congr 1
    exact pfx_congr _ fun k hk => by rw [testBit_bw, decide_eq_true (by omega : k < 64)]; rfl

def por (F : Nat → Bool) : Nat → Bool
  | 0 => false
  | n + 1 => por F n || F n
theorem por_add (F : Nat → Bool) (a : Nat) : ∀ m, por F (a + m) = (por F a || por (fun t => F (a + t)) m)
  | 0 => by simp [por]
  | m + 1 => by rw [← Nat.add_assoc, por, por_add F a m, por, Bool.or_assoc]
theorem por_congr {F G : Nat → Bool} : ∀ n, (∀ k, k < n → F k = G k) → por F n = por G n
  | 0, _ => rfl
  | n + 1, h => by rw [por, por, por_congr n fun k hk => h k (by omega), h n (by omega)]
theorem por_cons (F : Nat → Bool) : ∀ n, por F (n + 1) = (F 0 || por (fun k => F (k + 1)) n)
  | 0 => by simp [por]
  | n + 1 => by rw [por, por_cons F n, por, Bool.or_assoc]
theorem fillUp : ∀ (n x : Nat), x < 2 ^ n → x ≠ 0 → ∀ j, j < n → (x ||| (2 ^ n - x)).testBit j = por x.testBit (j + 1)
  | 0, x, hx, h0, j, hj => by omega
  | n + 1, x, hx, h0, j, hj => by
    rw [Nat.pow_succ] at *
    by_cases hodd : x % 2 = 1
    · have hx2 : x = 2 * (x / 2) + 1 := by omega
      have hb0 : x.testBit 0 = true := by rw [Nat.testBit_zero]; simp [hodd]
      have hp : por x.testBit (j + 1) = true := by rw [por_cons, hb0]; rfl
      rw [hp]
      cases j with
      | zero => rw [Nat.testBit_or, hb0]; rfl
      | succ j =>
        rw [Nat.testBit_or, Nat.testBit_succ, Nat.testBit_succ]
        have e : (2 ^ n * 2 - x) / 2 = 2 ^ n - (x / 2 + 1) := by omega
        rw [e, Nat.testBit_two_pow_sub_succ (by omega) j, decide_eq_true (by omega : j < n)]
        cases (x / 2).testBit j <;> rfl
    · have hb0 : x.testBit 0 = false := by rw [Nat.testBit_zero]; simp [hodd]
      have e : (2 ^ n * 2 - x) / 2 = 2 ^ n - x / 2 := by omega
      rw [por_cons, hb0, Bool.false_or]
      cases j with
      | zero =>
        rw [Nat.testBit_or, hb0, Nat.testBit_zero, por]
        simp; omega
      | succ j =>
        have ih := fillUp n (x / 2) (by omega) (by omega) j (by omega)
        rw [Nat.testBit_or, Nat.testBit_succ, Nat.testBit_succ, e, ← Nat.testBit_or, ih]
        exact por_congr _ fun k _ => (Nat.testBit_succ x k).symm
/-- w, or-ed with its negative. -/
def upFill (w : Nat) : Nat := w ||| ((18446744073709551616 - w) % 18446744073709551616)
theorem upFill_lt (w : Nat) (h : w < 18446744073709551616) : upFill w < 18446744073709551616 := Nat.or_lt_two_pow (n := 64) h (Nat.mod_lt _ (by decide))
theorem por_zero : ∀ n, por (fun _ => false) n = false
  | 0 => rfl
  | n + 1 => by rw [por, por_zero n]; rfl
theorem testBit_upFill (w j : Nat) (h : w < 18446744073709551616) (hj : j < 64) : (upFill w).testBit j = por w.testBit (j + 1) := by
  by_cases h0 : w = 0
  · subst h0
    rw [por_congr (G := fun _ => false) _ (fun k _ => Nat.zero_testBit k), por_zero]
    simp [upFill]
  · rw [upFill, Nat.mod_eq_of_lt (by omega)]
    exact fillUp 64 w h h0 j hj
theorem bw_fill (F : Nat → Bool) (i : Nat) : upFill (bw F i) ||| rowOf (por F (64 * i)) = bw (fun k => por F (k + 1)) i := by
  apply bw_ext
  · exact Nat.or_lt_two_pow (n := 64) (upFill_lt _ (bw_lt _ _)) (rowOf_lt _)
  · intro j hj
    rw [Nat.testBit_or, testBit_upFill _ _ (bw_lt _ _) hj, testBit_rowOf, show 64 * i + j + 1 = 64 * i + (j + 1) by omega, por_add F (64 * i) (j + 1)]
    simp only [hj, decide_true, Bool.true_and]
    rw [Bool.or_comm]
    congr 1
    exact por_congr _ fun k hk => by rw [testBit_bw, decide_eq_true (by omega : k < 64)]; rfl
/-- The last bit of a word, as a word of that bit. -/
theorem bw_last (F : Nat → Bool) (i : Nat) : bw F i / 2 ^ 63 = (F (64 * i + 63)).toNat := by
  have h1 := testBit_bw F i 63
  have h2 := bw_lt F i
  rw [Nat.testBit_eq_decide_div_mod_eq] at h1
  simp only [show (63 : Nat) < 64 from by omega, decide_true, Bool.true_and] at h1
  have h3 : bw F i / 2 ^ 63 < 2 := by omega
  cases hF : F (64 * i + 63)
  · rw [hF] at h1; simp at h1; simp; omega
  · rw [hF] at h1; simp at h1; simp; omega

/-! ## Cutting out -/
theorem bw_cut (F : Nat → Bool) (st sh i : Nat) (hs : sh < 64) : bw F (st + i) / 2 ^ sh ||| (bw F (st + i + 1) * 2 ^ (64 - sh) % 18446744073709551616) = bw (fun k => F (64 * st + sh + k)) i := by
  apply bw_ext
  · exact Nat.or_lt_two_pow (n := 64) (Nat.lt_of_le_of_lt (Nat.div_le_self _ _) (bw_lt _ _)) (Nat.mod_lt _ (by decide))
  · intro j hj
    rw [Nat.testBit_or, ← Nat.shiftRight_eq_div_pow, Nat.testBit_shiftRight, testBit_bw, testBit_shl, testBit_bw]
    by_cases h : sh + j < 64
    · simp only [h, hj, decide_true, Bool.true_and, decide_eq_false (show ¬ 64 - sh ≤ j by omega), Bool.false_and, Bool.or_false]
      congr 1; omega
    · simp only [h, hj, decide_false, decide_true, Bool.true_and, Bool.false_and, Bool.false_or, decide_eq_true (show 64 - sh ≤ j by omega), decide_eq_true (show j - (64 - sh) < 64 by omega)]
      congr 1; omega
theorem bw_cut_last (F : Nat → Bool) (st sh i : Nat) (hs : sh < 64) (h0 : ∀ k, 64 * (st + i + 1) ≤ k → F k = false) : bw F (st + i) / 2 ^ sh = bw (fun k => F (64 * st + sh + k)) i := by
  rw [← bw_cut F st sh i hs]
  have : bw F (st + i + 1) = 0 := by
    apply Nat.eq_of_testBit_eq; intro j; rw [testBit_bw, h0 _ (by omega)]; simp
  rw [this]; simp

/-! ## Counting -/
def cnt (F : Nat → Bool) : Nat → Nat
  | 0 => 0
  | n + 1 => cnt F n + (F n).toNat
theorem cnt_add (F : Nat → Bool) (a : Nat) : ∀ m, cnt F (a + m) = cnt F a + cnt (fun t => F (a + t)) m
  | 0 => by simp [cnt]
  | m + 1 => by rw [← Nat.add_assoc, cnt, cnt_add F a m, cnt, Nat.add_assoc]
theorem cnt_congr {F G : Nat → Bool} : ∀ n, (∀ k, k < n → F k = G k) → cnt F n = cnt G n
  | 0, _ => rfl
  | n + 1, h => by rw [cnt, cnt, cnt_congr n fun k hk => h k (by omega), h n (by omega)]
theorem cnt_cons (F : Nat → Bool) : ∀ n, cnt F (n + 1) = (F 0).toNat + cnt (fun k => F (k + 1)) n
  | 0 => by simp [cnt]
  | n + 1 => by rw [cnt, cnt_cons F n, cnt, Nat.add_assoc]
theorem cnt_le (F : Nat → Bool) : ∀ n, cnt F n ≤ n
  | 0 => Nat.le_refl _
  | n + 1 => by have := cnt_le F n; have : (F n).toNat ≤ 1 := by cases F n <;> simp
                rw [cnt]; omega
theorem popAux_cnt : ∀ (n x : Nat), Lib.popAux n x = cnt x.testBit n
  | 0, x => rfl
  | n + 1, x => by
    rw [Lib.popAux, popAux_cnt n (x / 2), cnt_cons]
    congr 1
    · rw [Nat.testBit_zero]; have : x % 2 = 0 ∨ x % 2 = 1 := by omega
      rcases this with h | h <;> simp [h]
    · exact cnt_congr _ fun k _ => (Nat.testBit_succ x k).symm
theorem popAux_add (m : Nat) : ∀ (n x : Nat), Lib.popAux (n + m) x = Lib.popAux n (x % 2 ^ n) + Lib.popAux m (x / 2 ^ n)
  | 0, x => by simp [Lib.popAux]
  | n + 1, x => by
    rw [show n + 1 + m = (n + m) + 1 by omega, Lib.popAux, popAux_add m n (x / 2), Lib.popAux, Nat.div_div_eq_div_mul, Nat.pow_succ, Nat.mul_comm 2, Nat.mod_mul_left_mod, Nat.add_assoc]
    congr 3
    rw [Nat.mul_comm (2 ^ n) 2, Nat.mod_mul_right_div_self]
end Go.Proofs.YtbdhibcbpgjbmaaGreatDoor
